/- A bracket, one, and a part of a formula, as the program reads them. -/
import Derived.Test.YtneialmpaiejcaaTCount
namespace Go.Proofs.Ytneialmpaiejcaa
open Go.RowKit
set_option linter.unusedVariables false

set_option maxHeartbeats 1600000 in
theorem brackT_does (s : ByteArray) (W : PT) (m : Nat) (hs : s.size ≤ 4000) (hF : Fwd s W) (hW : TDoes 11 s W m) (i n t d b : Nat) (w : World) (hi : i < s.size) (hm : s.size - i < m + 1) (hn : n ≤ 30) (ht : t ≤ 5) (hd : d ≤ 40) (h : TRd w b s i d n t) :
    Calls Try.prog 30 #[.pointer (some ⟨b, 0, none⟩)] w (TGives s b d w (brackQ s W i n t d)) := by
  have c1 := h.c1
  have c2 := h.c2
  have f1 := h.f 1
  have f2 := h.f 2
  have H : Hid (TRd w b s i d n t) := h
  have HW : Hid (TDoes 11 s W m) := hW
  have H0 : Hid (b < w.heap.size) := h.lt
  clear h hW
  by_cases h40 : d = 40
  · subst h40
    have hS : brackQ s W i n t 40 = .bad 7 i := by simp [brackQ]
    rw [hS]
    go_enter Try.func30, Try.ntmps30
    go_wp2_with fail
    refine (faultT_any s b i 40 n t 7 _ H.out).mono ?_
    rintro e w5 ⟨rfl, hg5⟩
    have G5 : Hid (w.grownBy w5 (some b)) := grown_some hg5
    clear hg5
    go_wp2_with fail
    exact ⟨rfl, G5.out, rfl⟩
  · have h40' : ((d : Int) == 40) = false := by simp; omega
    have G0 : Hid (w.grownBy ((w.setCell ⟨b, 2, none⟩ (.int .i64 ((d : Int) + 1))).setCell ⟨b, 1, none⟩ (.int .i64 ((i : Int) + 1))) (some b)) := grown_trans (grown_set w _ _) (grown_set _ _ _)
    have R0 : Hid (TRd ((w.setCell ⟨b, 2, none⟩ (.int .i64 ((d : Int) + 1))).setCell ⟨b, 1, none⟩ (.int .i64 ((i : Int) + 1))) b s (i + 1) (d + 1) n t) := (H.out.set2 (d + 1) (by omega)).set1 (i + 1) (by omega)
    have g1 := (H.out.set2 (d + 1) (x := (d : Int) + 1) (by omega)).c1
    have g1f := (H.out.set2 (d + 1) (x := (d : Int) + 1) (by omega)).f 1
    cases hR : W (i + 1) n t (d + 1) with
    | bad c j =>
      have hS : brackQ s W i n t d = .bad c j := by simp [brackQ, h40, hR]
      rw [hS]
      go_enter Try.func30, Try.ntmps30
      go_wp2_with fail
      refine (HW.out (i + 1) n t (d + 1) b _ (by omega) (by omega) hn ht (by omega) R0.out).mono ?_
      rw [hR]
      rintro e w2 ⟨hg, rfl⟩
      exact ⟨rfl, grown_trans G0.out hg, rfl⟩
    | good f j n2 t2 =>
      obtain ⟨a1, a2, a3, a4, a5⟩ := hF.good hR (by omega) hn ht
      by_cases h41 : byT s j = 41
      · have hS : brackQ s W i n t d = .good f (j + 1) n2 t2 := by simp [brackQ, h40, hR, h41]
        have hjl := byT_pos h41 (by omega)
        rw [hS]
        clear hS
        go_enter Try.func30, Try.ntmps30
        go_wp2_with fail
        refine (HW.out (i + 1) n t (d + 1) b _ (by omega) (by omega) hn ht (by omega) R0.out).mono ?_
        rw [hR]
        rintro e w2 ⟨hg, v, rfl, hrd, hl⟩
        have HL : Hid (TreeAt (fun k => w.heap.size ≤ k) w2 v (trOf f)) := hl.from G0.out.size
        have G2 : Hid (w.grownBy w2 (some b)) := grown_trans G0.out hg
        have R2 : Hid (TRd w2 b s j (d + 1) n2 t2) := hrd
        clear hl hg hrd hR G0 R0 c1 c2 f1 f2 H HW g1 g1f
        go_wp2_with fail
        refine (peekT_any s b j (d + 1) n2 t2 _ hs (by omega) R2.out).mono ?_
        rintro e w3 ⟨rfl, hg3⟩
        rw [h41]
        have R3 := R2.out.kept hg3
        have G3 : Hid (w.grownBy w3 (some b)) := grown_trans G2.out (grown_some hg3)
        have HL3 : Hid (TreeAt (fun k => w.heap.size ≤ k) w3 v (trOf f)) := HL.out.grown hg3
        have c1 := R3.c1
        have c2 := R3.c2
        have f1 := R3.f 1
        have f2 := R3.f 2
        have k2 := (R3.set1 (j + 1) (x := (j : Int) + 1) (by omega)).c2
        have k2f := (R3.set1 (j + 1) (x := (j : Int) + 1) (by omega)).f 2
        have HR3 : Hid (TRd w3 b s j (d + 1) n2 t2) := R3
        clear R3 hg3 R2 G2 HL
        go_wp2_with fail
        go_ret
        exact ⟨grown_trans G3.out (grown_trans (grown_set _ _ _) (grown_set _ _ _)), v, rfl, (HR3.out.set1 (j + 1) (by omega)).set2 d (by omega), (HL3.out.past (grown_set _ _ _) H0.out).past (grown_set _ _ _) H0.out⟩
      · have hS : brackQ s W i n t d = .bad 4 j := by simp [brackQ, h40, hR, h41]
        have h41' : ((byT s j : Int) == 41) = false := by simp; omega
        rw [hS]
        clear hS
        go_enter Try.func30, Try.ntmps30
        go_wp2_with fail
        refine (HW.out (i + 1) n t (d + 1) b _ (by omega) (by omega) hn ht (by omega) R0.out).mono ?_
        rw [hR]
        rintro e w2 ⟨hg, v, rfl, hrd, hl⟩
        have G2 : Hid (w.grownBy w2 (some b)) := grown_trans G0.out hg
        have R2 : Hid (TRd w2 b s j (d + 1) n2 t2) := hrd
        clear hl hg hrd hR G0 R0 c1 c2 f1 f2 H HW g1 g1f
        go_wp2_with fail
        refine (peekT_any s b j (d + 1) n2 t2 _ hs (by omega) R2.out).mono ?_
        rintro e w3 ⟨rfl, hg3⟩
        have R3 : Hid (TRd w3 b s j (d + 1) n2 t2) := R2.out.kept hg3
        have G3 : Hid (w.grownBy w3 (some b)) := grown_trans G2.out (grown_some hg3)
        clear hg3 R2 G2
        go_wp2_with fail
        refine (faultT_any s b j (d + 1) n2 t2 4 _ R3.out).mono ?_
        rintro e w5 ⟨rfl, hg5⟩
        have G5 : Hid (w.grownBy w5 (some b)) := grown_trans G3.out (grown_some hg5)
        clear hg5
        go_wp2_with fail
        exact ⟨rfl, G5.out, rfl⟩

set_option maxHeartbeats 3200000 in
theorem oneT_does (s : ByteArray) (O W : PT) (m : Nat) (hs : s.size ≤ 4000) (hO : Fwd s O) (hF : Fwd s W) (hOd : TDoes 27 s O m) (hW : TDoes 11 s W m) : TDoes 27 s (oneQ s O W) (m + 1) := by
  intro i n t d b w hi hm hn ht hd h
  have HB : Hid (∀ w1, i < s.size → TRd w1 b s i d n t → Calls Try.prog 30 #[.pointer (some ⟨b, 0, none⟩)] w1 (TGives s b d w1 (brackQ s W i n t d))) := fun w1 hi1 h1 => brackT_does s W m hs hF hW i n t d b w1 hi1 hm hn ht hd h1
  have HP : Hid (Calls Try.prog 20 #[.pointer (some ⟨b, 0, none⟩)] w fun e w' => e = .returned (.int .u8 (byT s i)) ∧ w.grownBy w' none) := peekT_any s b i d n t w hs hi h
  have HCf : Hid (∀ W, TRd W b s i d n t → fullC (byT s i) n t = true → Calls Try.prog 21 #[.pointer (some ⟨b, 0, none⟩)] W fun e w' => e = FPan 7 i ∧ W.grownBy w' (some b)) := fun W h1 h2 => countT_full s b i d n t W hs hi hn ht h2 h1
  have HCg : Hid (∀ W, TRd W b s i d n t → ¬ fullC (byT s i) n t = true → Calls Try.prog 21 #[.pointer (some ⟨b, 0, none⟩)] W fun e w' => e = .returned (.tuple #[]) ∧ W.grownBy w' (some b) ∧ TRd w' b s (i + 1) d (n + 1) (tmC (byT s i) t)) := fun W h1 h2 => countT_go s b i d n t W hs hi hn ht h2 h1
  have HO : Hid (∀ W, i < s.size → ¬ fullC (byT s i) n t = true → TRd W b s (i + 1) d (n + 1) (tmC (byT s i) t) → Calls Try.prog 27 #[.pointer (some ⟨b, 0, none⟩)] W (TGives s b d W (O (i + 1) (n + 1) (tmC (byT s i) t) d))) := fun W h1 h2 h3 => by
    obtain ⟨q1, q2⟩ := full_not h2
    exact hOd (i + 1) (n + 1) _ d b W (by omega) (by omega) q1 q2 hd h3
  have H : Hid (TRd w b s i d n t) := h
  have H0 : Hid (b < w.heap.size) := h.lt
  have HI : Hid (0 < byT s i → i < s.size) := fun h1 => byT_pos rfl h1
  clear h hOd hW
  unfold oneQ
  generalize byT s i = c at *
  by_cases hA : c = 33 ∨ c = 88 ∨ c = 70 ∨ c = 71
  · rw [if_pos hA]
    have HA : Hid (c = 33 ∨ c = 88 ∨ c = 70 ∨ c = 71) := hA
    have hil : i < s.size := HI.out (by omega)
    by_cases hf : fullC c n t = true
    · rw [if_pos hf]
      have CF : Hid (∀ W, TRd W b s i d n t → Calls Try.prog 21 #[.pointer (some ⟨b, 0, none⟩)] W fun e w' => e = FPan 7 i ∧ W.grownBy w' (some b)) := fun W h1 => HCf.out W h1 hf
      clear HCf HCg HO HB hf
      rcases hA with rfl | rfl | rfl | rfl
      all_goals
        go_enter Try.func27, Try.ntmps27
        go_wp2_with fail
        refine HP.out.mono ?_
        rintro e w2 ⟨rfl, hg2⟩
        have R2 : Hid (TRd w2 b s i d n t) := H.out.kept hg2
        have G2 : Hid (w.grownBy w2 (some b)) := grown_some hg2
        clear hg2
        go_wp2_with fail
        refine (CF.out _ R2.out).mono ?_
        rintro e w3 ⟨rfl, hg3⟩
        exact ⟨rfl, grown_trans G2.out hg3, rfl⟩
    · rw [if_neg hf]
      have CG : Hid (∀ W, TRd W b s i d n t → Calls Try.prog 21 #[.pointer (some ⟨b, 0, none⟩)] W fun e w' => e = .returned (.tuple #[]) ∧ W.grownBy w' (some b) ∧ TRd w' b s (i + 1) d (n + 1) (tmC c t)) := fun W h1 => HCg.out W h1 hf
      have CO : Hid (∀ W, TRd W b s (i + 1) d (n + 1) (tmC c t) → Calls Try.prog 27 #[.pointer (some ⟨b, 0, none⟩)] W (TGives s b d W (O (i + 1) (n + 1) (tmC c t) d))) := fun W h1 => HO.out W hil hf h1
      have HAh : Hid (∀ (B : Nat) (v : Value) (f : Fm) (W : World), TreeAt (fun g => B ≤ g) W v (trOf f) → B ≤ W.heap.size → Calls Try.prog 29 #[.int .u8 c, v] W (TMakes B W (trOf (unF c f)))) := fun B v f W h1 h2 => aheadT_any B c HA.out v f W h1 h2
      clear HCf HCg HO HB hf HA
      cases hR : O (i + 1) (n + 1) (tmC c t) d with
      | bad c2 j =>
        rw [hR] at CO
        clear hR
        simp only
        generalize tmC c t = tt at *
        rcases hA with rfl | rfl | rfl | rfl
        all_goals
          go_enter Try.func27, Try.ntmps27
          go_wp2_with fail
          refine HP.out.mono ?_
          rintro e w2 ⟨rfl, hg2⟩
          have R2 : Hid (TRd w2 b s i d n t) := H.out.kept hg2
          have G2 : Hid (w.grownBy w2 (some b)) := grown_some hg2
          clear hg2
          go_wp2_with fail
          refine (CG.out _ R2.out).mono ?_
          rintro e w3 ⟨rfl, hg3, hr3⟩
          have R3 : Hid (TRd w3 b s (i + 1) d (n + 1) tt) := hr3
          have G3 : Hid (w.grownBy w3 (some b)) := grown_trans G2.out hg3
          clear hg3 hr3 R2 G2
          go_wp2_with fail
          refine (CO.out _ R3.out).mono ?_
          rintro e w4 ⟨hg4, rfl⟩
          exact ⟨rfl, grown_trans G3.out hg4, rfl⟩
      | good f j n2 t2 =>
        rw [hR] at CO
        clear hR
        simp only
        generalize hun : unF c f = uf
        have HAf : Hid (∀ (B : Nat) (v : Value) (W : World), TreeAt (fun g => B ≤ g) W v (trOf f) → B ≤ W.heap.size → Calls Try.prog 29 #[.int .u8 c, v] W (TMakes B W (trOf uf))) := fun B v W h1 h2 => hun ▸ HAh.out B v f W h1 h2
        clear hun HAh
        generalize tmC c t = tt at *
        rcases hA with rfl | rfl | rfl | rfl
        all_goals
          go_enter Try.func27, Try.ntmps27
          go_wp2_with fail
          refine HP.out.mono ?_
          rintro e w2 ⟨rfl, hg2⟩
          have R2 : Hid (TRd w2 b s i d n t) := H.out.kept hg2
          have G2 : Hid (w.grownBy w2 (some b)) := grown_some hg2
          clear hg2
          go_wp2_with fail
          refine (CG.out _ R2.out).mono ?_
          rintro e w3 ⟨rfl, hg3, hr3⟩
          have R3 : Hid (TRd w3 b s (i + 1) d (n + 1) tt) := hr3
          have G3 : Hid (w.grownBy w3 (some b)) := grown_trans G2.out hg3
          clear hg3 hr3 R2 G2
          go_wp2_with fail
          refine (CO.out _ R3.out).mono ?_
          rintro e w4 ⟨hg4, v4, rfl, hr4, ht4⟩
          have G4 : Hid (w.grownBy w4 (some b)) := grown_trans G3.out hg4
          have R4 : Hid (TRd w4 b s j d n2 t2) := hr4
          have T4 : Hid (TreeAt (fun k => w.heap.size ≤ k) w4 v4 (trOf f)) := ht4.from G3.out.size
          clear hg4 hr4 ht4 R3 G3
          go_wp2_with fail
          refine (HAf.out w.heap.size _ _ T4.out G4.out.size).mono ?_
          rintro e w5 ⟨v5, rfl, ht5, hg5⟩
          have E : Hid (TGives s b d w (.good uf j n2 t2) (.returned v5) w5) := ⟨grown_trans G4.out (grown_some hg5), v5, rfl, R4.out.kept hg5, ht5⟩
          clear hg5 ht5 R4 G4 T4
          go_wp2_with fail
          go_ret
          exact E.out
  · rw [if_neg hA]
    have k33 : ((c : Int) == 33) = false := by simp; omega
    have k88 : ((c : Int) == 88) = false := by simp; omega
    have k70 : ((c : Int) == 70) = false := by simp; omega
    have k71 : ((c : Int) == 71) = false := by simp; omega
    clear HO
    by_cases h40 : c = 40
    · rw [if_pos h40]
      have hil : i < s.size := HI.out (by omega)
      generalize brackQ s W i n t d = R at HB ⊢
      clear HCf HCg hA k33 k88 k70 k71
      subst h40
      go_enter Try.func27, Try.ntmps27
      go_wp2_with fail
      refine HP.out.mono ?_
      rintro e w2 ⟨rfl, hg2⟩
      have R2 : Hid (TRd w2 b s i d n t) := H.out.kept hg2
      have G2 : Hid (w.grownBy w2 none) := hg2
      clear hg2
      go_wp2_with fail
      refine (HB.out _ hil R2.out).mono ?_
      cases R with
      | bad c j =>
        rintro e w4 ⟨hg4, rfl⟩
        exact ⟨rfl, grown_trans (grown_some G2.out) hg4, rfl⟩
      | good f j n2 t2 =>
        rintro e w4 ⟨hg4, v, rfl, hrd, hl⟩
        have E : Hid (TGives s b d w (.good f j n2 t2) (.returned v) w4) := ⟨grown_trans (grown_some G2.out) hg4, v, rfl, hrd, hl.from G2.out.size⟩
        clear hrd hl hg4 G2 R2
        go_wp2_with fail
        go_ret
        exact E.out
    · rw [if_neg h40]
      have k40 : ((c : Int) == 40) = false := by simp; omega
      clear HB
      by_cases hL : c = 112 ∨ c = 113 ∨ c = 48 ∨ c = 49
      · rw [if_pos hL]
        clear hA k33 k88 k70 k71 k40 h40
        have HA : Hid (Calls Try.prog 31 #[.int .u8 c] w fun e w' => e = .returned (.int .i64 (lfK c)) ∧ w' = w) := atomT_any c w
        have HAt : Hid (∀ W, Calls Try.prog 31 #[.int .u8 c] W fun e w' => e = .returned (.int .i64 (lfK c)) ∧ w' = W) := fun W => atomT_any c W
        have HLt : Hid (trOf (lfF c) = .node (lfK c) .nil .nil) := lf_tr c
        by_cases hf : fullC c n t = true
        · rw [if_pos hf]
          have CF : Hid (∀ W, TRd W b s i d n t → Calls Try.prog 21 #[.pointer (some ⟨b, 0, none⟩)] W fun e w' => e = FPan 7 i ∧ W.grownBy w' (some b)) := fun W h1 => HCf.out W h1 hf
          clear HCf HCg hf HAt HLt
          rcases hL with rfl | rfl | rfl | rfl
          all_goals
            go_enter Try.func27, Try.ntmps27
            go_wp2_with fail
            refine HP.out.mono ?_
            rintro e w2 ⟨rfl, hg2⟩
            have R2 : Hid (TRd w2 b s i d n t) := H.out.kept hg2
            have G2 : Hid (w.grownBy w2 (some b)) := grown_some hg2
            clear hg2
            go_wp2_with fail
            refine (CF.out _ R2.out).mono ?_
            rintro e w3 ⟨rfl, hg3⟩
            exact ⟨rfl, grown_trans G2.out hg3, rfl⟩
        · rw [if_neg hf]
          have CG : Hid (∀ W, TRd W b s i d n t → Calls Try.prog 21 #[.pointer (some ⟨b, 0, none⟩)] W fun e w' => e = .returned (.tuple #[]) ∧ W.grownBy w' (some b) ∧ TRd w' b s (i + 1) d (n + 1) (tmC c t)) := fun W h1 => HCg.out W h1 hf
          clear HCf HCg hf
          generalize tmC c t = tt at *
          generalize lfF c = lf at *
          generalize lfK c = lk at *
          rcases hL with rfl | rfl | rfl | rfl
          all_goals
            go_enter Try.func27, Try.ntmps27
            go_wp2_with fail
            refine HP.out.mono ?_
            rintro e w2 ⟨rfl, hg2⟩
            have R2 : Hid (TRd w2 b s i d n t) := H.out.kept hg2
            have G2 : Hid (w.grownBy w2 (some b)) := grown_some hg2
            clear hg2
            go_wp2_with fail
            refine (CG.out _ R2.out).mono ?_
            rintro e w3 ⟨rfl, hg3, hr3⟩
            have E : Hid (TGives s b d w (.good lf (i + 1) (n + 1) tt) (.returned (.pointer (some ⟨w3.heap.size, 0, none⟩))) (w3.alloc (.cells #[.int .i64 (lk : Int), .pointer none, .pointer none, .int .i64 0] 50))) := ⟨grown_trans G2.out (grown_trans hg3 (grown_some (grown_alloc _ _))), _, rfl, hr3.kept (grown_alloc _ _), by rw [HLt.out]; exact tree_new lk .nil .nil (grown_trans G2.out hg3).size⟩
            clear hg3 hr3 R2 G2
            go_wp2_with fail
            refine (HAt.out _).mono ?_
            rintro e w5 ⟨rfl, rfl⟩
            go_wp2_with fail
            go_ret
            exact E.out
      · rw [if_neg hL]
        have k112 : ((c : Int) == 112) = false := by simp; omega
        have k113 : ((c : Int) == 113) = false := by simp; omega
        have k48 : ((c : Int) == 48) = false := by simp; omega
        have k49 : ((c : Int) == 49) = false := by simp; omega
        clear HCf HCg
        go_enter Try.func27, Try.ntmps27
        go_wp2_with fail
        refine HP.out.mono ?_
        rintro e w2 ⟨rfl, hg2⟩
        have R2 : Hid (TRd w2 b s i d n t) := H.out.kept hg2
        have G2 : Hid (w.grownBy w2 (some b)) := grown_some hg2
        clear hg2
        go_wp2_with fail
        refine (faultT_any s b i d n t 4 _ R2.out).mono ?_
        rintro e w5 ⟨rfl, hg5⟩
        have G5 : Hid (w.grownBy w5 (some b)) := grown_trans G2.out (grown_some hg5)
        clear hg5
        go_wp2_with fail
        exact ⟨rfl, G5.out, rfl⟩

end Go.Proofs.Ytneialmpaiejcaa
