/- A part of a formula, rows of them, and the whole, as the program reads them. -/
import Derived.Test.YtneialmpaiejcaaTOne
namespace Go.Proofs.Ytneialmpaiejcaa
open Go.RowKit
set_option linter.unusedVariables false

set_option maxHeartbeats 3200000 in
theorem partT_does (s : ByteArray) (O P : PT) (m : Nat) (hs : s.size ≤ 4000) (hO : Fwd s O) (hOd : TDoes 27 s O (m + 1)) (hPd : TDoes 24 s P m) : TDoes 24 s (partQ s O P) (m + 1) := by
  intro i n t d b w hi hm hn ht hd h
  have HO : Hid (Calls Try.prog 27 #[.pointer (some ⟨b, 0, none⟩)] w (TGives s b d w (O i n t d))) := hOd i n t d b w hi hm hn ht hd h
  have H0 : Hid (b < w.heap.size) := h.lt
  clear h hOd
  unfold partQ
  cases hR : O i n t d with
  | bad c j =>
    rw [hR] at HO
    go_enter Try.func24, Try.ntmps24
    go_wp2_with fail
    refine HO.out.mono ?_
    rintro e w2 ⟨hg, rfl⟩
    exact ⟨rfl, hg, rfl⟩
  | good f j n1 t1 =>
    rw [hR] at HO
    obtain ⟨a1, a2, a3, a4, a5⟩ := hO.good hR hi hn ht
    clear hR
    simp only
    have HP : Hid (∀ W, TRd W b s j d n1 t1 → Calls Try.prog 20 #[.pointer (some ⟨b, 0, none⟩)] W fun e w' => e = .returned (.int .u8 (byT s j)) ∧ W.grownBy w' none) := fun W h => peekT_any s b j d n1 t1 W hs a2 h
    have HCf : Hid (∀ W, TRd W b s j d n1 t1 → fullC (byT s j) n1 t1 = true → Calls Try.prog 21 #[.pointer (some ⟨b, 0, none⟩)] W fun e w' => e = FPan 7 j ∧ W.grownBy w' (some b)) := fun W h1 h2 => countT_full s b j d n1 t1 W hs a2 a4 a5 h2 h1
    have HCg : Hid (∀ W, TRd W b s j d n1 t1 → ¬ fullC (byT s j) n1 t1 = true → Calls Try.prog 21 #[.pointer (some ⟨b, 0, none⟩)] W fun e w' => e = .returned (.tuple #[]) ∧ W.grownBy w' (some b) ∧ TRd w' b s (j + 1) d (n1 + 1) (tmC (byT s j) t1)) := fun W h1 h2 => countT_go s b j d n1 t1 W hs a2 a4 a5 h2 h1
    have HQ : Hid (∀ W, j < s.size → ¬ fullC (byT s j) n1 t1 = true → TRd W b s (j + 1) d (n1 + 1) (tmC (byT s j) t1) → Calls Try.prog 24 #[.pointer (some ⟨b, 0, none⟩)] W (TGives s b d W (P (j + 1) (n1 + 1) (tmC (byT s j) t1) d))) := fun W h1 h2 h3 => by
      obtain ⟨q1, q2⟩ := full_not h2
      exact hPd (j + 1) (n1 + 1) _ d b W (by omega) (by omega) q1 q2 hd h3
    have HI : Hid (0 < byT s j → j < s.size) := fun h1 => byT_pos rfl h1
    clear hPd
    generalize byT s j = c at *
    by_cases hA : c = 85 ∨ c = 82
    · rw [if_pos hA]
      have hjl : j < s.size := HI.out (by omega)
      by_cases hf : fullC c n1 t1 = true
      · rw [if_pos hf]
        have CF : Hid (∀ W, TRd W b s j d n1 t1 → Calls Try.prog 21 #[.pointer (some ⟨b, 0, none⟩)] W fun e w' => e = FPan 7 j ∧ W.grownBy w' (some b)) := fun W h1 => HCf.out W h1 hf
        clear HCf HCg HQ hf
        rcases hA with rfl | rfl
        all_goals
          go_enter Try.func24, Try.ntmps24
          go_wp2_with fail
          refine HO.out.mono ?_
          rintro e w2 ⟨hg2, v2, rfl, hr2, ht2⟩
          have R2 : Hid (TRd w2 b s j d n1 t1) := hr2
          have G2 : Hid (w.grownBy w2 (some b)) := hg2
          clear hg2 hr2 ht2
          go_wp2_with fail
          refine (HP.out _ R2.out).mono ?_
          rintro e w3 ⟨rfl, hg3⟩
          have R3 : Hid (TRd w3 b s j d n1 t1) := R2.out.kept hg3
          have G3 : Hid (w.grownBy w3 (some b)) := grown_trans G2.out (grown_some hg3)
          clear hg3 R2 G2
          go_wp2_with fail
          refine (CF.out _ R3.out).mono ?_
          rintro e w4 ⟨rfl, hg4⟩
          exact ⟨rfl, grown_trans G3.out hg4, rfl⟩
      · rw [if_neg hf]
        have CG : Hid (∀ W, TRd W b s j d n1 t1 → Calls Try.prog 21 #[.pointer (some ⟨b, 0, none⟩)] W fun e w' => e = .returned (.tuple #[]) ∧ W.grownBy w' (some b) ∧ TRd w' b s (j + 1) d (n1 + 1) (tmC c t1)) := fun W h1 => HCg.out W h1 hf
        have CQ : Hid (∀ W, TRd W b s (j + 1) d (n1 + 1) (tmC c t1) → Calls Try.prog 24 #[.pointer (some ⟨b, 0, none⟩)] W (TGives s b d W (P (j + 1) (n1 + 1) (tmC c t1) d))) := fun W h1 => HQ.out W hjl hf h1
        clear HCf HCg HQ hf
        cases hR : P (j + 1) (n1 + 1) (tmC c t1) d with
        | bad c2 j2 =>
          rw [hR] at CQ
          clear hR
          simp only
          generalize tmC c t1 = tt at *
          rcases hA with rfl | rfl
          all_goals
            go_enter Try.func24, Try.ntmps24
            go_wp2_with fail
            refine HO.out.mono ?_
            rintro e w2 ⟨hg2, v2, rfl, hr2, ht2⟩
            have R2 : Hid (TRd w2 b s j d n1 t1) := hr2
            have G2 : Hid (w.grownBy w2 (some b)) := hg2
            clear hg2 hr2 ht2
            go_wp2_with fail
            refine (HP.out _ R2.out).mono ?_
            rintro e w3 ⟨rfl, hg3⟩
            have R3 : Hid (TRd w3 b s j d n1 t1) := R2.out.kept hg3
            have G3 : Hid (w.grownBy w3 (some b)) := grown_trans G2.out (grown_some hg3)
            clear hg3 R2 G2
            go_wp2_with fail
            refine (CG.out _ R3.out).mono ?_
            rintro e w4 ⟨rfl, hg4, hr4⟩
            have R4 : Hid (TRd w4 b s (j + 1) d (n1 + 1) tt) := hr4
            have G4 : Hid (w.grownBy w4 (some b)) := grown_trans G3.out hg4
            clear hg4 hr4 R3 G3
            go_wp2_with fail
            refine (CQ.out _ R4.out).mono ?_
            rintro e w5 ⟨hg5, rfl⟩
            exact ⟨rfl, grown_trans G4.out hg5, rfl⟩
        | good g j2 n2 t2 =>
          rw [hR] at CQ
          clear hR
          simp only
          generalize tmC c t1 = tt at *
          rcases hA with rfl | rfl
          · go_enter Try.func24, Try.ntmps24
            go_wp2_with fail
            refine HO.out.mono ?_
            rintro e w2 ⟨hg2, v2, rfl, hr2, ht2⟩
            have R2 : Hid (TRd w2 b s j d n1 t1) := hr2
            have G2 : Hid (w.grownBy w2 (some b)) := hg2
            have T2 : Hid (TreeAt (fun k => w.heap.size ≤ k) w2 v2 (trOf f)) := ht2
            clear hg2 hr2 ht2
            go_wp2_with fail
            refine (HP.out _ R2.out).mono ?_
            rintro e w3 ⟨rfl, hg3⟩
            have R3 : Hid (TRd w3 b s j d n1 t1) := R2.out.kept hg3
            have G3 : Hid (w.grownBy w3 (some b)) := grown_trans G2.out (grown_some hg3)
            have T3 : Hid (TreeAt (fun k => w.heap.size ≤ k) w3 v2 (trOf f)) := T2.out.grown hg3
            clear hg3 R2 G2 T2
            go_wp2_with fail
            refine (CG.out _ R3.out).mono ?_
            rintro e w4 ⟨rfl, hg4, hr4⟩
            have R4 : Hid (TRd w4 b s (j + 1) d (n1 + 1) tt) := hr4
            have G4 : Hid (w.grownBy w4 (some b)) := grown_trans G3.out hg4
            have T4 : Hid (TreeAt (fun k => w.heap.size ≤ k) w4 v2 (trOf f)) := T3.out.past hg4 H0.out
            clear hg4 hr4 R3 G3 T3
            go_wp2_with fail
            refine (CQ.out _ R4.out).mono ?_
            rintro e w5 ⟨hg5, v5, rfl, hr5, ht5⟩
            obtain ⟨x2, rfl⟩ := T4.out.form
            obtain ⟨x5, rfl⟩ := ht5.form
            have G5 := grown_trans G4.out hg5
            have E : Hid (TGives s b d w (.good (.til f g) j2 n2 t2) (.returned (.pointer (some ⟨w5.heap.size, 0, none⟩))) (w5.alloc (.cells #[.int .i64 8, .pointer x2, .pointer x5, .int .i64 0] 50))) := ⟨grown_trans G5 (grown_some (grown_alloc _ _)), _, rfl, hr5.kept (grown_alloc _ _), tree_new 8 (T4.out.past hg5 H0.out) (ht5.from G4.out.size) G5.size⟩
            clear hg5 hr5 ht5 R4 G4 T4 G5
            go_wp2_with fail
            go_ret
            exact E.out
          · go_enter Try.func24, Try.ntmps24
            go_wp2_with fail
            refine HO.out.mono ?_
            rintro e w2 ⟨hg2, v2, rfl, hr2, ht2⟩
            have R2 : Hid (TRd w2 b s j d n1 t1) := hr2
            have G2 : Hid (w.grownBy w2 (some b)) := hg2
            have T2 : Hid (TreeAt (fun k => w.heap.size ≤ k) w2 v2 (trOf f)) := ht2
            clear hg2 hr2 ht2
            go_wp2_with fail
            refine (HP.out _ R2.out).mono ?_
            rintro e w3 ⟨rfl, hg3⟩
            have R3 : Hid (TRd w3 b s j d n1 t1) := R2.out.kept hg3
            have G3 : Hid (w.grownBy w3 (some b)) := grown_trans G2.out (grown_some hg3)
            have T3 : Hid (TreeAt (fun k => w.heap.size ≤ k) w3 v2 (trOf f)) := T2.out.grown hg3
            clear hg3 R2 G2 T2
            go_wp2_with fail
            refine (CG.out _ R3.out).mono ?_
            rintro e w4 ⟨rfl, hg4, hr4⟩
            have R4 : Hid (TRd w4 b s (j + 1) d (n1 + 1) tt) := hr4
            have G4 : Hid (w.grownBy w4 (some b)) := grown_trans G3.out hg4
            have T4 : Hid (TreeAt (fun k => w.heap.size ≤ k) w4 v2 (trOf f)) := T3.out.past hg4 H0.out
            clear hg4 hr4 R3 G3 T3
            go_wp2_with fail
            refine (CQ.out _ R4.out).mono ?_
            rintro e w5 ⟨hg5, v5, rfl, hr5, ht5⟩
            have G5 : Hid (w.grownBy w5 (some b)) := grown_trans G4.out hg5
            have R5 : Hid (TRd w5 b s j2 d n2 t2) := hr5
            have T5 : Hid (TreeAt (fun k => w.heap.size ≤ k) w5 v2 (trOf f)) := T4.out.past hg5 H0.out
            have U5 : Hid (TreeAt (fun k => w.heap.size ≤ k) w5 v5 (trOf g)) := ht5.from G4.out.size
            clear hg5 hr5 ht5 R4 G4 T4
            go_wp2_with fail
            refine (relT_any w.heap.size _ _ _ _ _ T5.out U5.out G5.out.size).mono ?_
            rintro e w6 ⟨v6, rfl, ht6, hg6⟩
            have E : Hid (TGives s b d w (.good (.rel f g) j2 n2 t2) (.returned v6) w6) := ⟨grown_trans G5.out (grown_some hg6), v6, rfl, R5.out.kept hg6, ht6⟩
            clear hg6 ht6 T5 U5 R5 G5
            go_wp2_with fail
            go_ret
            exact E.out
    · rw [if_neg hA]
      have k85 : ((c : Int) == 85) = false := by simp; omega
      have k82 : ((c : Int) == 82) = false := by simp; omega
      clear HCf HCg HQ
      go_enter Try.func24, Try.ntmps24
      go_wp2_with fail
      refine HO.out.mono ?_
      rintro e w2 ⟨hg2, v2, rfl, hr2, ht2⟩
      have R2 : Hid (TRd w2 b s j d n1 t1) := hr2
      have G2 : Hid (w.grownBy w2 (some b)) := hg2
      have T2 : Hid (TreeAt (fun k => w.heap.size ≤ k) w2 v2 (trOf f)) := ht2
      clear hg2 hr2 ht2
      go_wp2_with fail
      refine (HP.out _ R2.out).mono ?_
      rintro e w3 ⟨rfl, hg3⟩
      have E : Hid (TGives s b d w (.good f j n1 t1) (.returned v2) w3) := ⟨grown_trans G2.out (grown_some hg3), v2, rfl, R2.out.kept hg3, T2.out.grown hg3⟩
      clear hg3 R2 G2 T2
      go_wp2_with fail
      go_ret
      exact E.out

set_option maxHeartbeats 3200000 in
theorem termT_does (s : ByteArray) (P : PT) (m : Nat) (hs : s.size ≤ 4000) (hP : Fwd s P) (hPd : TDoes 24 s P m) : TDoes 19 s (rowP s 38 .and P) m := by
  intro i n t d b w hi hm hn ht hd h
  have HO : Hid (Calls Try.prog 24 #[.pointer (some ⟨b, 0, none⟩)] w (TGives s b d w (P i n t d))) := hPd i n t d b w hi hm hn ht hd h
  have H0 : Hid (b < w.heap.size) := h.lt
  clear h
  unfold rowP
  cases hR : P i n t d with
  | bad c j =>
    rw [hR] at HO
    go_enter Try.func19, Try.ntmps19
    go_wp2_with fail
    refine HO.out.mono ?_
    rintro e w2 ⟨hg, rfl⟩
    exact ⟨rfl, hg, rfl⟩
  | good f j n1 t1 =>
    rw [hR] at HO
    obtain ⟨a1, a2, a3, a4, a5⟩ := hP.good hR hi hn ht
    clear hR
    simp only
    have HPd : Hid (∀ q n' t' W, i < q → q < s.size → n' + 1 ≤ 30 → t' ≤ 5 → TRd W b s (q + 1) d (n' + 1) t' → Calls Try.prog 24 #[.pointer (some ⟨b, 0, none⟩)] W (TGives s b d W (P (q + 1) (n' + 1) t' d))) := fun q n' t' W h1 h2 h3 h4 h5 => hPd (q + 1) (n' + 1) t' d b W (by omega) (by omega) h3 h4 hd h5
    have HFw : Hid (Fwd s P) := hP
    clear hPd hP
    generalize hR0 : rowL s 38 .and P d (s.size + 1) f j n1 t1 = R0
    have HR0 : Hid (rowL s 38 .and P d (s.size + 1) f j n1 t1 = R0) := hR0
    clear hR0
    go_enter Try.func19, Try.ntmps19
    go_wp2_with fail
    refine HO.out.mono ?_
    rintro e w2 ⟨hg2, v2, rfl, hr2, ht2⟩
    have R2 : Hid (TRd w2 b s j d n1 t1) := hr2
    have G2 : Hid (w.grownBy w2 (some b)) := hg2
    obtain ⟨x2, rfl⟩ := ht2.form
    have T2 : Hid (TreeAt (fun k => w.heap.size ≤ k) w2 (.pointer x2) (trOf f)) := ht2
    clear hg2 hr2 ht2 HO
    go_wp2_with fail
    go_loopw [3] (fun v wr => ∃ (q k n' t' : Nat) (f' : Fm) (x : Option Addr), v = .pointer x ∧ i < q ∧ q ≤ s.size ∧ s.size - q < k ∧ n' ≤ 30 ∧ t' ≤ 5 ∧ TRd wr b s q d n' t' ∧ w.grownBy wr (some b) ∧ TreeAt (fun k => w.heap.size ≤ k) wr (.pointer x) (trOf f') ∧ rowL s 38 .and P d k f' q n' t' = R0) (fun _ wr => s.size - placeT wr b)
    case atStart => exact ⟨j, s.size + 1, n1, t1, f, x2, rfl, a1, a2, by omega, a4, a5, R2.out, G2.out, T2.out, HR0.out⟩
    case round =>
      clear R2 G2 T2 HR0
      rename World => wr
      obtain ⟨q, k, n', t', f', x, rfl, hq0, hq, hk, hn', ht', r4, g4, l4, hst⟩ := hrel
      have R4 : Hid (TRd wr b s q d n' t') := r4
      have G4 : Hid (w.grownBy wr (some b)) := g4
      have T4 : Hid (TreeAt (fun k => w.heap.size ≤ k) wr (.pointer x) (trOf f')) := l4
      have HST : Hid (rowL s 38 .and P d k f' q n' t' = R0) := hst
      have P4 : Hid (placeT wr b = q) := r4.place
      clear r4 g4 l4 hst a1 a2 a3 a4 a5
      obtain ⟨k', rfl⟩ : ∃ k', k = k' + 1 := ⟨k - 1, by omega⟩
      by_cases hop : byT s q = 38
      · have hql := byT_pos hop (by omega)
        by_cases hf : fullC 38 n' t' = true
        · have hS : rowL s 38 .and P d (k' + 1) f' q n' t' = .bad 7 q := by rw [rowL, if_pos hop, if_pos hf]
          have HF : Hid (R0 = .bad 7 q) := HST.out.symm.trans hS
          have CF : Hid (∀ W, TRd W b s q d n' t' → Calls Try.prog 21 #[.pointer (some ⟨b, 0, none⟩)] W fun e w' => e = FPan 7 q ∧ W.grownBy w' (some b)) := fun W h1 => countT_full s b q d n' t' W hs hq hn' ht' (by rw [hop]; exact hf) h1
          clear hS HST hf
          go_wp2_with fail
          refine (peekT_any s b q d n' t' _ hs hq R4.out).mono ?_
          rintro e w5 ⟨rfl, hg5⟩
          rw [hop]
          have R5 : Hid (TRd w5 b s q d n' t') := R4.out.kept hg5
          have G5 : Hid (w.grownBy w5 (some b)) := grown_trans G4.out (grown_some hg5)
          clear hg5 R4 G4
          go_wp2_with fail
          refine (CF.out _ R5.out).mono ?_
          rintro e w6 ⟨rfl, hg6⟩
          refine ⟨rfl, ?_⟩
          rw [HF.out]
          exact ⟨grown_trans G5.out hg6, rfl⟩
        · obtain ⟨q1, q2⟩ := full_not hf
          have CG : Hid (∀ W, TRd W b s q d n' t' → Calls Try.prog 21 #[.pointer (some ⟨b, 0, none⟩)] W fun e w' => e = .returned (.tuple #[]) ∧ W.grownBy w' (some b) ∧ TRd w' b s (q + 1) d (n' + 1) (tmC 38 t')) := fun W h1 => by
            have h2 := countT_go s b q d n' t' W hs hq hn' ht' (by rw [hop]; exact hf) h1
            rw [hop] at h2
            exact h2
          have CP : Hid (∀ W, TRd W b s (q + 1) d (n' + 1) (tmC 38 t') → Calls Try.prog 24 #[.pointer (some ⟨b, 0, none⟩)] W (TGives s b d W (P (q + 1) (n' + 1) (tmC 38 t') d))) := fun W h1 => HPd.out q n' _ W hq0 hql q1 q2 h1
          cases hR : P (q + 1) (n' + 1) (tmC 38 t') d with
          | bad c2 j2 =>
            rw [hR] at CP
            have hS : rowL s 38 .and P d (k' + 1) f' q n' t' = .bad c2 j2 := by rw [rowL, if_pos hop, if_neg hf, hR]
            have HF : Hid (R0 = .bad c2 j2) := HST.out.symm.trans hS
            clear hS HST hf hR
            go_wp2_with fail
            refine (peekT_any s b q d n' t' _ hs hq R4.out).mono ?_
            rintro e w5 ⟨rfl, hg5⟩
            rw [hop]
            have R5 : Hid (TRd w5 b s q d n' t') := R4.out.kept hg5
            have G5 : Hid (w.grownBy w5 (some b)) := grown_trans G4.out (grown_some hg5)
            clear hg5 R4 G4
            go_wp2_with fail
            refine (CG.out _ R5.out).mono ?_
            rintro e w6 ⟨rfl, hg6, hr6⟩
            have R6 : Hid (TRd w6 b s (q + 1) d (n' + 1) (tmC 38 t')) := hr6
            have G6 : Hid (w.grownBy w6 (some b)) := grown_trans G5.out hg6
            clear hg6 hr6 R5 G5
            go_wp2_with fail
            refine (CP.out _ R6.out).mono ?_
            rintro e w7 ⟨hg7, rfl⟩
            refine ⟨rfl, ?_⟩
            rw [HF.out]
            exact ⟨grown_trans G6.out hg7, rfl⟩
          | good g j2 n2 t2 =>
            obtain ⟨b1, b2, b3, b4, b5⟩ := HFw.out.good hR hql q1 q2
            rw [hR] at CP
            have hS : rowL s 38 .and P d (k' + 1) f' q n' t' = rowL s 38 .and P d k' (.and f' g) j2 n2 t2 := by rw [rowL, if_pos hop, if_neg hf, hR]
            have HF : Hid (rowL s 38 .and P d k' (.and f' g) j2 n2 t2 = R0) := hS.symm.trans HST.out
            clear hS HST hf hR
            go_wp2_with fail
            refine (peekT_any s b q d n' t' _ hs hq R4.out).mono ?_
            rintro e w5 ⟨rfl, hg5⟩
            rw [hop]
            have R5 : Hid (TRd w5 b s q d n' t') := R4.out.kept hg5
            have G5 : Hid (w.grownBy w5 (some b)) := grown_trans G4.out (grown_some hg5)
            have T5 : Hid (TreeAt (fun k => w.heap.size ≤ k) w5 (.pointer x) (trOf f')) := T4.out.grown hg5
            clear hg5 R4 G4 T4
            go_wp2_with fail
            refine (CG.out _ R5.out).mono ?_
            rintro e w6 ⟨rfl, hg6, hr6⟩
            have R6 : Hid (TRd w6 b s (q + 1) d (n' + 1) (tmC 38 t')) := hr6
            have G6 : Hid (w.grownBy w6 (some b)) := grown_trans G5.out hg6
            have T6 : Hid (TreeAt (fun k => w.heap.size ≤ k) w6 (.pointer x) (trOf f')) := T5.out.past hg6 H0.out
            clear hg6 hr6 R5 G5 T5
            go_wp2_with fail
            refine (CP.out _ R6.out).mono ?_
            rintro e w7 ⟨hg7, v7, rfl, hr7, ht7⟩
            obtain ⟨x7, rfl⟩ := ht7.form
            have G7 := grown_trans G6.out hg7
            have T8 : Hid (TreeAt (fun k => w.heap.size ≤ k) (w7.alloc (.cells #[.int .i64 5, .pointer x, .pointer x7, .int .i64 0] 50)) (.pointer (some ⟨w7.heap.size, 0, none⟩)) (trOf (.and f' g))) := tree_new 5 (T6.out.past hg7 H0.out) (ht7.from G6.out.size) G7.size
            have G8 : Hid (w.grownBy (w7.alloc (.cells #[.int .i64 5, .pointer x, .pointer x7, .int .i64 0] 50)) (some b)) := grown_trans G7 (grown_some (grown_alloc _ _))
            have R8 : Hid (TRd (w7.alloc (.cells #[.int .i64 5, .pointer x, .pointer x7, .int .i64 0] 50)) b s j2 d n2 t2) := hr7.kept (grown_alloc _ _)
            clear hg7 hr7 ht7 R6 G6 T6 G7
            go_wp2_with fail
            go_roundw
            case rel => exact ⟨j2, k', n2, t2, _, _, rfl, by omega, b2, by omega, b4, b5, R8.out, G8.out, T8.out, HF.out⟩
            case measure =>
              rw [R8.out.place, P4.out]
              omega
      · have hop' : ((byT s q : Int) == 38) = false := by simp; omega
        have hS : rowL s 38 .and P d (k' + 1) f' q n' t' = .good f' q n' t' := by rw [rowL, if_neg hop]
        have HF : Hid (R0 = .good f' q n' t') := HST.out.symm.trans hS
        clear hS HST
        go_wp2_with fail
        refine (peekT_any s b q d n' t' _ hs hq R4.out).mono ?_
        rintro e w5 ⟨rfl, hg5⟩
        have E : Hid (TGives s b d w (.good f' q n' t') (.returned (.pointer x)) w5) := ⟨grown_trans G4.out (grown_some hg5), _, rfl, R4.out.kept hg5, T4.out.grown hg5⟩
        clear hg5 R4 G4 T4
        go_wp2_with fail
        go_ret
        rw [HF.out]
        exact E.out

set_option maxHeartbeats 3200000 in
theorem formT_does (s : ByteArray) (P : PT) (m : Nat) (hs : s.size ≤ 4000) (hP : Fwd s P) (hPd : TDoes 19 s P m) : TDoes 11 s (rowP s 124 .or P) m := by
  intro i n t d b w hi hm hn ht hd h
  have HO : Hid (Calls Try.prog 19 #[.pointer (some ⟨b, 0, none⟩)] w (TGives s b d w (P i n t d))) := hPd i n t d b w hi hm hn ht hd h
  have H0 : Hid (b < w.heap.size) := h.lt
  clear h
  unfold rowP
  cases hR : P i n t d with
  | bad c j =>
    rw [hR] at HO
    go_enter Try.func11, Try.ntmps11
    go_wp2_with fail
    refine HO.out.mono ?_
    rintro e w2 ⟨hg, rfl⟩
    exact ⟨rfl, hg, rfl⟩
  | good f j n1 t1 =>
    rw [hR] at HO
    obtain ⟨a1, a2, a3, a4, a5⟩ := hP.good hR hi hn ht
    clear hR
    simp only
    have HPd : Hid (∀ q n' t' W, i < q → q < s.size → n' + 1 ≤ 30 → t' ≤ 5 → TRd W b s (q + 1) d (n' + 1) t' → Calls Try.prog 19 #[.pointer (some ⟨b, 0, none⟩)] W (TGives s b d W (P (q + 1) (n' + 1) t' d))) := fun q n' t' W h1 h2 h3 h4 h5 => hPd (q + 1) (n' + 1) t' d b W (by omega) (by omega) h3 h4 hd h5
    have HFw : Hid (Fwd s P) := hP
    clear hPd hP
    generalize hR0 : rowL s 124 .or P d (s.size + 1) f j n1 t1 = R0
    have HR0 : Hid (rowL s 124 .or P d (s.size + 1) f j n1 t1 = R0) := hR0
    clear hR0
    go_enter Try.func11, Try.ntmps11
    go_wp2_with fail
    refine HO.out.mono ?_
    rintro e w2 ⟨hg2, v2, rfl, hr2, ht2⟩
    have R2 : Hid (TRd w2 b s j d n1 t1) := hr2
    have G2 : Hid (w.grownBy w2 (some b)) := hg2
    obtain ⟨x2, rfl⟩ := ht2.form
    have T2 : Hid (TreeAt (fun k => w.heap.size ≤ k) w2 (.pointer x2) (trOf f)) := ht2
    clear hg2 hr2 ht2 HO
    go_wp2_with fail
    go_loopw [3] (fun v wr => ∃ (q k n' t' : Nat) (f' : Fm) (x : Option Addr), v = .pointer x ∧ i < q ∧ q ≤ s.size ∧ s.size - q < k ∧ n' ≤ 30 ∧ t' ≤ 5 ∧ TRd wr b s q d n' t' ∧ w.grownBy wr (some b) ∧ TreeAt (fun k => w.heap.size ≤ k) wr (.pointer x) (trOf f') ∧ rowL s 124 .or P d k f' q n' t' = R0) (fun _ wr => s.size - placeT wr b)
    case atStart => exact ⟨j, s.size + 1, n1, t1, f, x2, rfl, a1, a2, by omega, a4, a5, R2.out, G2.out, T2.out, HR0.out⟩
    case round =>
      clear R2 G2 T2 HR0
      rename World => wr
      obtain ⟨q, k, n', t', f', x, rfl, hq0, hq, hk, hn', ht', r4, g4, l4, hst⟩ := hrel
      have R4 : Hid (TRd wr b s q d n' t') := r4
      have G4 : Hid (w.grownBy wr (some b)) := g4
      have T4 : Hid (TreeAt (fun k => w.heap.size ≤ k) wr (.pointer x) (trOf f')) := l4
      have HST : Hid (rowL s 124 .or P d k f' q n' t' = R0) := hst
      have P4 : Hid (placeT wr b = q) := r4.place
      clear r4 g4 l4 hst a1 a2 a3 a4 a5
      obtain ⟨k', rfl⟩ : ∃ k', k = k' + 1 := ⟨k - 1, by omega⟩
      by_cases hop : byT s q = 124
      · have hql := byT_pos hop (by omega)
        by_cases hf : fullC 124 n' t' = true
        · have hS : rowL s 124 .or P d (k' + 1) f' q n' t' = .bad 7 q := by rw [rowL, if_pos hop, if_pos hf]
          have HF : Hid (R0 = .bad 7 q) := HST.out.symm.trans hS
          have CF : Hid (∀ W, TRd W b s q d n' t' → Calls Try.prog 21 #[.pointer (some ⟨b, 0, none⟩)] W fun e w' => e = FPan 7 q ∧ W.grownBy w' (some b)) := fun W h1 => countT_full s b q d n' t' W hs hq hn' ht' (by rw [hop]; exact hf) h1
          clear hS HST hf
          go_wp2_with fail
          refine (peekT_any s b q d n' t' _ hs hq R4.out).mono ?_
          rintro e w5 ⟨rfl, hg5⟩
          rw [hop]
          have R5 : Hid (TRd w5 b s q d n' t') := R4.out.kept hg5
          have G5 : Hid (w.grownBy w5 (some b)) := grown_trans G4.out (grown_some hg5)
          clear hg5 R4 G4
          go_wp2_with fail
          refine (CF.out _ R5.out).mono ?_
          rintro e w6 ⟨rfl, hg6⟩
          refine ⟨rfl, ?_⟩
          rw [HF.out]
          exact ⟨grown_trans G5.out hg6, rfl⟩
        · obtain ⟨q1, q2⟩ := full_not hf
          have CG : Hid (∀ W, TRd W b s q d n' t' → Calls Try.prog 21 #[.pointer (some ⟨b, 0, none⟩)] W fun e w' => e = .returned (.tuple #[]) ∧ W.grownBy w' (some b) ∧ TRd w' b s (q + 1) d (n' + 1) (tmC 124 t')) := fun W h1 => by
            have h2 := countT_go s b q d n' t' W hs hq hn' ht' (by rw [hop]; exact hf) h1
            rw [hop] at h2
            exact h2
          have CP : Hid (∀ W, TRd W b s (q + 1) d (n' + 1) (tmC 124 t') → Calls Try.prog 19 #[.pointer (some ⟨b, 0, none⟩)] W (TGives s b d W (P (q + 1) (n' + 1) (tmC 124 t') d))) := fun W h1 => HPd.out q n' _ W hq0 hql q1 q2 h1
          cases hR : P (q + 1) (n' + 1) (tmC 124 t') d with
          | bad c2 j2 =>
            rw [hR] at CP
            have hS : rowL s 124 .or P d (k' + 1) f' q n' t' = .bad c2 j2 := by rw [rowL, if_pos hop, if_neg hf, hR]
            have HF : Hid (R0 = .bad c2 j2) := HST.out.symm.trans hS
            clear hS HST hf hR
            go_wp2_with fail
            refine (peekT_any s b q d n' t' _ hs hq R4.out).mono ?_
            rintro e w5 ⟨rfl, hg5⟩
            rw [hop]
            have R5 : Hid (TRd w5 b s q d n' t') := R4.out.kept hg5
            have G5 : Hid (w.grownBy w5 (some b)) := grown_trans G4.out (grown_some hg5)
            clear hg5 R4 G4
            go_wp2_with fail
            refine (CG.out _ R5.out).mono ?_
            rintro e w6 ⟨rfl, hg6, hr6⟩
            have R6 : Hid (TRd w6 b s (q + 1) d (n' + 1) (tmC 124 t')) := hr6
            have G6 : Hid (w.grownBy w6 (some b)) := grown_trans G5.out hg6
            clear hg6 hr6 R5 G5
            go_wp2_with fail
            refine (CP.out _ R6.out).mono ?_
            rintro e w7 ⟨hg7, rfl⟩
            refine ⟨rfl, ?_⟩
            rw [HF.out]
            exact ⟨grown_trans G6.out hg7, rfl⟩
          | good g j2 n2 t2 =>
            obtain ⟨b1, b2, b3, b4, b5⟩ := HFw.out.good hR hql q1 q2
            rw [hR] at CP
            have hS : rowL s 124 .or P d (k' + 1) f' q n' t' = rowL s 124 .or P d k' (.or f' g) j2 n2 t2 := by rw [rowL, if_pos hop, if_neg hf, hR]
            have HF : Hid (rowL s 124 .or P d k' (.or f' g) j2 n2 t2 = R0) := hS.symm.trans HST.out
            clear hS HST hf hR
            go_wp2_with fail
            refine (peekT_any s b q d n' t' _ hs hq R4.out).mono ?_
            rintro e w5 ⟨rfl, hg5⟩
            rw [hop]
            have R5 : Hid (TRd w5 b s q d n' t') := R4.out.kept hg5
            have G5 : Hid (w.grownBy w5 (some b)) := grown_trans G4.out (grown_some hg5)
            have T5 : Hid (TreeAt (fun k => w.heap.size ≤ k) w5 (.pointer x) (trOf f')) := T4.out.grown hg5
            clear hg5 R4 G4 T4
            go_wp2_with fail
            refine (CG.out _ R5.out).mono ?_
            rintro e w6 ⟨rfl, hg6, hr6⟩
            have R6 : Hid (TRd w6 b s (q + 1) d (n' + 1) (tmC 124 t')) := hr6
            have G6 : Hid (w.grownBy w6 (some b)) := grown_trans G5.out hg6
            have T6 : Hid (TreeAt (fun k => w.heap.size ≤ k) w6 (.pointer x) (trOf f')) := T5.out.past hg6 H0.out
            clear hg6 hr6 R5 G5 T5
            go_wp2_with fail
            refine (CP.out _ R6.out).mono ?_
            rintro e w7 ⟨hg7, v7, rfl, hr7, ht7⟩
            obtain ⟨x7, rfl⟩ := ht7.form
            have G7 := grown_trans G6.out hg7
            have T8 : Hid (TreeAt (fun k => w.heap.size ≤ k) (w7.alloc (.cells #[.int .i64 6, .pointer x, .pointer x7, .int .i64 0] 50)) (.pointer (some ⟨w7.heap.size, 0, none⟩)) (trOf (.or f' g))) := tree_new 6 (T6.out.past hg7 H0.out) (ht7.from G6.out.size) G7.size
            have G8 : Hid (w.grownBy (w7.alloc (.cells #[.int .i64 6, .pointer x, .pointer x7, .int .i64 0] 50)) (some b)) := grown_trans G7 (grown_some (grown_alloc _ _))
            have R8 : Hid (TRd (w7.alloc (.cells #[.int .i64 6, .pointer x, .pointer x7, .int .i64 0] 50)) b s j2 d n2 t2) := hr7.kept (grown_alloc _ _)
            clear hg7 hr7 ht7 R6 G6 T6 G7
            go_wp2_with fail
            go_roundw
            case rel => exact ⟨j2, k', n2, t2, _, _, rfl, by omega, b2, by omega, b4, b5, R8.out, G8.out, T8.out, HF.out⟩
            case measure =>
              rw [R8.out.place, P4.out]
              omega
      · have hop' : ((byT s q : Int) == 124) = false := by simp; omega
        have hS : rowL s 124 .or P d (k' + 1) f' q n' t' = .good f' q n' t' := by rw [rowL, if_neg hop]
        have HF : Hid (R0 = .good f' q n' t') := HST.out.symm.trans hS
        clear hS HST
        go_wp2_with fail
        refine (peekT_any s b q d n' t' _ hs hq R4.out).mono ?_
        rintro e w5 ⟨rfl, hg5⟩
        have E : Hid (TGives s b d w (.good f' q n' t') (.returned (.pointer x)) w5) := ⟨grown_trans G4.out (grown_some hg5), _, rfl, R4.out.kept hg5, T4.out.grown hg5⟩
        clear hg5 R4 G4 T4
        go_wp2_with fail
        go_ret
        rw [HF.out]
        exact E.out

/-- All of them, at every place. -/
theorem readT_all (s : ByteArray) (hs : s.size ≤ 4000) : ∀ k, TDoes 27 s (lvQ s k).1 k ∧ TDoes 24 s (lvQ s k).2 k := by
  intro k
  induction k with
  | zero => exact ⟨fun i n t d b w hi hm => absurd hm (by omega), fun i n t d b w hi hm => absurd hm (by omega)⟩
  | succ k ih =>
    have hF := lvQ_fwd (s := s) k
    have h1 : TDoes 11 s (formQ s (lvQ s k).2) k := formT_does s _ k hs (termQ_fwd hF.2) (termT_does s _ k hs hF.2 ih.2)
    have h2 := oneT_does s _ _ k hs hF.1 (formQ_fwd hF.2) ih.1 h1
    exact ⟨h2, partT_does s _ _ k hs (oneQ_fwd hF.1 (formQ_fwd hF.2)) h2 ih.2⟩
theorem formT_all (s : ByteArray) (hs : s.size ≤ 4000) (k : Nat) : TDoes 11 s (formQ s (lvQ s k).2) k :=
  formT_does s _ k hs (termQ_fwd (lvQ_fwd k).2) (termT_does s _ k hs (lvQ_fwd k).2 (readT_all s hs k).2)

end Go.Proofs.Ytneialmpaiejcaa
