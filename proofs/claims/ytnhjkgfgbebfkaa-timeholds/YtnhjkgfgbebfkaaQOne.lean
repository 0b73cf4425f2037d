/- One of a formula, as the reference reads it. -/
import Derived.Test.YtnhjkgfgbebfkaaQBase
namespace Go.Proofs.Ytnhjkgfgbebfkaa
open Go.RowKit
set_option linter.unusedVariables false

/-- What a call of the reference's reader leaves behind. -/
def QGives (s : ByteArray) (b d n : Nat) (w : World) (L : Value) (ps : List NodR) (R : TRes) (e : Ending) (w' : World) : Prop :=
  ∃ (L' : Value) (qs : List NodR) (n' : Nat), FrQ w w' b L L' ∧ NodsAt w' b L' (ps ++ qs) ∧ n ≤ n' ∧ n' ≤ 31 ∧ qs.length + n ≤ n' ∧ match R with
  | .good f i n2 t2 => n' = n2 ∧ ∃ k : Nat, e = .returned (.int .i64 (k : Int)) ∧ k < (ps ++ qs).length ∧ QRd w' b s i n2 t2 d L' 0 0 ∧ MeanA ps (ps ++ qs) k f
  | .bad c j => ∃ (k i' t' : Nat), e = .returned (.int .i64 (k : Int)) ∧ i' + d ≤ 5000 ∧ t' ≤ 6 ∧ QRd w' b s i' n' t' d L' c j
/-- A function of the reference's reader reads as S says. -/
def QDoes (f : Nat) (s : ByteArray) (S : PT) (m : Nat) : Prop :=
  ∀ (i n t d b : Nat) (w : World) (L : Value) (ps : List NodR), i ≤ s.size → s.size - i < m → n ≤ 30 → t ≤ 5 → d ≤ 40 → ps.length ≤ n → QRd w b s i n t d L 0 0 → NodsAt w b L ps → Calls Try.prog f #[.pointer (some ⟨b, 0, none⟩)] w (QGives s b d n w L ps (S i n t d))
/-- Behind a fault it stops. -/
def QStop (f : Nat) (s : ByteArray) : Prop :=
  ∀ (i n t d b : Nat) (w : World) (L : Value) (c : Int) (a : Nat), c ≠ 0 → i ≤ 5000 → QRd w b s i n t d L c a → Calls Try.prog f #[.pointer (some ⟨b, 0, none⟩)] w fun e w' => e = .returned (.int .i64 0) ∧ w.grownBy w' none
theorem last_get (ps qs : List NodR) (p : NodR) : (ps ++ (qs ++ [p]))[(ps ++ qs).length]? = some p := by rw [← List.append_assoc]; simp
theorem tm_le {c t : Nat} (h : t ≤ 5) : tmC c t ≤ 6 := by unfold tmC; split <;> omega

theorem putQ_len (s : ByteArray) (b i n t d : Nat) (L : Value) (c : Int) (a : Nat) (w : World) (ps : List NodR) (k x y K : Nat) (hn : ps.length ≤ 1000) (hK : ps.length = K) (h : QRd w b s i n t d L c a) (hp : NodsAt w b L ps) :
    Calls Try.prog 25 #[.pointer (some ⟨b, 0, none⟩), .int .u8 (k : Int), .int .i64 (x : Int), .int .i64 (y : Int)] w fun e w' => e = .returned (.int .i64 (K : Int)) ∧ ∃ L', QRd w' b s i n t d L' c a ∧ NodsAt w' b L' (ps ++ [(k, x, y)]) ∧ FrQ w w' b L L' := by
  subst hK
  exact putQ_any s b i n t d L c a w ps k x y hn h hp

theorem oneQ_stop (s : ByteArray) : QStop 42 s := by
  intro i n t d b w L c a hc hi h
  have HK : Hid (Calls Try.prog 23 #[.pointer (some ⟨b, 0, none⟩)] w fun e w' => e = .returned (.bool (c == 0)) ∧ w' = w) := okQ_any s b i n t d L c a w h
  have hc' : (c == 0) = false := by simpa using hc
  rw [hc'] at HK
  clear h hc hc'
  go_enter Try.func42, Try.ntmps42
  go_wp2_with fail
  refine HK.out.mono ?_
  rintro e w2 ⟨rfl, rfl⟩
  go_wp2_with fail
  go_ret
  exact ⟨rfl, grown_refl _ _⟩

theorem partQ_stop (s : ByteArray) (hs : s.size ≤ 4000) : QStop 37 s := by
  intro i n t d b w L c a hc hi h
  have H1 : Hid (Calls Try.prog 42 #[.pointer (some ⟨b, 0, none⟩)] w fun e w' => e = .returned (.int .i64 0) ∧ w.grownBy w' none) := oneQ_stop s i n t d b w L c a hc hi h
  have HN : Hid (∀ W, w.grownBy W none → Calls Try.prog 22 #[.pointer (some ⟨b, 0, none⟩)] W fun e w' => e = .returned (.int .u8 (byT s i)) ∧ W.grownBy w' none) := fun W hW => nowQ_any s b i n t d L c a W hs hi (h.kept hW)
  have HK : Hid (∀ W, w.grownBy W none → Calls Try.prog 23 #[.pointer (some ⟨b, 0, none⟩)] W fun e w' => e = .returned (.bool false) ∧ w' = W) := fun W hW => by
    have h1 := okQ_any s b i n t d L c a W (h.kept hW)
    have hc' : (c == 0) = false := by simpa using hc
    rw [hc'] at h1
    exact h1
  clear h hc
  generalize byT s i = x at *
  go_enter Try.func37, Try.ntmps37
  go_wp2_with fail
  refine H1.out.mono ?_
  rintro e w2 ⟨rfl, hg2⟩
  have G2 : Hid (w.grownBy w2 none) := hg2
  clear hg2
  go_wp2_with fail
  refine (HN.out _ G2.out).mono ?_
  rintro e w3 ⟨rfl, hg3⟩
  have G3 : Hid (w.grownBy w3 none) := grown_trans G2.out hg3
  clear hg3
  go_wp2_with fail
  refine (HK.out _ G3.out).mono ?_
  rintro e w4 ⟨rfl, rfl⟩
  go_wp2_with fail
  go_ret
  exact ⟨rfl, G3.out⟩

theorem termQ_stop (s : ByteArray) (hs : s.size ≤ 4000) : QStop 21 s := by
  intro i n t d b w L c a hc hi h
  have H1 : Hid (Calls Try.prog 37 #[.pointer (some ⟨b, 0, none⟩)] w fun e w' => e = .returned (.int .i64 0) ∧ w.grownBy w' none) := partQ_stop s hs i n t d b w L c a hc hi h
  have HN : Hid (∀ W, w.grownBy W none → Calls Try.prog 22 #[.pointer (some ⟨b, 0, none⟩)] W fun e w' => e = .returned (.int .u8 (byT s i)) ∧ W.grownBy w' none) := fun W hW => nowQ_any s b i n t d L c a W hs hi (h.kept hW)
  have HK : Hid (∀ W, w.grownBy W none → Calls Try.prog 23 #[.pointer (some ⟨b, 0, none⟩)] W fun e w' => e = .returned (.bool false) ∧ w' = W) := fun W hW => by
    have h1 := okQ_any s b i n t d L c a W (h.kept hW)
    have hc' : (c == 0) = false := by simpa using hc
    rw [hc'] at h1
    exact h1
  clear h hc
  generalize byT s i = x at *
  go_enter Try.func21, Try.ntmps21
  go_wp2_with fail
  refine H1.out.mono ?_
  rintro e w2 ⟨rfl, hg2⟩
  have G2 : Hid (w.grownBy w2 none) := hg2
  clear hg2
  go_wp2_with fail
  go_loopw [3] (fun v wr => v = .int .i64 0 ∧ w.grownBy wr none) (fun _ _ => 0)
  case atStart => exact ⟨rfl, G2.out⟩
  case round =>
    clear G2
    rename World => wr
    obtain ⟨rfl, hg⟩ := hrel
    have G : Hid (w.grownBy wr none) := hg
    clear hg
    go_wp2_with fail
    refine (HN.out _ G.out).mono ?_
    rintro e w3 ⟨rfl, hg3⟩
    have G3 : Hid (w.grownBy w3 none) := grown_trans G.out hg3
    clear hg3
    go_wp2_with fail
    refine (HK.out _ G3.out).mono ?_
    rintro e w4 ⟨rfl, rfl⟩
    go_wp2_with fail
    go_ret
    exact ⟨rfl, G3.out⟩

set_option maxHeartbeats 6400000 in
theorem oneQ_does (s : ByteArray) (O W : PT) (m : Nat) (hs : s.size ≤ 4000) (hO : Fwd s O) (hF : Fwd s W) (hOd : QDoes 42 s O m) (hWd : QDoes 11 s W m) : QDoes 42 s (oneQ s O W) (m + 1) := by
  intro i n t d b w L ps hi hm hn ht hd hpn h hp
  have HK : Hid (Calls Try.prog 23 #[.pointer (some ⟨b, 0, none⟩)] w fun e w' => e = .returned (.bool true) ∧ w' = w) := okQ_any s b i n t d L 0 0 w h
  have HN : Hid (Calls Try.prog 22 #[.pointer (some ⟨b, 0, none⟩)] w fun e w' => e = .returned (.int .u8 (byT s i)) ∧ w.grownBy w' none) := nowQ_any s b i n t d L 0 0 w hs (by omega) h
  have HCf : Hid (∀ W (c0 : Nat), QRd W b s i n t d L 0 0 → fullC c0 n t = true → Calls Try.prog 24 #[.pointer (some ⟨b, 0, none⟩), .int .u8 (c0 : Int)] W fun e w' => e = .returned (.tuple #[]) ∧ W.grownBy w' (some b) ∧ QRd w' b s (i + 1) (n + 1) (tmC c0 t) d L 7 i) := fun W c0 h1 h2 => countQ_full s b i n t d L c0 W (by omega) hn ht h2 h1
  have HCg : Hid (∀ W (c0 : Nat), QRd W b s i n t d L 0 0 → ¬ fullC c0 n t = true → Calls Try.prog 24 #[.pointer (some ⟨b, 0, none⟩), .int .u8 (c0 : Int)] W fun e w' => e = .returned (.tuple #[]) ∧ W.grownBy w' (some b) ∧ QRd w' b s (i + 1) (n + 1) (tmC c0 t) d L 0 0) := fun W c0 h1 h2 => countQ_go s b i n t d L c0 W (by omega) hn ht h2 h1
  have HO : Hid (∀ W (c0 : Nat), i < s.size → ¬ fullC c0 n t = true → QRd W b s (i + 1) (n + 1) (tmC c0 t) d L 0 0 → NodsAt W b L ps → Calls Try.prog 42 #[.pointer (some ⟨b, 0, none⟩)] W (QGives s b d (n + 1) W L ps (O (i + 1) (n + 1) (tmC c0 t) d))) := fun W c0 h1 h2 h3 h4 => by
    obtain ⟨q1, q2⟩ := full_not h2
    exact hOd (i + 1) (n + 1) _ d b W L ps (by omega) (by omega) q1 q2 hd (by omega) h3 h4
  have HW : Hid (∀ W1, i < s.size → d + 1 ≤ 40 → QRd W1 b s (i + 1) n t (d + 1) L 0 0 → NodsAt W1 b L ps → Calls Try.prog 11 #[.pointer (some ⟨b, 0, none⟩)] W1 (QGives s b (d + 1) n W1 L ps (W (i + 1) n t (d + 1)))) := fun W1 h1 h2 h3 h4 => hWd (i + 1) n t (d + 1) b W1 L ps (by omega) (by omega) hn ht h2 hpn h3 h4
  have H : Hid (QRd w b s i n t d L 0 0) := h
  have HP : Hid (NodsAt w b L ps) := hp
  have HI : Hid (0 < byT s i → i < s.size) := fun h1 => byT_pos rfl h1
  have HFw : Hid (Fwd s W) := hF
  clear h hp hOd hWd
  unfold oneQ
  generalize byT s i = c at *
  by_cases hA : c = 33 ∨ c = 88 ∨ c = 70 ∨ c = 71
  · rw [if_pos hA]
    have HA : Hid (c = 33 ∨ c = 88 ∨ c = 70 ∨ c = 71) := hA
    have hil : i < s.size := HI.out (by omega)
    by_cases hf : fullC c n t = true
    · rw [if_pos hf]
      have CF : Hid (∀ W, QRd W b s i n t d L 0 0 → Calls Try.prog 24 #[.pointer (some ⟨b, 0, none⟩), .int .u8 (c : Int)] W fun e w' => e = .returned (.tuple #[]) ∧ W.grownBy w' (some b) ∧ QRd w' b s (i + 1) (n + 1) (tmC c t) d L 7 i) := fun W h1 => HCf.out W c h1 hf
      have HT6 : Hid (tmC c t ≤ 6) := tm_le ht
      clear HCf HCg HO HW hf HFw
      generalize tmC c t = tt at *
      rcases hA with rfl | rfl | rfl | rfl
      all_goals
        go_enter Try.func42, Try.ntmps42
        go_wp2_with fail
        refine HK.out.mono ?_
        rintro e w1 ⟨rfl, rfl⟩
        go_wp2_with fail
        refine HN.out.mono ?_
        rintro e w2 ⟨rfl, hg2⟩
        have R2 : Hid (QRd w2 b s i n t d L 0 0) := H.out.kept hg2
        have G2 : Hid (w1.grownBy w2 (some b)) := grown_some hg2
        clear hg2
        go_wp2_with fail
        refine (CF.out _ R2.out).mono ?_
        rintro e w3 ⟨rfl, hg3, hr3⟩
        have R3 : Hid (QRd w3 b s (i + 1) (n + 1) tt d L 7 i) := hr3
        have G3 : Hid (w1.grownBy w3 (some b)) := grown_trans G2.out hg3
        clear hg3 hr3 R2 G2
        go_wp2_with fail
        refine (oneQ_stop s (i + 1) (n + 1) tt d b _ L 7 i (by omega) (by omega) R3.out).mono ?_
        rintro e w4 ⟨rfl, hg4⟩
        have R4 : Hid (QRd w4 b s (i + 1) (n + 1) tt d L 7 i) := R3.out.kept hg4
        have G4 : Hid (w1.grownBy w4 (some b)) := grown_trans G3.out (grown_some hg4)
        have P4 : Hid (NodsAt w4 b L ps) := nods_set HP.out G4.out
        clear hg4 R3 G3
        go_wp2_with fail
        refine (putQ_any s b (i + 1) (n + 1) tt d L 7 i _ ps _ 0 0 (by omega) R4.out P4.out).mono ?_
        rintro e w5 ⟨rfl, L5, hr5, hp5, hf5⟩
        have E : Hid (QGives s b d n w1 L ps (.bad 7 i) (.returned (.int .i64 (ps.length : Int))) w5) := ⟨L5, [(_, 0, 0)], n + 1, (FrQ.grown G4.out).trans hf5, hp5, by omega, by omega, by simp; omega, ps.length, i + 1, tt, rfl, by omega, HT6.out, hr5⟩
        clear hr5 hp5 hf5 R4 G4 P4
        go_wp2_with fail
        go_ret
        exact E.out
    · rw [if_neg hf]
      have CG : Hid (∀ W, QRd W b s i n t d L 0 0 → Calls Try.prog 24 #[.pointer (some ⟨b, 0, none⟩), .int .u8 (c : Int)] W fun e w' => e = .returned (.tuple #[]) ∧ W.grownBy w' (some b) ∧ QRd w' b s (i + 1) (n + 1) (tmC c t) d L 0 0) := fun W h1 => HCg.out W c h1 hf
      have CO : Hid (∀ W, QRd W b s (i + 1) (n + 1) (tmC c t) d L 0 0 → NodsAt W b L ps → Calls Try.prog 42 #[.pointer (some ⟨b, 0, none⟩)] W (QGives s b d (n + 1) W L ps (O (i + 1) (n + 1) (tmC c t) d))) := fun W h1 h2 => HO.out W c hil hf h1 h2
      clear HCf HCg HO HW hf HFw
      cases hR : O (i + 1) (n + 1) (tmC c t) d with
      | bad c2 j =>
        rw [hR] at CO
        clear hR HA
        simp only
        generalize tmC c t = tt at *
        rcases hA with rfl | rfl | rfl | rfl
        all_goals
          go_enter Try.func42, Try.ntmps42
          go_wp2_with fail
          refine HK.out.mono ?_
          rintro e w1 ⟨rfl, rfl⟩
          go_wp2_with fail
          refine HN.out.mono ?_
          rintro e w2 ⟨rfl, hg2⟩
          have R2 : Hid (QRd w2 b s i n t d L 0 0) := H.out.kept hg2
          have G2 : Hid (w1.grownBy w2 (some b)) := grown_some hg2
          clear hg2
          go_wp2_with fail
          refine (CG.out _ R2.out).mono ?_
          rintro e w3 ⟨rfl, hg3, hr3⟩
          have R3 : Hid (QRd w3 b s (i + 1) (n + 1) tt d L 0 0) := hr3
          have G3 : Hid (w1.grownBy w3 (some b)) := grown_trans G2.out hg3
          have P3 : Hid (NodsAt w3 b L ps) := nods_set HP.out G3.out
          clear hg3 hr3 R2 G2
          go_wp2_with fail
          refine (CO.out _ R3.out P3.out).mono ?_
          rintro e w4 ⟨L4, qs, n4, hf4, hp4, hn41, hn42, hn43, k, i4, t4, rfl, hi4, ht4, hr4⟩
          have R4 : Hid (QRd w4 b s i4 n4 t4 d L4 c2 j) := hr4
          have P4 : Hid (NodsAt w4 b L4 (ps ++ qs)) := hp4
          have F4 : Hid (FrQ w1 w4 b L L4) := (FrQ.grown G3.out).trans hf4
          clear hr4 hp4 hf4 R3 G3 P3
          go_wp2_with fail
          obtain ⟨K, hK⟩ : ∃ K, (ps ++ qs).length = K := ⟨_, rfl⟩
          refine (putQ_len s b i4 n4 t4 d L4 c2 j _ (ps ++ qs) _ k 0 K (by rw [List.length_append]; omega) hK R4.out P4.out).mono ?_
          rintro e w5 ⟨rfl, L5, hr5, hp5, hf5⟩
          rw [List.append_assoc] at hp5
          have E : Hid (QGives s b d n w1 L ps (.bad c2 j) (.returned (.int .i64 (K : Int))) w5) := ⟨L5, qs ++ [(_, k, 0)], n4, F4.out.trans hf5, hp5, by omega, by omega, by rw [List.length_append, List.length_singleton]; omega, K, i4, t4, rfl, hi4, ht4, hr5⟩
          clear hr5 hp5 hf5 R4 F4 P4 hK
          go_wp2_with fail
          go_ret
          exact E.out
      | good f j n2 t2 =>
        rw [hR] at CO
        clear hR
        simp only
        have HM : Hid (∀ (qs : List NodR) (k : Nat), k < (ps ++ qs).length → MeanA ps (ps ++ qs) k f → MeanA ps (ps ++ (qs ++ [(c, k, 0)])) (ps ++ qs).length (unF c f)) := fun qs k hk hM => by
          have h1 : MeansN (ps ++ (qs ++ [(c, k, 0)])) (ps ++ qs).length (unF c f) := by
            refine .un _ c k f (last_get ps qs _) HA.out hk ?_
            rw [← List.append_assoc]
            exact hM.1.more _
          refine ⟨h1, fun h0 => ?_⟩
          rw [← List.append_assoc] at h1 ⊢
          exact (hM.2 h0).snoc h1
        clear HA
        generalize tmC c t = tt at *
        generalize unF c f = uf at *
        rcases hA with rfl | rfl | rfl | rfl
        all_goals
          go_enter Try.func42, Try.ntmps42
          go_wp2_with fail
          refine HK.out.mono ?_
          rintro e w1 ⟨rfl, rfl⟩
          go_wp2_with fail
          refine HN.out.mono ?_
          rintro e w2 ⟨rfl, hg2⟩
          have R2 : Hid (QRd w2 b s i n t d L 0 0) := H.out.kept hg2
          have G2 : Hid (w1.grownBy w2 (some b)) := grown_some hg2
          clear hg2
          go_wp2_with fail
          refine (CG.out _ R2.out).mono ?_
          rintro e w3 ⟨rfl, hg3, hr3⟩
          have R3 : Hid (QRd w3 b s (i + 1) (n + 1) tt d L 0 0) := hr3
          have G3 : Hid (w1.grownBy w3 (some b)) := grown_trans G2.out hg3
          have P3 : Hid (NodsAt w3 b L ps) := nods_set HP.out G3.out
          clear hg3 hr3 R2 G2
          go_wp2_with fail
          refine (CO.out _ R3.out P3.out).mono ?_
          rintro e w4 ⟨L4, qs, n4, hf4, hp4, hn41, hn42, hn43, rfl, k, rfl, hk4, hr4, hm4⟩
          have R4 : Hid (QRd w4 b s j n4 t2 d L4 0 0) := hr4
          have P4 : Hid (NodsAt w4 b L4 (ps ++ qs)) := hp4
          have F4 : Hid (FrQ w1 w4 b L L4) := (FrQ.grown G3.out).trans hf4
          have M4 : Hid _ := HM.out qs k hk4 hm4
          clear hr4 hp4 hf4 R3 G3 P3 hm4
          go_wp2_with fail
          obtain ⟨K, hK⟩ : ∃ K, (ps ++ qs).length = K := ⟨_, rfl⟩
          refine (putQ_len s b j n4 t2 d L4 0 0 _ (ps ++ qs) _ k 0 K (by rw [List.length_append]; omega) hK R4.out P4.out).mono ?_
          rintro e w5 ⟨rfl, L5, hr5, hp5, hf5⟩
          rw [List.append_assoc] at hp5
          have E : Hid (QGives s b d n w1 L ps (.good uf j n4 t2) (.returned (.int .i64 (K : Int))) w5) := ⟨L5, qs ++ [(_, k, 0)], n4, F4.out.trans hf5, hp5, by omega, by omega, by rw [List.length_append, List.length_singleton]; omega, rfl, K, rfl, by rw [← hK]; simp, hr5, hK ▸ M4.out⟩
          clear hr5 hp5 hf5 R4 F4 P4 M4 hK
          go_wp2_with fail
          go_ret
          exact E.out
  · rw [if_neg hA]
    have k33 : ((c : Int) == 33) = false := by simp; omega
    have k88 : ((c : Int) == 88) = false := by simp; omega
    have k70 : ((c : Int) == 70) = false := by simp; omega
    have k71 : ((c : Int) == 71) = false := by simp; omega
    clear HO
    by_cases h40 : c = 40
    · rw [if_pos h40]
      have hil : i < s.size := HI.out (by omega)
      clear HCf HCg hA k33 k88 k70 k71 HI
      subst h40
      by_cases hd40 : d = 40
      · subst hd40
        have hS : brackQ s W i n t 40 = .bad 7 i := by simp [brackQ]
        rw [hS]
        clear hS HW
        go_enter Try.func42, Try.ntmps42
        go_wp2_with fail
        refine HK.out.mono ?_
        rintro e w1 ⟨rfl, rfl⟩
        go_wp2_with fail
        refine HN.out.mono ?_
        rintro e w2 ⟨rfl, hg2⟩
        have R2 : Hid (QRd w2 b s i n t 40 L 0 0) := H.out.kept hg2
        have G2 : Hid (w1.grownBy w2 (some b)) := grown_some hg2
        have c4 := R2.out.c4
        clear hg2
        go_wp2_with fail
        refine (failQ_first s b i n t 40 L 0 7 _ R2.out).mono ?_
        rintro e w3 ⟨rfl, hg3, hr3⟩
        have G3 := grown_trans G2.out hg3
        have E : Hid (QGives s b 40 n w1 L ps (.bad 7 i) (.returned (.int .i64 0)) w3) := ⟨L, [], n, FrQ.grown G3, by rw [List.append_nil]; exact nods_set HP.out G3, by omega, by omega, by simp, 0, i, t, rfl, by omega, by omega, hr3⟩
        clear hg3 hr3 G3 R2 G2 c4
        go_wp2_with fail
        go_ret
        exact E.out
      · have hd' : ((d : Int) == 40) = false := by simp; omega
        have CW : Hid (∀ W1, QRd W1 b s (i + 1) n t (d + 1) L 0 0 → NodsAt W1 b L ps → Calls Try.prog 11 #[.pointer (some ⟨b, 0, none⟩)] W1 (QGives s b (d + 1) n W1 L ps (W (i + 1) n t (d + 1)))) := fun W1 h1 h2 => HW.out W1 hil (by omega) h1 h2
        clear HW
        cases hR : W (i + 1) n t (d + 1) with
        | bad c2 j =>
          have hc2 := (HFw.out.bad hR (by omega) hn ht).1
          have hS : brackQ s W i n t d = .bad c2 j := by simp [brackQ, hd40, hR]
          rw [hS]
          rw [hR] at CW
          clear hS hR HFw
          go_enter Try.func42, Try.ntmps42
          go_wp2_with fail
          refine HK.out.mono ?_
          rintro e w1 ⟨rfl, rfl⟩
          go_wp2_with fail
          refine HN.out.mono ?_
          rintro e w2 ⟨rfl, hg2⟩
          have R2 : Hid (QRd w2 b s i n t d L 0 0) := H.out.kept hg2
          have G2 : Hid (w1.grownBy w2 (some b)) := grown_some hg2
          have c4 := R2.out.c4
          have f4 := R2.out.f 4
          have x1 := (R2.out.set4 (d + 1) (x := (d : Int) + 1) (by omega)).c1
          have x2 := (R2.out.set4 (d + 1) (x := (d : Int) + 1) (by omega)).f 1
          have R3 : Hid (QRd ((w2.setCell ⟨b, 4, none⟩ (.int .i64 ((d : Int) + 1))).setCell ⟨b, 1, none⟩ (.int .i64 ((i : Int) + 1))) b s (i + 1) n t (d + 1) L 0 0) := (R2.out.set4 (d + 1) (by omega)).set1 (i + 1) (by omega)
          have G3 : Hid (w1.grownBy ((w2.setCell ⟨b, 4, none⟩ (.int .i64 ((d : Int) + 1))).setCell ⟨b, 1, none⟩ (.int .i64 ((i : Int) + 1))) (some b)) := grown_trans G2.out (grown_trans (grown_set _ _ _) (grown_set _ _ _))
          have P3 : Hid (NodsAt ((w2.setCell ⟨b, 4, none⟩ (.int .i64 ((d : Int) + 1))).setCell ⟨b, 1, none⟩ (.int .i64 ((i : Int) + 1))) b L ps) := nods_set HP.out G3.out
          clear hg2 R2 G2
          go_wp2_with fail
          refine (CW.out _ R3.out P3.out).mono ?_
          rintro e w4 ⟨L4, qs, n4, hf4, hp4, hn41, hn42, hn43, k, i4, t4, rfl, hi4, ht4, hr4⟩
          have R4 : Hid (QRd w4 b s i4 n4 t4 (d + 1) L4 c2 j) := hr4
          have P4 : Hid (NodsAt w4 b L4 (ps ++ qs)) := hp4
          have F4 : Hid (FrQ w1 w4 b L L4) := (FrQ.grown G3.out).trans hf4
          clear hr4 hp4 hf4 R3 G3 P3 x1 x2 c4 f4
          have HE : Hid (∀ W5, w4.grownBy W5 none → QGives s b d n w1 L ps (.bad c2 j) (.returned (.int .i64 (k : Int))) ((W5.setCell ⟨b, 1, none⟩ (.int .i64 ((i4 : Int) + 1))).setCell ⟨b, 4, none⟩ (.int .i64 (d : Int))) ∧ W5.cell? ⟨b, 1, none⟩ = some (.int .i64 (i4 : Int)) ∧ W5.frozen? ⟨b, 1, none⟩ = false ∧ (W5.setCell ⟨b, 1, none⟩ (.int .i64 ((i4 : Int) + 1))).cell? ⟨b, 4, none⟩ = some (.int .i64 ((d + 1 : Nat) : Int)) ∧ (W5.setCell ⟨b, 1, none⟩ (.int .i64 ((i4 : Int) + 1))).frozen? ⟨b, 4, none⟩ = false) := fun W5 hW5 => by
            have r5 := R4.out.kept hW5
            have r6 := r5.set1 (i4 + 1) (x := (i4 : Int) + 1) (by omega)
            have g7 : W5.grownBy ((W5.setCell ⟨b, 1, none⟩ (.int .i64 ((i4 : Int) + 1))).setCell ⟨b, 4, none⟩ (.int .i64 (d : Int))) (some b) := grown_trans (grown_set _ _ _) (grown_set _ _ _)
            exact ⟨⟨L4, qs, n4, (F4.out.trans (FrQ.grown' hW5)).trans (FrQ.grown g7), nods_set (nods_kept P4.out hW5) g7, by omega, by omega, by omega, k, i4 + 1, t4, rfl, by omega, ht4, r6.set4 d (by omega)⟩, r5.c1, r5.f 1, r6.c4, r6.f 4⟩
          go_wp2_with fail
          refine (nowQ_any s b i4 n4 t4 (d + 1) L4 c2 j _ hs (by omega) R4.out).mono ?_
          rintro e w5 ⟨rfl, hg5⟩
          obtain ⟨he5, z1, z2, z3, z4⟩ := HE.out w5 hg5
          have E5 : Hid _ := he5
          have R5 : Hid (QRd w5 b s i4 n4 t4 (d + 1) L4 c2 j) := R4.out.kept hg5
          have HC2 : Hid (c2 ≠ 0) := by show _ ≠ _; omega
          clear hg5 he5 HE
          by_cases h41 : byT s i4 = 41
          · rw [h41]
            go_wp2_with fail
            go_ret
            exact E5.out
          · have h41' : ((byT s i4 : Int) == 41) = false := by simp; omega
            go_wp2_with fail
            refine (failQ_again s b i4 n4 t4 (d + 1) L4 c2 j 4 _ HC2.out R5.out).mono ?_
            rintro e w6 ⟨rfl, rfl⟩
            go_wp2_with fail
            go_ret
            exact E5.out
        | good f j n2 t2 =>
          obtain ⟨a1, a2, a3, a4, a5⟩ := HFw.out.good hR (by omega) hn ht
          rw [hR] at CW
          by_cases h41 : byT s j = 41
          · have hS : brackQ s W i n t d = .good f (j + 1) n2 t2 := by simp [brackQ, hd40, hR, h41]
            rw [hS]
            clear hS hR HFw
            have hjl := byT_pos h41 (by omega)
            go_enter Try.func42, Try.ntmps42
            go_wp2_with fail
            refine HK.out.mono ?_
            rintro e w1 ⟨rfl, rfl⟩
            go_wp2_with fail
            refine HN.out.mono ?_
            rintro e w2 ⟨rfl, hg2⟩
            have R2 : Hid (QRd w2 b s i n t d L 0 0) := H.out.kept hg2
            have G2 : Hid (w1.grownBy w2 (some b)) := grown_some hg2
            have c4 := R2.out.c4
            have f4 := R2.out.f 4
            have x1 := (R2.out.set4 (d + 1) (x := (d : Int) + 1) (by omega)).c1
            have x2 := (R2.out.set4 (d + 1) (x := (d : Int) + 1) (by omega)).f 1
            have R3 : Hid (QRd ((w2.setCell ⟨b, 4, none⟩ (.int .i64 ((d : Int) + 1))).setCell ⟨b, 1, none⟩ (.int .i64 ((i : Int) + 1))) b s (i + 1) n t (d + 1) L 0 0) := (R2.out.set4 (d + 1) (by omega)).set1 (i + 1) (by omega)
            have G3 : Hid (w1.grownBy ((w2.setCell ⟨b, 4, none⟩ (.int .i64 ((d : Int) + 1))).setCell ⟨b, 1, none⟩ (.int .i64 ((i : Int) + 1))) (some b)) := grown_trans G2.out (grown_trans (grown_set _ _ _) (grown_set _ _ _))
            have P3 : Hid (NodsAt ((w2.setCell ⟨b, 4, none⟩ (.int .i64 ((d : Int) + 1))).setCell ⟨b, 1, none⟩ (.int .i64 ((i : Int) + 1))) b L ps) := nods_set HP.out G3.out
            clear hg2 R2 G2
            go_wp2_with fail
            refine (CW.out _ R3.out P3.out).mono ?_
            rintro e w4 ⟨L4, qs, n4, hf4, hp4, hn41, hn42, hn43, rfl, k, rfl, hk4, hr4, hm4⟩
            have R4 : Hid (QRd w4 b s j n4 t2 (d + 1) L4 0 0) := hr4
            have P4 : Hid (NodsAt w4 b L4 (ps ++ qs)) := hp4
            have F4 : Hid (FrQ w1 w4 b L L4) := (FrQ.grown G3.out).trans hf4
            have M4 : Hid (MeanA ps (ps ++ qs) k f) := hm4
            clear hr4 hp4 hf4 R3 G3 P3 x1 x2 c4 f4 hm4
            have HE : Hid (∀ W5, w4.grownBy W5 none → QGives s b d n w1 L ps (.good f (j + 1) n4 t2) (.returned (.int .i64 (k : Int))) ((W5.setCell ⟨b, 1, none⟩ (.int .i64 ((j : Int) + 1))).setCell ⟨b, 4, none⟩ (.int .i64 (d : Int))) ∧ W5.cell? ⟨b, 1, none⟩ = some (.int .i64 (j : Int)) ∧ W5.frozen? ⟨b, 1, none⟩ = false ∧ (W5.setCell ⟨b, 1, none⟩ (.int .i64 ((j : Int) + 1))).cell? ⟨b, 4, none⟩ = some (.int .i64 ((d + 1 : Nat) : Int)) ∧ (W5.setCell ⟨b, 1, none⟩ (.int .i64 ((j : Int) + 1))).frozen? ⟨b, 4, none⟩ = false) := fun W5 hW5 => by
              have r5 := R4.out.kept hW5
              have r6 := r5.set1 (j + 1) (x := (j : Int) + 1) (by omega)
              have g7 : W5.grownBy ((W5.setCell ⟨b, 1, none⟩ (.int .i64 ((j : Int) + 1))).setCell ⟨b, 4, none⟩ (.int .i64 (d : Int))) (some b) := grown_trans (grown_set _ _ _) (grown_set _ _ _)
              exact ⟨⟨L4, qs, n4, (F4.out.trans (FrQ.grown' hW5)).trans (FrQ.grown g7), nods_set (nods_kept P4.out hW5) g7, by omega, by omega, by omega, rfl, k, rfl, hk4, r6.set4 d (by omega), M4.out⟩, r5.c1, r5.f 1, r6.c4, r6.f 4⟩
            go_wp2_with fail
            refine (nowQ_any s b j n4 t2 (d + 1) L4 0 0 _ hs (by omega) R4.out).mono ?_
            rintro e w5 ⟨rfl, hg5⟩
            obtain ⟨he5, z1, z2, z3, z4⟩ := HE.out w5 hg5
            have E5 : Hid _ := he5
            rw [h41]
            clear hg5 he5 HE R4 P4 F4 M4
            go_wp2_with fail
            go_ret
            exact E5.out
          · have hS : brackQ s W i n t d = .bad 4 j := by simp [brackQ, hd40, hR, h41]
            rw [hS]
            clear hS hR HFw
            have h41' : ((byT s j : Int) == 41) = false := by simp; omega
            go_enter Try.func42, Try.ntmps42
            go_wp2_with fail
            refine HK.out.mono ?_
            rintro e w1 ⟨rfl, rfl⟩
            go_wp2_with fail
            refine HN.out.mono ?_
            rintro e w2 ⟨rfl, hg2⟩
            have R2 : Hid (QRd w2 b s i n t d L 0 0) := H.out.kept hg2
            have G2 : Hid (w1.grownBy w2 (some b)) := grown_some hg2
            have c4 := R2.out.c4
            have f4 := R2.out.f 4
            have x1 := (R2.out.set4 (d + 1) (x := (d : Int) + 1) (by omega)).c1
            have x2 := (R2.out.set4 (d + 1) (x := (d : Int) + 1) (by omega)).f 1
            have R3 : Hid (QRd ((w2.setCell ⟨b, 4, none⟩ (.int .i64 ((d : Int) + 1))).setCell ⟨b, 1, none⟩ (.int .i64 ((i : Int) + 1))) b s (i + 1) n t (d + 1) L 0 0) := (R2.out.set4 (d + 1) (by omega)).set1 (i + 1) (by omega)
            have G3 : Hid (w1.grownBy ((w2.setCell ⟨b, 4, none⟩ (.int .i64 ((d : Int) + 1))).setCell ⟨b, 1, none⟩ (.int .i64 ((i : Int) + 1))) (some b)) := grown_trans G2.out (grown_trans (grown_set _ _ _) (grown_set _ _ _))
            have P3 : Hid (NodsAt ((w2.setCell ⟨b, 4, none⟩ (.int .i64 ((d : Int) + 1))).setCell ⟨b, 1, none⟩ (.int .i64 ((i : Int) + 1))) b L ps) := nods_set HP.out G3.out
            clear hg2 R2 G2
            go_wp2_with fail
            refine (CW.out _ R3.out P3.out).mono ?_
            rintro e w4 ⟨L4, qs, n4, hf4, hp4, hn41, hn42, hn43, rfl, k, rfl, hk4, hr4, hm4⟩
            have R4 : Hid (QRd w4 b s j n4 t2 (d + 1) L4 0 0) := hr4
            have P4 : Hid (NodsAt w4 b L4 (ps ++ qs)) := hp4
            have F4 : Hid (FrQ w1 w4 b L L4) := (FrQ.grown G3.out).trans hf4
            clear hr4 hp4 hf4 R3 G3 P3 x1 x2 c4 f4 hm4
            go_wp2_with fail
            refine (nowQ_any s b j n4 t2 (d + 1) L4 0 0 _ hs (by omega) R4.out).mono ?_
            rintro e w5 ⟨rfl, hg5⟩
            have R5 : Hid (QRd w5 b s j n4 t2 (d + 1) L4 0 0) := R4.out.kept hg5
            have P5 : Hid (NodsAt w5 b L4 (ps ++ qs)) := nods_kept P4.out hg5
            have F5 : Hid (FrQ w1 w5 b L L4) := F4.out.trans (FrQ.grown' hg5)
            clear hg5 R4 P4 F4
            go_wp2_with fail
            refine (failQ_first s b j n4 t2 (d + 1) L4 0 4 _ R5.out).mono ?_
            rintro e w6 ⟨rfl, hg6, r6⟩
            have z1 := r6.c1
            have z2 := r6.f 1
            have r7 := r6.set1 (j + 1) (x := (j : Int) + 1) (by omega)
            have z3 := r7.c4
            have z4 := r7.f 4
            have g7 : w6.grownBy ((w6.setCell ⟨b, 1, none⟩ (.int .i64 ((j : Int) + 1))).setCell ⟨b, 4, none⟩ (.int .i64 (d : Int))) (some b) := grown_trans (grown_set _ _ _) (grown_set _ _ _)
            have E5 : Hid (QGives s b d n w1 L ps (.bad 4 j) (.returned (.int .i64 (k : Int))) ((w6.setCell ⟨b, 1, none⟩ (.int .i64 ((j : Int) + 1))).setCell ⟨b, 4, none⟩ (.int .i64 (d : Int)))) := ⟨L4, qs, n4, (F5.out.trans (FrQ.grown hg6)).trans (FrQ.grown g7), nods_set (nods_set P5.out hg6) g7, by omega, by omega, by omega, k, j + 1, t2, rfl, by omega, by omega, r7.set4 d (by omega)⟩
            clear hg6 r6 r7 g7 R5 P5 F5
            go_wp2_with fail
            go_ret
            exact E5.out
    · rw [if_neg h40]
      have k40 : ((c : Int) == 40) = false := by simp; omega
      clear HW HFw
      by_cases hL : c = 112 ∨ c = 113 ∨ c = 48 ∨ c = 49
      · rw [if_pos hL]
        clear hA k33 k88 k70 k71 k40 h40
        have HM : Hid (MeanA ps (ps ++ [(c, 0, 0)]) ps.length (lfF c)) := ⟨.leaf _ c (by simp) hL, fun h0 => h0.snoc (.leaf _ c (by simp) hL)⟩
        by_cases hf : fullC c n t = true
        · rw [if_pos hf]
          have CF : Hid (∀ W, QRd W b s i n t d L 0 0 → Calls Try.prog 24 #[.pointer (some ⟨b, 0, none⟩), .int .u8 (c : Int)] W fun e w' => e = .returned (.tuple #[]) ∧ W.grownBy w' (some b) ∧ QRd w' b s (i + 1) (n + 1) (tmC c t) d L 7 i) := fun W h1 => HCf.out W c h1 hf
          have HT6 : Hid (tmC c t ≤ 6) := tm_le ht
          have hil : i < s.size := HI.out (by omega)
          clear HCf HCg hf HM
          generalize tmC c t = tt at *
          rcases hL with rfl | rfl | rfl | rfl
          all_goals
            go_enter Try.func42, Try.ntmps42
            go_wp2_with fail
            refine HK.out.mono ?_
            rintro e w1 ⟨rfl, rfl⟩
            go_wp2_with fail
            refine HN.out.mono ?_
            rintro e w2 ⟨rfl, hg2⟩
            have R2 : Hid (QRd w2 b s i n t d L 0 0) := H.out.kept hg2
            have G2 : Hid (w1.grownBy w2 (some b)) := grown_some hg2
            clear hg2
            go_wp2_with fail
            refine (CF.out _ R2.out).mono ?_
            rintro e w3 ⟨rfl, hg3, hr3⟩
            have R3 : Hid (QRd w3 b s (i + 1) (n + 1) tt d L 7 i) := hr3
            have G3 : Hid (w1.grownBy w3 (some b)) := grown_trans G2.out hg3
            have P3 : Hid (NodsAt w3 b L ps) := nods_set HP.out G3.out
            clear hg3 hr3 R2 G2
            go_wp2_with fail
            refine (putQ_any s b (i + 1) (n + 1) tt d L 7 i _ ps _ 0 0 (by omega) R3.out P3.out).mono ?_
            rintro e w5 ⟨rfl, L5, hr5, hp5, hf5⟩
            have E : Hid (QGives s b d n w1 L ps (.bad 7 i) (.returned (.int .i64 (ps.length : Int))) w5) := ⟨L5, [(_, 0, 0)], n + 1, (FrQ.grown G3.out).trans hf5, hp5, by omega, by omega, by simp; omega, ps.length, i + 1, tt, rfl, by omega, HT6.out, hr5⟩
            clear hr5 hp5 hf5 R3 G3 P3
            go_wp2_with fail
            go_ret
            exact E.out
        · rw [if_neg hf]
          obtain ⟨q1, q2⟩ := full_not hf
          have CG : Hid (∀ W, QRd W b s i n t d L 0 0 → Calls Try.prog 24 #[.pointer (some ⟨b, 0, none⟩), .int .u8 (c : Int)] W fun e w' => e = .returned (.tuple #[]) ∧ W.grownBy w' (some b) ∧ QRd w' b s (i + 1) (n + 1) (tmC c t) d L 0 0) := fun W h1 => HCg.out W c h1 hf
          clear HCf HCg hf q2
          generalize tmC c t = tt at *
          generalize lfF c = lf at *
          rcases hL with rfl | rfl | rfl | rfl
          all_goals
            go_enter Try.func42, Try.ntmps42
            go_wp2_with fail
            refine HK.out.mono ?_
            rintro e w1 ⟨rfl, rfl⟩
            go_wp2_with fail
            refine HN.out.mono ?_
            rintro e w2 ⟨rfl, hg2⟩
            have R2 : Hid (QRd w2 b s i n t d L 0 0) := H.out.kept hg2
            have G2 : Hid (w1.grownBy w2 (some b)) := grown_some hg2
            clear hg2
            go_wp2_with fail
            refine (CG.out _ R2.out).mono ?_
            rintro e w3 ⟨rfl, hg3, hr3⟩
            have R3 : Hid (QRd w3 b s (i + 1) (n + 1) tt d L 0 0) := hr3
            have G3 : Hid (w1.grownBy w3 (some b)) := grown_trans G2.out hg3
            have P3 : Hid (NodsAt w3 b L ps) := nods_set HP.out G3.out
            clear hg3 hr3 R2 G2
            go_wp2_with fail
            refine (putQ_any s b (i + 1) (n + 1) tt d L 0 0 _ ps _ 0 0 (by omega) R3.out P3.out).mono ?_
            rintro e w5 ⟨rfl, L5, hr5, hp5, hf5⟩
            have E : Hid (QGives s b d n w1 L ps (.good lf (i + 1) (n + 1) tt) (.returned (.int .i64 (ps.length : Int))) w5) := ⟨L5, [(_, 0, 0)], n + 1, (FrQ.grown G3.out).trans hf5, hp5, by omega, by omega, by simp; omega, rfl, ps.length, rfl, by simp, hr5, HM.out⟩
            clear hr5 hp5 hf5 R3 G3 P3
            go_wp2_with fail
            go_ret
            exact E.out
      · rw [if_neg hL]
        have k112 : ((c : Int) == 112) = false := by simp; omega
        have k113 : ((c : Int) == 113) = false := by simp; omega
        have k48 : ((c : Int) == 48) = false := by simp; omega
        have k49 : ((c : Int) == 49) = false := by simp; omega
        clear HCf HCg
        go_enter Try.func42, Try.ntmps42
        go_wp2_with fail
        refine HK.out.mono ?_
        rintro e w1 ⟨rfl, rfl⟩
        go_wp2_with fail
        refine HN.out.mono ?_
        rintro e w2 ⟨rfl, hg2⟩
        have R2 : Hid (QRd w2 b s i n t d L 0 0) := H.out.kept hg2
        have G2 : Hid (w1.grownBy w2 (some b)) := grown_some hg2
        clear hg2
        go_wp2_with fail
        refine (failQ_first s b i n t d L 0 4 _ R2.out).mono ?_
        rintro e w3 ⟨rfl, hg3, hr3⟩
        have G3 := grown_trans G2.out hg3
        have E : Hid (QGives s b d n w1 L ps (.bad 4 i) (.returned (.int .i64 0)) w3) := ⟨L, [], n, FrQ.grown G3, by rw [List.append_nil]; exact nods_set HP.out G3, by omega, by omega, by simp, 0, i, t, rfl, by omega, by omega, hr3⟩
        clear hg3 hr3 G3 R2 G2
        go_wp2_with fail
        go_ret
        exact E.out

end Go.Proofs.Ytnhjkgfgbebfkaa
