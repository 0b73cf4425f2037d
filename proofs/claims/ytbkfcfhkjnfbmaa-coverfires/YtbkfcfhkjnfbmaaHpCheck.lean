/- Both Checks of heaps. -/
import Derived.Test.YtbkfcfhkjnfbmaaHpSmall
namespace Go.Proofs.Ytbkfcfhkjnfbmaa
open Go.RowKit
set_option linter.unusedVariables false

set_option maxHeartbeats 3200000 in
set_option maxRecDepth 100000 in
theorem checkHp_any (x : Hp) (a b : Option Addr) (c d : Nat) (w : World) (h : HpAt w x a b) :
    Calls Try.prog 4 #[hpV x.P a x.T.length c b x.G.length d] w (Says (.int .i64 (checkH x)) w) := by
  have HS1 : Hid (∀ W, w.grownBy W none → Calls Try.prog 11 #[.slice a x.T.length c, .int .i64 x.P] W (TellsB (ShapedH x.T x.P) W)) := fun W hW => shapedH_any _ _ _ _ W (h.t.grown hW) h.mt
  have HS2 : Hid (∀ W, w.grownBy W none → Calls Try.prog 11 #[.slice b x.G.length d, .int .i64 x.P] W (TellsB (ShapedH x.G x.P) W)) := fun W hW => shapedH_any _ _ _ _ W (h.g.grown hW) h.mg
  have HT1 : Hid (∀ W, w.grownBy W none → Calls Try.prog 12 #[.slice a x.T.length c, .int .i64 2] W (TellsB (WithinH x.T 2) W)) := fun W hW => withinH_any _ _ _ _ W (h.t.grown hW) h.mt
  have HT2 : Hid (∀ W, w.grownBy W none → Calls Try.prog 12 #[.slice b x.G.length d, .int .i64 2] W (TellsB (WithinH x.G 2) W)) := fun W hW => withinH_any _ _ _ _ W (h.g.grown hW) h.mg
  have hmt := h.mt
  have hmg := h.mg
  unfold maxLen at hmt hmg
  obtain ⟨W1, hW1, g1, s1, bx1⟩ := boxH_new w x.P a x.T.length c b x.G.length d
  have HW1 : Hid (W1 = _) := hW1
  have G1 : Hid (w.grownBy W1 none) := g1
  have K1 : Hid (∀ W', W1.grownBy W' none → BoxH w.heap.size x.P a x.T.length c b x.G.length d W') := fun W' hW' => bx1.kept hW'
  obtain ⟨z, hz⟩ : ∃ z, checkH x = z := ⟨_, rfl⟩
  rw [hz]
  have HZ : Hid (checkH x = z) := hz
  clear h hW1 g1 s1 bx1 hz
  obtain ⟨P, T, G⟩ := x
  simp only at *
  have HA : Hid (P < 1 ∨ 4 < P ∨ 8 < T.length → z = 1) := fun h => by rw [← HZ.out]; exact checkH_size (x := ⟨P, T, G⟩) h
  have HB : Hid (¬ (P < 1 ∨ 4 < P ∨ 8 < T.length) → (G.length ≠ T.length ∨ ¬ ShapedH T P ∨ ¬ ShapedH G P) → z = 3) := fun h h2 => by rw [← HZ.out]; exact checkH_shape (x := ⟨P, T, G⟩) h h2
  have HC : Hid (¬ (P < 1 ∨ 4 < P ∨ 8 < T.length) → G.length = T.length → ShapedH T P → ShapedH G P → (¬ WithinH T 2 ∨ ¬ WithinH G 2) → z = 2) := fun h h1 h2 h3 h4 => by rw [← HZ.out]; exact checkH_range (x := ⟨P, T, G⟩) h (fun e => e.elim (fun e => e h1) fun e => e.elim (fun e => e h2) fun e => e h3) h4
  have HD : Hid (¬ (P < 1 ∨ 4 < P ∨ 8 < T.length) → G.length = T.length → ShapedH T P → ShapedH G P → WithinH T 2 → WithinH G 2 → z = 0) := fun h h1 h2 h3 h4 h5 => by rw [← HZ.out]; exact checkH_ok (x := ⟨P, T, G⟩) h (fun e => e.elim (fun e => e h1) fun e => e.elim (fun e => e h2) fun e => e h3) (fun e => e.elim (fun e => e h4) fun e => e h5)
  generalize T.length = nT at *
  generalize G.length = nG at *
  clear HZ
  obtain ⟨x0, x1, x2⟩ := K1.out W1 (grown_refl _ _)
  rw [HW1.out] at x0 x1 x2
  by_cases c1 : P < 1 ∨ 4 < P ∨ 8 < nT
  · rw [HA.out c1]
    have GF := G1.out
    clear HA HB HC HD HS1 HS2 HT1 HT2
    by_cases c2 : P < 1
    · clear c1
      go_enter Try.func4, Try.ntmps4
      go_wp2_with fail
      rw [← HW1.out]
      go_ret
      exact ⟨rfl, GF⟩
    · by_cases c3 : 4 < P
      · clear c1
        go_enter Try.func4, Try.ntmps4
        go_wp2_with fail
        rw [← HW1.out]
        go_ret
        exact ⟨rfl, GF⟩
      · have c4 : (8 : Int) < (nT : Int) := by omega
        clear c1
        go_enter Try.func4, Try.ntmps4
        go_wp2_with fail
        rw [← HW1.out]
        go_ret
        exact ⟨rfl, GF⟩
  have HN1 : Hid (¬ (P < 1 ∨ 4 < P ∨ 8 < nT)) := c1
  have l1 : ¬ P < 1 := by omega
  have l2 : ¬ 4 < P := by omega
  have l3 : ¬ (8 : Int) < (nT : Int) := by omega
  clear c1 HA
  by_cases c2 : nG = nT
  case neg =>
    have c3 : ((nG : Int) != (nT : Int)) = true := by simp; omega
    rw [HB.out HN1.out (.inl c2)]
    have GF := G1.out
    clear HB HC HD HS1 HS2 HT1 HT2 c2
    go_enter Try.func4, Try.ntmps4
    go_wp2_with fail
    rw [← HW1.out]
    go_ret
    exact ⟨rfl, GF⟩
  have c3 : ((nG : Int) != (nT : Int)) = false := by simp; omega
  have HN2 : Hid (nG = nT) := c2
  clear c2
  go_enter Try.func4, Try.ntmps4
  go_wp2_with fail
  rw [← HW1.out]
  refine (HS1.out _ G1.out).mono ?_
  rintro E w2 ⟨b2, rfl, hb2, hg2⟩
  have G2 : Hid (W1.grownBy w2 none) := hg2
  clear x0 x1 x2
  obtain ⟨x0, x1, x2⟩ := K1.out w2 hg2
  clear hg2
  cases b2 with
  | false =>
    have Hz : Hid (z = 3) := HB.out HN1.out (.inr (.inl (fun e => by have := hb2.2 e; cases this)))
    have GF := grown_trans G1.out G2.out
    clear hb2
    go_wp2_with fail
    go_ret
    exact ⟨by rw [Hz.out]; rfl, GF⟩
  | true =>
  have H2 : Hid (ShapedH T P) := hb2.1 rfl
  clear hb2
  go_wp2_with fail
  refine (HS2.out _ (grown_trans G1.out G2.out)).mono ?_
  rintro E w3 ⟨b3, rfl, hb3, hg3⟩
  have G3 : Hid (W1.grownBy w3 none) := grown_trans G2.out hg3
  clear x0 x1 x2
  obtain ⟨x0, x1, x2⟩ := K1.out w3 G3.out
  clear hg3
  cases b3 with
  | false =>
    have Hz : Hid (z = 3) := HB.out HN1.out (.inr (.inr (fun e => by have := hb3.2 e; cases this)))
    have GF := grown_trans G1.out G3.out
    clear hb3
    go_wp2_with fail
    go_ret
    exact ⟨by rw [Hz.out]; rfl, GF⟩
  | true =>
  have H3 : Hid (ShapedH G P) := hb3.1 rfl
  clear hb3
  go_wp2_with fail
  refine (HT1.out _ (grown_trans G1.out G3.out)).mono ?_
  rintro E w4 ⟨b4, rfl, hb4, hg4⟩
  have G4 : Hid (W1.grownBy w4 none) := grown_trans G3.out hg4
  clear x0 x1 x2
  obtain ⟨x0, x1, x2⟩ := K1.out w4 G4.out
  clear hg4
  cases b4 with
  | false =>
    have Hz : Hid (z = 2) := HC.out HN1.out HN2.out H2.out H3.out (.inl (fun e => by have := hb4.2 e; cases this))
    have GF := grown_trans G1.out G4.out
    clear hb4
    go_wp2_with fail
    go_ret
    exact ⟨by rw [Hz.out]; rfl, GF⟩
  | true =>
  have H4 : Hid (WithinH T 2) := hb4.1 rfl
  clear hb4
  go_wp2_with fail
  refine (HT2.out _ (grown_trans G1.out G4.out)).mono ?_
  rintro E w5 ⟨b5, rfl, hb5, hg5⟩
  have G5 : Hid (W1.grownBy w5 none) := grown_trans G4.out hg5
  clear x0 x1 x2
  obtain ⟨x0, x1, x2⟩ := K1.out w5 G5.out
  clear hg5
  cases b5 with
  | false =>
    have Hz : Hid (z = 2) := HC.out HN1.out HN2.out H2.out H3.out (.inr (fun e => by have := hb5.2 e; cases this))
    have GF := grown_trans G1.out G5.out
    clear hb5
    go_wp2_with fail
    go_ret
    exact ⟨by rw [Hz.out]; rfl, GF⟩
  | true =>
  have Hz : Hid (z = 0) := HD.out HN1.out HN2.out H2.out H3.out H4.out (hb5.1 rfl)
  have GF := grown_trans G1.out G5.out
  clear hb5
  go_wp2_with fail
  go_ret
  exact ⟨by rw [Hz.out]; rfl, GF⟩

end Go.Proofs.Ytbkfcfhkjnfbmaa
