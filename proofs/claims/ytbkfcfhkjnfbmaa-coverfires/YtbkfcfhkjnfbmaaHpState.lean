/- A state of heaps, as the program and the reference look at it. -/
import Derived.Test.YtbkfcfhkjnfbmaaHpCheck
import Derived.Test.YtbkfcfhkjnfbmaaHpCheckR
namespace Go.Proofs.Ytbkfcfhkjnfbmaa
open Go.RowKit
set_option linter.unusedVariables false

theorem rows_one {w : World} {s : List Int} {a : Option Addr} {c : Nat} (h : Ints w a s) (hm : s.length ≤ maxLen) : RowsAt (w.alloc (.cells #[.slice a s.length c] 25)) (some ⟨w.heap.size, 0, none⟩) [s] := by
  refine .inr ⟨w.heap.size, 0, rfl, fun i hi => ?_⟩
  have e : i = 0 := by simp at hi; omega
  subst e
  exact ⟨a, c, by rw [cell_of_row _ _ 0 _ _ (0, 0) (heap_alloc_new w (.cells #[.slice a s.length c] 25))]; rfl, h.grown (grown_alloc _ _), hm⟩
theorem within_one {s : List Int} {m : Int} : WithinH [s] m ↔ OneW s m :=
  ⟨fun h => h 0 (by simp), fun h i hi => by have e : i = 0 := by simp at hi; omega
                                            subst e; exact h⟩
theorem RowsAt.one {w : World} {s : List Int} {a : Option Addr} (h : RowsAt w a [s]) : ∃ b off x c, a = some ⟨b, off, none⟩ ∧ w.cell? ⟨b, off, none⟩ = some (.slice x s.length c) ∧ Ints w x s ∧ s.length ≤ maxLen := by
  obtain ⟨b, off, rfl, hc⟩ := h.at (k := 0) (by simp)
  obtain ⟨x, c, h1, h2, h3⟩ := hc 0 (by simp)
  exact ⟨b, off, x, c, rfl, h1, h2, h3⟩

set_option maxHeartbeats 3200000 in
set_option maxRecDepth 100000 in
theorem checkAll_any (x : Hp) (s : List Int) (a b a2 : Option Addr) (c d c2 : Nat) (w : World) (h : HpAt w x a b) (hs : RowsAt w a2 [s]) :
    Calls Try.prog 14 #[hpV x.P a x.T.length c b x.G.length d, .slice a2 1 c2] w (Says (.int .i64 (stateF x s)) w) := by
  obtain ⟨b2, o2, ya, ca, rfl, hy, hi, hm⟩ := hs.one
  have HC : Hid (∀ W, w.grownBy W none → Calls Try.prog 4 #[hpV x.P a x.T.length c b x.G.length d] W (Says (.int .i64 (checkH x)) W)) := fun W hW => checkHp_any x a b c d W (h.grown hW)
  have HW : Hid (∀ W, w.grownBy W none → Calls Try.prog 12 #[.slice (some ⟨W.heap.size, 0, none⟩) 1 1, .int .i64 10] (W.alloc (.cells #[.slice ya s.length ca] 25)) (TellsB (WithinH [s] 10) (W.alloc (.cells #[.slice ya s.length ca] 25)))) := fun W hW => withinH_any [s] 10 _ 1 _ (rows_one (hi.grown hW) hm) (by unfold maxLen; simp)
  obtain ⟨W1, hW1, g1, s1, bx1⟩ := boxH_new w x.P a x.T.length c b x.G.length d
  have HW1 : Hid (W1 = _) := hW1
  have G1 : Hid (w.grownBy W1 none) := g1
  have K1 : Hid (∀ W', W1.grownBy W' none → BoxH w.heap.size x.P a x.T.length c b x.G.length d W' ∧ W'.cell? ⟨b2, o2, none⟩ = some (.slice ya s.length ca)) := fun W' hW' => ⟨bx1.kept hW', (grown_trans g1 hW').cell hy (by simp)⟩
  obtain ⟨z, hz⟩ : ∃ z, stateF x s = z := ⟨_, rfl⟩
  rw [hz]
  have HZ : Hid (stateF x s = z) := hz
  unfold maxLen at hm
  clear h hs hy hi hW1 g1 s1 bx1 hz
  obtain ⟨k, hk⟩ : ∃ k, checkH x = k := ⟨_, rfl⟩
  rw [hk] at HC
  have HK : Hid (checkH x = k) := hk
  clear hk
  obtain ⟨⟨x0, x1, x2⟩, x3⟩ := K1.out W1 (grown_refl _ _)
  rw [HW1.out] at x0 x1 x2
  go_enter Try.func14, Try.ntmps14
  go_wp2_with fail
  rw [← HW1.out]
  refine (HC.out _ G1.out).mono ?_
  rintro E w2 ⟨rfl, hg2⟩
  have G2 : Hid (W1.grownBy w2 none) := hg2
  clear hg2 x0 x1 x2 x3
  by_cases k0 : k = 0
  case neg =>
    have k1 : (k != 0) = true := by simpa using k0
    have Hz : Hid (z = k) := by show _ = _; rw [← HZ.out, ← HK.out]; unfold stateF; rw [if_neg (by rw [HK.out]; exact k0)]
    have GF := grown_trans G1.out G2.out
    go_wp2_with fail
    go_ret
    exact ⟨by rw [Hz.out]; rfl, GF⟩
  have k1 : (k != 0) = false := by simpa using k0
  have HS : Hid (z = rowF s x.P 10) := by show _ = _; rw [← HZ.out]; unfold stateF; rw [if_pos (HK.out.trans k0)]
  clear k0
  obtain ⟨⟨x0, x1, x2⟩, x3⟩ := K1.out w2 G2.out
  go_wp2_with fail
  refine wp_loop_rounds 2 ?_
  rw [rounds_succ]
  by_cases e : (s.length : Int) = x.P
  case neg =>
    have e1 : ((s.length : Int) != x.P) = true := by simpa using e
    have Hz : Hid (z = 3) := by show _ = _; rw [HS.out]; exact rowF_shape e
    have GF := grown_trans G1.out G2.out
    clear e
    go_wp2_with fail
    go_ret
    exact ⟨by rw [Hz.out]; rfl, GF⟩
  have e1 : ((s.length : Int) != x.P) = false := by simpa using e
  have HE : Hid ((s.length : Int) = x.P) := e
  clear e
  go_wp2_with fail
  refine (HW.out w2 (grown_trans G1.out G2.out)).mono ?_
  rintro E w3 ⟨t, rfl, ht, hg3⟩
  have GF : Hid (w.grownBy w3 none) := grown_trans (grown_trans G1.out G2.out) (grown_trans (grown_alloc _ _) hg3)
  clear x0 x1 x2 x3 hg3
  cases t with
  | false =>
    have Hz : Hid (z = 2) := by show _ = _; rw [HS.out]; exact rowF_bad HE.out (fun q => by have := ht.2 (within_one.2 q); cases this)
    clear ht
    go_wp2_with fail
    go_ret
    exact ⟨by rw [Hz.out]; rfl, GF.out⟩
  | true =>
    have Hz : Hid (z = 0) := by show _ = _; rw [HS.out]; exact rowF_ok HE.out (within_one.1 (ht.1 rfl))
    clear ht
    go_wp2_with fail
    rw [rounds_succ]
    go_wp2_with fail
    go_ret
    exact ⟨by rw [Hz.out]; rfl, GF.out⟩

set_option maxHeartbeats 800000 in
theorem stateR_any (x : Hp) (s : List Int) (a b ya : Option Addr) (nT c nG d ca : Nat) (w : World) (h : Ints w ya s) (hm : s.length ≤ maxLen) :
    Calls Try.prog 19 #[hpV x.P a nT c b nG d, .slice ya s.length ca] w (Says (.int .i64 (rowF s x.P 10)) w) := by
  have HR : Hid (∀ W, w.grownBy W none → Calls Try.prog 13 #[.slice ya s.length ca, .int .i64 x.P, .int .i64 10] W (Says (.int .i64 (rowF s x.P 10)) W)) := fun W hW => rowR_any _ _ _ _ _ W (h.grown hW) hm
  obtain ⟨W1, hW1, g1, s1, bx1⟩ := boxH_new w x.P a nT c b nG d
  have HW1 : Hid (W1 = _) := hW1
  have G1 : Hid (w.grownBy W1 none) := g1
  obtain ⟨x0, x1, x2⟩ := bx1
  rw [hW1] at x0 x1 x2
  generalize rowF s x.P 10 = r at *
  clear h hW1 g1 s1
  go_enter Try.func19, Try.ntmps19
  go_wp2_with fail
  rw [← HW1.out]
  refine (HR.out _ G1.out).mono ?_
  rintro E w2 ⟨rfl, hg2⟩
  have GF : Hid (w.grownBy w2 none) := grown_trans G1.out hg2
  clear hg2 x0 x1 x2
  go_wp2_with fail
  go_ret
  exact ⟨rfl, GF.out⟩

set_option maxHeartbeats 3200000 in
set_option maxRecDepth 100000 in
theorem heapsL_any (x : Hp) (s : List Int) (a b a2 : Option Addr) (c d c2 : Nat) (w : World) (h : HpAt w x a b) (hs : RowsAt w a2 [s]) :
    Calls Try.prog 7 #[hpV x.P a x.T.length c b x.G.length d, .slice a2 1 c2] w (Says (.int .i64 (stateF x s)) w) := by
  obtain ⟨b2, o2, ya, ca, rfl, hy, hi, hm⟩ := hs.one
  have HC : Hid (∀ W, w.grownBy W none → Calls Try.prog 5 #[hpV x.P a x.T.length c b x.G.length d] W (Says (.int .i64 (checkH x)) W)) := fun W hW => checkHr_any x a b c d W (h.grown hW)
  have HSt : Hid (∀ W, w.grownBy W none → Calls Try.prog 19 #[hpV x.P a x.T.length c b x.G.length d, .slice ya s.length ca] W (Says (.int .i64 (rowF s x.P 10)) W)) := fun W hW => stateR_any x s a b ya _ c _ d ca W (hi.grown hW) hm
  obtain ⟨W1, hW1, g1, s1, bx1⟩ := boxH_new w x.P a x.T.length c b x.G.length d
  have HW1 : Hid (W1 = _) := hW1
  have G1 : Hid (w.grownBy W1 none) := g1
  have K1 : Hid (∀ W', W1.grownBy W' none → BoxH w.heap.size x.P a x.T.length c b x.G.length d W' ∧ W'.cell? ⟨b2, o2, none⟩ = some (.slice ya s.length ca)) := fun W' hW' => ⟨bx1.kept hW', (grown_trans g1 hW').cell hy (by simp)⟩
  obtain ⟨z, hz⟩ : ∃ z, stateF x s = z := ⟨_, rfl⟩
  rw [hz]
  have HZ : Hid (stateF x s = z) := hz
  clear h hs hy hi hW1 g1 s1 bx1 hz
  obtain ⟨k, hk⟩ : ∃ k, checkH x = k := ⟨_, rfl⟩
  rw [hk] at HC
  have HK : Hid (checkH x = k) := hk
  clear hk
  obtain ⟨⟨x0, x1, x2⟩, x3⟩ := K1.out W1 (grown_refl _ _)
  rw [HW1.out] at x0 x1 x2
  go_enter Try.func7, Try.ntmps7
  go_wp2_with fail
  rw [← HW1.out]
  refine (HC.out _ G1.out).mono ?_
  rintro E w2 ⟨rfl, hg2⟩
  have G2 : Hid (W1.grownBy w2 none) := hg2
  clear hg2 x0 x1 x2 x3
  by_cases k0 : k = 0
  case neg =>
    have k1 : (k == 0) = false := by simpa using k0
    have Hz : Hid (z = k) := by show _ = _; rw [← HZ.out, ← HK.out]; unfold stateF; rw [if_neg (by rw [HK.out]; exact k0)]
    have GF := grown_trans G1.out G2.out
    go_wp2_with fail
    refine wp_loop_rounds 1 ?_
    rw [rounds_succ]
    go_wp2_with fail
    go_ret
    exact ⟨by rw [Hz.out]; rfl, GF⟩
  have k1 : (k == 0) = true := by simpa using k0
  have HS : Hid (z = rowF s x.P 10) := by show _ = _; rw [← HZ.out]; unfold stateF; rw [if_pos (HK.out.trans k0)]
  clear k0
  obtain ⟨⟨x0, x1, x2⟩, x3⟩ := K1.out w2 G2.out
  go_wp2_with fail
  refine wp_loop_rounds 2 ?_
  rw [rounds_succ]
  generalize rowF s x.P 10 = r at *
  go_wp2_with fail
  have K9 : Hid (KeepH w2 w2 w.heap.size x.P (.slice a x.T.length c) (.slice b x.G.length d) ⟨b2, o2, none⟩ ⟨b2, o2, none⟩ (.slice ya s.length ca) (.slice ya s.length ca)) := ⟨grown_refl _ _, x0, x1, x2, x3, x3⟩
  clear x0 x1 x2 x3
  go_region_held3 (fun W => KeepH w2 W w.heap.size x.P (.slice a x.T.length c) (.slice b x.G.length d) ⟨b2, o2, none⟩ ⟨b2, o2, none⟩ (.slice ya s.length ca) (.slice ya s.length ca))
    (first | (with_reducible exact KeepH.drew K9.out) | (with_reducible exact KeepH.call (by assumption) hgA) | (with_reducible exact KeepH.drew (by assumption)) | assumption)
    (first | (go_at_call 19; refine (HSt.out _ (grown_trans (grown_trans G1.out G2.out) (show KeepH w2 _ w.heap.size x.P _ _ _ _ _ _ from by assumption).1)).mono ?_; rintro E w3 ⟨rfl, hgA⟩))
  rename_i hHeld
  have GF : Hid (w.grownBy w3 none) := grown_trans (grown_trans G1.out G2.out) hHeld.1
  clear hHeld hgA
  go_wp2_with fail
  rw [rounds_succ]
  go_wp2_with fail
  go_ret
  exact ⟨by rw [HS.out]; rfl, GF.out⟩

end Go.Proofs.Ytbkfcfhkjnfbmaa
