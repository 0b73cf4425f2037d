/- The law StackSteps, out of what its callees answer. (Written by wip/tools/sklaw.py.) -/
import Derived.Test.YtmoaolfenllhlaaSkRef
import Derived.Test.YtmoaolfenllhlaaSkBeh2
namespace Go.Proofs.Ytmoaolfenllhlaa
open Go.RowKit
set_option linter.unusedVariables false

/-- A box that is made ahead of a call, or behind it. -/
theorem box_ahead {w7 w8 : World} {a8 : Option Addr} {n8 k8 : Nat} {t : TypeId} {bS : List Int} (bO : Int) (hg : ((w7.alloc (.cells #[.int .i64 0, .slice none 0 0] t)).drew).grownBy w8 none) (hi : Ints w8 a8 bS) (hn : ∀ y, a8 = some y → ((w7.alloc (.cells #[.int .i64 0, .slice none 0 0] t)).drew).heap.size ≤ y.block) :
    w8.cell? ⟨w7.heap.size, 0, none⟩ = some (.int .i64 0) ∧ w8.cell? ⟨w7.heap.size, 1, none⟩ = some (.slice none 0 0) ∧ w8.frozen? ⟨w7.heap.size, 0, none⟩ = false ∧ w8.frozen? ⟨w7.heap.size, 1, none⟩ = false ∧ ∃ W9, W9 = (w8.setCell ⟨w7.heap.size, 0, none⟩ (.int .i64 bO)).setCell ⟨w7.heap.size, 1, none⟩ (.slice a8 n8 k8) ∧ w7.grownBy W9 none ∧ Ints W9 a8 bS ∧ W9.cell? ⟨w7.heap.size, 0, none⟩ = some (.int .i64 bO) ∧ W9.cell? ⟨w7.heap.size, 1, none⟩ = some (.slice a8 n8 k8) := by
  have hr : w8.heap[w7.heap.size]? = some (.cells #[.int .i64 0, .slice none 0 0] t (0, 0)) := by
    rw [hg.block _ (by show w7.heap.size < (w7.alloc _).heap.size; rw [World.size_alloc]; omega) (by simp)]
    exact heap_alloc_new w7 _
  obtain ⟨c0, c1, f0, f1, W9, hW9, g9, x0, x1⟩ := cfg_store hr bO (.slice a8 n8 k8)
  have e : ((w7.alloc (.cells #[.int .i64 0, .slice none 0 0] t)).drew).heap.size = w7.heap.size + 1 := World.size_alloc _ _
  refine ⟨c0, c1, f0, f1, W9, hW9, grown_new (grown_trans (grown_drew (grown_alloc _ _)) hg) g9 (Nat.le_refl _), hi.far (fun y hy => ?_) g9, x0, x1⟩
  have := hn y hy
  omega
theorem box_behind {w7 w8 : World} {a8 : Option Addr} {n8 k8 : Nat} {bS : List Int} (t : TypeId) (bO : Int) (hg : (w7.drew).grownBy w8 none) (hi : Ints w8 a8 bS) :
    ∃ W9, W9 = w8.alloc (.cells #[.int .i64 bO, .slice a8 n8 k8] t) ∧ w7.grownBy W9 none ∧ Ints W9 a8 bS ∧ W9.cell? ⟨w8.heap.size, 0, none⟩ = some (.int .i64 bO) ∧ W9.cell? ⟨w8.heap.size, 1, none⟩ = some (.slice a8 n8 k8) := by
  obtain ⟨W9, hW9, g9, s9, bx9⟩ := box2_new w8 (.int .i64 bO) (.slice a8 n8 k8) t
  obtain ⟨x0, x1⟩ := bx9 W9 (grown_refl _ _)
  exact ⟨W9, hW9, grown_trans (grown_trans (grown_drew (grown_refl _ _)) hg) g9, hi.grown g9, x0, x1⟩

set_option maxHeartbeats 6400000 in
set_option maxRecDepth 100000 in
theorem steps_A (L : List Psh) (c : Cfg) (a b : Option Addr) (d k : Nat) (rule : Int) (w : World) (h : PushAt w a L) (hm : L.length ≤ maxLen) (hc : Ints w b c.2) (hcm : c.2.length ≤ maxLen) (hf : checkSk L ≠ 0) :
    Calls Try.prog 3 #[.slice a L.length d, cfgV c.1 b c.2.length k, .int .i64 rule] w (Says (.bool true) w) := by
  obtain ⟨W1, hW1, g1, s1, bx1⟩ := box2_new w (.int .i64 c.1) (.slice b c.2.length k) 25
  have BX : Hid (∀ W', W1.grownBy W' none → W'.cell? ⟨w.heap.size, 0, none⟩ = some (.int .i64 c.1) ∧ W'.cell? ⟨w.heap.size, 1, none⟩ = some (.slice b c.2.length k)) := bx1
  have G1 : Hid (w.grownBy W1 none) := g1
  have HW1 : Hid (W1 = _) := hW1
  have HC1 : Hid (∀ W, w.grownBy W none → Calls Try.prog 4 #[.slice a L.length d] W (Says (.int .i64 (checkSk L)) W)) := fun W hW => checkSk_any a d L W (h.grown hW) hm
  have HC2 : Hid (∀ W, w.grownBy W none → Calls Try.prog 5 #[.slice a L.length d] W (Says (.int .i64 (checkSk L)) W)) := fun W hW => checkSkR_any a d L W (h.grown hW) hm
  have HST : Hid (∀ W, w.grownBy W none → Calls Try.prog 6 #[.slice a L.length d, cfgV c.1 b c.2.length k, .int .i64 rule] W (Says (.tuple #[cfgV 0 none 0 0, .int .i64 (checkSk L)]) W)) := fun W hW => by
    have := step_bad L c a b d k rule W (h.grown hW) hm (hc.grown hW) hcm (by rw [allSk_bad hf]; exact hf)
    rwa [allSk_bad hf] at this
  generalize checkSk L = y at *
  have e1 : (y == 0) = false := by simpa using hf
  have e2 : (y != 0) = true := by simpa using hf
  have e3 : (y == y) = true := by simp
  have e4 : (y != y) = false := by simp
  generalize L.length = nL at *
  generalize c.2.length = nc at *
  clear h hm hc hcm hf hW1 g1 s1 bx1
  go_enter Try.func3, Try.ntmps3
  go_wp2_with fail
  rw [← HW1.out]
  refine (HC1.out _ G1.out).mono ?_
  rintro E w2 ⟨rfl, hg2⟩
  have G2 : Hid (W1.grownBy w2 none) := hg2
  clear hg2 HC1
  go_wp2_with fail
  refine (HC2.out _ (grown_trans G1.out G2.out)).mono ?_
  rintro E w3 ⟨rfl, hg3⟩
  have G3 : Hid (W1.grownBy w3 none) := grown_trans G2.out hg3
  clear hg3 HC2
  obtain ⟨x0, x1⟩ := BX.out w3 G3.out
  go_wp2_with fail
  clear x0 x1
  refine (HST.out _ (grown_trans G1.out G3.out)).mono ?_
  rintro E w4 ⟨rfl, hg4⟩
  obtain ⟨W5, hW5, g5, s5, bx5⟩ := box2_new w4 (.int .i64 0) (.slice none 0 0) 25
  have G5 : Hid (W1.grownBy W5 none) := grown_trans G3.out (grown_trans hg4 g5)
  obtain ⟨z0, z1⟩ := bx5 W5 (grown_refl _ _)
  obtain ⟨x0, x1⟩ := BX.out W5 G5.out
  have HW5 : Hid (W5 = _) := hW5
  have BZ : Hid (∀ W', W5.grownBy W' none → W'.cell? ⟨w4.heap.size, 0, none⟩ = some (.int .i64 0) ∧ W'.cell? ⟨w4.heap.size, 1, none⟩ = some (.slice none 0 0)) := bx5
  rw [hW5] at z0 z1 x0 x1
  clear hg4 g5 s5 bx5 hW5
  go_wp2_with fail
  rw [← HW5.out]
  go_ret
  exact ⟨rfl, grown_trans G1.out G5.out⟩

set_option maxHeartbeats 6400000 in
set_option maxRecDepth 100000 in
theorem steps_B (L : List Psh) (c : Cfg) (a b : Option Addr) (d k : Nat) (rule : Int) (w : World) (h : PushAt w a L) (hm : L.length ≤ maxLen) (hc : Ints w b c.2) (hcm : c.2.length ≤ maxLen) (hf : checkSk L = 0) (hg : cfgSk c ≠ 0) :
    Calls Try.prog 3 #[.slice a L.length d, cfgV c.1 b c.2.length k, .int .i64 rule] w (Says (.bool true) w) := by
  obtain ⟨W1, hW1, g1, s1, bx1⟩ := box2_new w (.int .i64 c.1) (.slice b c.2.length k) 25
  have BX : Hid (∀ W', W1.grownBy W' none → W'.cell? ⟨w.heap.size, 0, none⟩ = some (.int .i64 c.1) ∧ W'.cell? ⟨w.heap.size, 1, none⟩ = some (.slice b c.2.length k)) := bx1
  have G1 : Hid (w.grownBy W1 none) := g1
  have HW1 : Hid (W1 = _) := hW1
  have HC1 : Hid (∀ W, w.grownBy W none → Calls Try.prog 4 #[.slice a L.length d] W (Says (.int .i64 0) W)) := fun W hW => hf ▸ checkSk_any a d L W (h.grown hW) hm
  have HC2 : Hid (∀ W, w.grownBy W none → Calls Try.prog 5 #[.slice a L.length d] W (Says (.int .i64 0) W)) := fun W hW => hf ▸ checkSkR_any a d L W (h.grown hW) hm
  have ea : allSk L [c] = cfgSk c := by rw [allSk_good hf]; exact cfgsSk_bad [c] 0 (by simp) (fun j hj => by omega) hg
  have HST : Hid (∀ W, w.grownBy W none → Calls Try.prog 6 #[.slice a L.length d, cfgV c.1 b c.2.length k, .int .i64 rule] W (Says (.tuple #[cfgV 0 none 0 0, .int .i64 (cfgSk c)]) W)) := fun W hW => by
    have := step_bad L c a b d k rule W (h.grown hW) hm (hc.grown hW) hcm (by rw [ea]; exact hg)
    rwa [ea] at this
  have HCF : Hid (∀ W, w.grownBy W none → Calls Try.prog 7 #[cfgV c.1 b c.2.length k] W (Says (.int .i64 (cfgSk c)) W)) := fun W hW => cfgSkR_any c b k W (hc.grown hW) hcm
  generalize cfgSk c = y at *
  have e1 : (y == 0) = false := by simpa using hg
  have e2 : (y != 0) = true := by simpa using hg
  have e3 : (y == y) = true := by simp
  generalize L.length = nL at *
  generalize c.2.length = nc at *
  clear h hm hc hcm hf hg ea hW1 g1 s1 bx1
  go_enter Try.func3, Try.ntmps3
  go_wp2_with fail
  rw [← HW1.out]
  refine (HC1.out _ G1.out).mono ?_
  rintro E w2 ⟨rfl, hg2⟩
  have G2 : Hid (W1.grownBy w2 none) := hg2
  clear hg2 HC1
  go_wp2_with fail
  refine (HC2.out _ (grown_trans G1.out G2.out)).mono ?_
  rintro E w3 ⟨rfl, hg3⟩
  have G3 : Hid (W1.grownBy w3 none) := grown_trans G2.out hg3
  clear hg3 HC2
  obtain ⟨x0, x1⟩ := BX.out w3 G3.out
  go_wp2_with fail
  clear x0 x1
  refine (HST.out _ (grown_trans G1.out G3.out)).mono ?_
  rintro E w4 ⟨rfl, hg4⟩
  obtain ⟨W5, hW5, g5, s5, bx5⟩ := box2_new w4 (.int .i64 0) (.slice none 0 0) 25
  have G5 : Hid (W1.grownBy W5 none) := grown_trans G3.out (grown_trans hg4 g5)
  obtain ⟨z0, z1⟩ := bx5 W5 (grown_refl _ _)
  obtain ⟨x0, x1⟩ := BX.out W5 G5.out
  have HW5 : Hid (W5 = _) := hW5
  have BZ : Hid (∀ W', W5.grownBy W' none → W'.cell? ⟨w4.heap.size, 0, none⟩ = some (.int .i64 0) ∧ W'.cell? ⟨w4.heap.size, 1, none⟩ = some (.slice none 0 0)) := bx5
  rw [hW5] at z0 z1 x0 x1
  clear hg4 g5 s5 bx5 hW5
  go_wp2_with fail
  rw [← HW5.out]
  clear x0 x1 z0 z1
  refine (HCF.out _ (grown_trans G1.out G5.out)).mono ?_
  rintro E w6 ⟨rfl, hg6⟩
  obtain ⟨z0, z1⟩ := BZ.out w6 hg6
  have GF : Hid (w.grownBy w6 none) := grown_trans G1.out (grown_trans G5.out hg6)
  clear hg6
  go_wp2_with fail
  go_ret
  exact ⟨rfl, GF.out⟩

set_option maxHeartbeats 6400000 in
set_option maxRecDepth 100000 in
theorem steps_C (L : List Psh) (c : Cfg) (a b : Option Addr) (d k : Nat) (rule : Int) (w : World) (h : PushAt w a L) (hm : L.length ≤ maxLen) (hc : Ints w b c.2) (hcm : c.2.length ≤ maxLen) (hf : checkSk L = 0) (hg : cfgSk c = 0) (hn : rule < 0 ∨ (L.length : Int) ≤ rule) :
    Calls Try.prog 3 #[.slice a L.length d, cfgV c.1 b c.2.length k, .int .i64 rule] w (Says (.bool true) w) := by
  obtain ⟨W1, hW1, g1, s1, bx1⟩ := box2_new w (.int .i64 c.1) (.slice b c.2.length k) 25
  have BX : Hid (∀ W', W1.grownBy W' none → W'.cell? ⟨w.heap.size, 0, none⟩ = some (.int .i64 c.1) ∧ W'.cell? ⟨w.heap.size, 1, none⟩ = some (.slice b c.2.length k)) := bx1
  have G1 : Hid (w.grownBy W1 none) := g1
  have HW1 : Hid (W1 = _) := hW1
  have HC1 : Hid (∀ W, w.grownBy W none → Calls Try.prog 4 #[.slice a L.length d] W (Says (.int .i64 0) W)) := fun W hW => hf ▸ checkSk_any a d L W (h.grown hW) hm
  have HC2 : Hid (∀ W, w.grownBy W none → Calls Try.prog 5 #[.slice a L.length d] W (Says (.int .i64 0) W)) := fun W hW => hf ▸ checkSkR_any a d L W (h.grown hW) hm
  have ea : allSk L [c] = 0 := by rw [allSk_good hf]; exact cfgsSk_ok [c] (fun j hj => by have e : j = 0 := by simpa using hj
                                                                                          subst e; exact hg)
  have HCF : Hid (∀ W, w.grownBy W none → Calls Try.prog 7 #[cfgV c.1 b c.2.length k] W (Says (.int .i64 0) W)) := fun W hW => hg ▸ cfgSkR_any c b k W (hc.grown hW) hcm
  have HST : Hid (∀ W, w.grownBy W none → Calls Try.prog 6 #[.slice a L.length d, cfgV c.1 b c.2.length k, .int .i64 rule] W (Says (.tuple #[cfgV 0 none 0 0, .int .i64 5]) W)) := fun W hW => step_name L c a b d k rule W (h.grown hW) hm (hc.grown hW) hcm ea hn
  unfold maxLen at hm
  generalize L.length = nL at *
  generalize c.2.length = nc at *
  clear h hc hcm hf hg ea hW1 g1 s1 bx1
  by_cases h0 : rule < 0
  · have e0 : decide (rule < 0) = true := by simpa using h0
    clear h0 hn
    go_enter Try.func3, Try.ntmps3
    go_wp2_with fail
    rw [← HW1.out]
    refine (HC1.out _ G1.out).mono ?_
    rintro E w2 ⟨rfl, hg2⟩
    have G2 : Hid (W1.grownBy w2 none) := hg2
    clear hg2 HC1
    go_wp2_with fail
    refine (HC2.out _ (grown_trans G1.out G2.out)).mono ?_
    rintro E w3 ⟨rfl, hg3⟩
    have G3 : Hid (W1.grownBy w3 none) := grown_trans G2.out hg3
    clear hg3 HC2
    obtain ⟨x0, x1⟩ := BX.out w3 G3.out
    go_wp2_with fail
    clear x0 x1
    refine (HST.out _ (grown_trans G1.out G3.out)).mono ?_
    rintro E w4 ⟨rfl, hg4⟩
    obtain ⟨W5, hW5, g5, s5, bx5⟩ := box2_new w4 (.int .i64 0) (.slice none 0 0) 25
    have G5 : Hid (W1.grownBy W5 none) := grown_trans G3.out (grown_trans hg4 g5)
    obtain ⟨z0, z1⟩ := bx5 W5 (grown_refl _ _)
    obtain ⟨x0, x1⟩ := BX.out W5 G5.out
    have HW5 : Hid (W5 = _) := hW5
    have BZ : Hid (∀ W', W5.grownBy W' none → W'.cell? ⟨w4.heap.size, 0, none⟩ = some (.int .i64 0) ∧ W'.cell? ⟨w4.heap.size, 1, none⟩ = some (.slice none 0 0)) := bx5
    rw [hW5] at z0 z1 x0 x1
    clear hg4 g5 s5 bx5 hW5
    go_wp2_with fail
    rw [← HW5.out]
    clear x0 x1 z0 z1
    refine (HCF.out _ (grown_trans G1.out G5.out)).mono ?_
    rintro E w6 ⟨rfl, hg6⟩
    obtain ⟨z0, z1⟩ := BZ.out w6 hg6
    have GF : Hid (w.grownBy w6 none) := grown_trans G1.out (grown_trans G5.out hg6)
    clear hg6
    go_wp2_with fail
    go_ret
    exact ⟨rfl, GF.out⟩
  · have e0 : decide (rule < 0) = false := by simpa using h0
    have e1 : decide ((nL : Int) ≤ rule) = true := by simp; omega
    clear h0 hn
    go_enter Try.func3, Try.ntmps3
    go_wp2_with fail
    rw [← HW1.out]
    refine (HC1.out _ G1.out).mono ?_
    rintro E w2 ⟨rfl, hg2⟩
    have G2 : Hid (W1.grownBy w2 none) := hg2
    clear hg2 HC1
    go_wp2_with fail
    refine (HC2.out _ (grown_trans G1.out G2.out)).mono ?_
    rintro E w3 ⟨rfl, hg3⟩
    have G3 : Hid (W1.grownBy w3 none) := grown_trans G2.out hg3
    clear hg3 HC2
    obtain ⟨x0, x1⟩ := BX.out w3 G3.out
    go_wp2_with fail
    clear x0 x1
    refine (HST.out _ (grown_trans G1.out G3.out)).mono ?_
    rintro E w4 ⟨rfl, hg4⟩
    obtain ⟨W5, hW5, g5, s5, bx5⟩ := box2_new w4 (.int .i64 0) (.slice none 0 0) 25
    have G5 : Hid (W1.grownBy W5 none) := grown_trans G3.out (grown_trans hg4 g5)
    obtain ⟨z0, z1⟩ := bx5 W5 (grown_refl _ _)
    obtain ⟨x0, x1⟩ := BX.out W5 G5.out
    have HW5 : Hid (W5 = _) := hW5
    have BZ : Hid (∀ W', W5.grownBy W' none → W'.cell? ⟨w4.heap.size, 0, none⟩ = some (.int .i64 0) ∧ W'.cell? ⟨w4.heap.size, 1, none⟩ = some (.slice none 0 0)) := bx5
    rw [hW5] at z0 z1 x0 x1
    clear hg4 g5 s5 bx5 hW5
    go_wp2_with fail
    rw [← HW5.out]
    clear x0 x1 z0 z1
    refine (HCF.out _ (grown_trans G1.out G5.out)).mono ?_
    rintro E w6 ⟨rfl, hg6⟩
    obtain ⟨z0, z1⟩ := BZ.out w6 hg6
    have GF : Hid (w.grownBy w6 none) := grown_trans G1.out (grown_trans G5.out hg6)
    clear hg6
    go_wp2_with fail
    go_ret
    exact ⟨rfl, GF.out⟩

set_option maxHeartbeats 6400000 in
set_option maxRecDepth 100000 in
theorem steps_D (L : List Psh) (c : Cfg) (a b : Option Addr) (d k : Nat) (r : Nat) (w : World) (h : PushAt w a L) (hm : L.length ≤ maxLen) (hc : Ints w b c.2) (hcm : c.2.length ≤ maxLen) (hf : checkSk L = 0) (hg : cfgSk c = 0) (hr : r < L.length) (hno : ¬ CanSk (L.getD r pu0) c) :
    Calls Try.prog 3 #[.slice a L.length d, cfgV c.1 b c.2.length k, .int .i64 (r : Int)] w (Says (.bool true) w) := by
  obtain ⟨W1, hW1, g1, s1, bx1⟩ := box2_new w (.int .i64 c.1) (.slice b c.2.length k) 25
  have BX : Hid (∀ W', W1.grownBy W' none → W'.cell? ⟨w.heap.size, 0, none⟩ = some (.int .i64 c.1) ∧ W'.cell? ⟨w.heap.size, 1, none⟩ = some (.slice b c.2.length k)) := bx1
  have G1 : Hid (w.grownBy W1 none) := g1
  have HW1 : Hid (W1 = _) := hW1
  have HC1 : Hid (∀ W, w.grownBy W none → Calls Try.prog 4 #[.slice a L.length d] W (Says (.int .i64 0) W)) := fun W hW => hf ▸ checkSk_any a d L W (h.grown hW) hm
  have HC2 : Hid (∀ W, w.grownBy W none → Calls Try.prog 5 #[.slice a L.length d] W (Says (.int .i64 0) W)) := fun W hW => hf ▸ checkSkR_any a d L W (h.grown hW) hm
  have ea : allSk L [c] = 0 := by rw [allSk_good hf]; exact cfgsSk_ok [c] (fun j hj => by have e : j = 0 := by simpa using hj
                                                                                          subst e; exact hg)
  have HCF : Hid (∀ W, w.grownBy W none → Calls Try.prog 7 #[cfgV c.1 b c.2.length k] W (Says (.int .i64 0) W)) := fun W hW => hg ▸ cfgSkR_any c b k W (hc.grown hW) hcm
  have HST : Hid (∀ W, w.grownBy W none → Calls Try.prog 6 #[.slice a L.length d, cfgV c.1 b c.2.length k, .int .i64 (r : Int)] W (Says (.tuple #[cfgV 0 none 0 0, .int .i64 6]) W)) := fun W hW => step_none L c a b d k r W (h.grown hW) hm (hc.grown hW) hcm ea hr hno
  obtain ⟨bb, off, rfl, hcl⟩ := h.at hr
  have Y : Hid (∀ W, w.grownBy W none → Push4 W bb (off + r * 4) (L.getD r pu0)) := fun W hW => (hcl r hr).grown hW
  obtain ⟨y0, y1, y2, ap, cp, y3, y4, y5⟩ := hcl r hr
  have YY : Hid (∀ W, w.grownBy W none → W.cell? ⟨bb, off + r * 4, none⟩ = some (.int .i64 (L.getD r pu0).F) ∧ W.cell? ⟨bb, off + r * 4 + 1, none⟩ = some (.int .i64 (L.getD r pu0).T) ∧ W.cell? ⟨bb, off + r * 4 + 2, none⟩ = some (.int .i64 (L.getD r pu0).O) ∧ W.cell? ⟨bb, off + r * 4 + 3, none⟩ = some (.slice ap (L.getD r pu0).P.length cp)) := fun W hW => ⟨hW.cell y0 (by simp), hW.cell y1 (by simp), hW.cell y2 (by simp), hW.cell y3 (by simp)⟩
  have HCN : Hid (∀ W, w.grownBy W none → Calls Try.prog 8 #[pshV (L.getD r pu0).F (L.getD r pu0).T (L.getD r pu0).O ap (L.getD r pu0).P.length cp, cfgV c.1 b c.2.length k] W (TellsB (CanSk (L.getD r pu0) c) W)) := fun W hW => canSk_any _ c ap b cp k W (hc.grown hW) hcm
  have HCN : Hid (∀ W, w.grownBy W none → Calls Try.prog 8 #[pshV (L.getD r pu0).F (L.getD r pu0).T (L.getD r pu0).O ap (L.getD r pu0).P.length cp, cfgV c.1 b c.2.length k] W (Says (.bool false) W)) := fun W hW => (HCN.out W hW).mono fun E W' ⟨q, h1, h2, h3⟩ => ⟨by rw [h1]; cases q with | false => rfl | true => exact absurd (h2.1 rfl) hno, h3⟩
  unfold maxLen at hm
  clear hno
  have e0 : decide ((r : Int) < 0) = false := by simp
  have e1 : decide ((L.length : Int) ≤ (r : Int)) = false := by simp; omega
  have e2 : (r : Int) < (L.length : Int) := by omega
  generalize L.getD r pu0 = x at *
  obtain ⟨xF, xT, xO, xP⟩ := x
  simp only at *
  generalize xP.length = np at *
  generalize L.length = nL at *
  generalize c.2.length = nc at *
  generalize c.1 = c0 at *
  clear h hc hcm hf hg ea hW1 g1 s1 bx1 hcl y0 y1 y2 y3 y4 y5 Y hr
  go_enter Try.func3, Try.ntmps3
  go_wp2_with fail
  rw [← HW1.out]
  refine (HC1.out _ G1.out).mono ?_
  rintro E w2 ⟨rfl, hg2⟩
  have G2 : Hid (W1.grownBy w2 none) := hg2
  clear hg2 HC1
  go_wp2_with fail
  refine (HC2.out _ (grown_trans G1.out G2.out)).mono ?_
  rintro E w3 ⟨rfl, hg3⟩
  have G3 : Hid (W1.grownBy w3 none) := grown_trans G2.out hg3
  clear hg3 HC2
  obtain ⟨x0, x1⟩ := BX.out w3 G3.out
  go_wp2_with fail
  clear x0 x1
  refine (HST.out _ (grown_trans G1.out G3.out)).mono ?_
  rintro E w4 ⟨rfl, hg4⟩
  obtain ⟨W5, hW5, g5, s5, bx5⟩ := box2_new w4 (.int .i64 0) (.slice none 0 0) 25
  have G5 : Hid (W1.grownBy W5 none) := grown_trans G3.out (grown_trans hg4 g5)
  obtain ⟨z0, z1⟩ := bx5 W5 (grown_refl _ _)
  obtain ⟨x0, x1⟩ := BX.out W5 G5.out
  have HW5 : Hid (W5 = _) := hW5
  have BZ : Hid (∀ W', W5.grownBy W' none → W'.cell? ⟨w4.heap.size, 0, none⟩ = some (.int .i64 0) ∧ W'.cell? ⟨w4.heap.size, 1, none⟩ = some (.slice none 0 0)) := bx5
  rw [hW5] at z0 z1 x0 x1
  clear hg4 g5 s5 bx5 hW5
  go_wp2_with fail
  rw [← HW5.out]
  clear x0 x1 z0 z1
  refine (HCF.out _ (grown_trans G1.out G5.out)).mono ?_
  rintro E w6 ⟨rfl, hg6⟩
  have G6 : Hid (W1.grownBy w6 none) := grown_trans G5.out hg6
  have BZ6 : Hid (∀ W', w6.grownBy W' none → W'.cell? ⟨w4.heap.size, 0, none⟩ = some (.int .i64 0) ∧ W'.cell? ⟨w4.heap.size, 1, none⟩ = some (.slice none 0 0)) := fun W' hW' => BZ.out W' (grown_trans hg6 hW')
  clear hg6
  obtain ⟨y0, y1, y2, y3⟩ := YY.out w6 (grown_trans G1.out G6.out)
  obtain ⟨x0, x1⟩ := BX.out w6 G6.out
  go_wp2_with fail
  go_region_with (go_at_call 8; refine (HCN.out _ (grown_trans G1.out (by first | exact grown_drew G6.out | exact grown_drewN G6.out _))).mono ?_; rintro E w7 ⟨rfl, hg7⟩; have G7 : Hid (w6.grownBy w7 none) := (grown_trans (by first | exact grown_drew (grown_refl _ _) | exact grown_drewN (grown_refl _ _) _) hg7))
  all_goals
    obtain ⟨z0, z1⟩ := BZ6.out w7 G7.out
    go_wp2_with fail
    go_ret
    exact ⟨rfl, grown_trans G1.out (grown_trans G6.out G7.out)⟩

set_option maxHeartbeats 6400000 in
set_option maxRecDepth 100000 in
theorem steps_E (L : List Psh) (c : Cfg) (a b : Option Addr) (d k : Nat) (r : Nat) (w : World) (h : PushAt w a L) (hm : L.length ≤ maxLen) (hc : Ints w b c.2) (hcm : c.2.length ≤ maxLen) (hf : checkSk L = 0) (hg : cfgSk c = 0) (hr : r < L.length) (hyes : CanSk (L.getD r pu0) c) (hck : c.2.length ≤ k) :
    Calls Try.prog 3 #[.slice a L.length d, cfgV c.1 b c.2.length k, .int .i64 (r : Int)] w (Says (.bool true) w) := by
  have gL := goodSk_of hf
  have gC := goodCf_of hg
  have hpl : (L.getD r pu0).P.length ≤ 2 := gL.put r hr
  have hcl20 : c.2.length ≤ 20 := gC.len
  obtain ⟨W1, hW1, g1, s1, bx1⟩ := box2_new w (.int .i64 c.1) (.slice b c.2.length k) 25
  have BX : Hid (∀ W', W1.grownBy W' none → W'.cell? ⟨w.heap.size, 0, none⟩ = some (.int .i64 c.1) ∧ W'.cell? ⟨w.heap.size, 1, none⟩ = some (.slice b c.2.length k)) := bx1
  have G1 : Hid (w.grownBy W1 none) := g1
  have HW1 : Hid (W1 = _) := hW1
  have HC1 : Hid (∀ W, w.grownBy W none → Calls Try.prog 4 #[.slice a L.length d] W (Says (.int .i64 0) W)) := fun W hW => hf ▸ checkSk_any a d L W (h.grown hW) hm
  have HC2 : Hid (∀ W, w.grownBy W none → Calls Try.prog 5 #[.slice a L.length d] W (Says (.int .i64 0) W)) := fun W hW => hf ▸ checkSkR_any a d L W (h.grown hW) hm
  have ea : allSk L [c] = 0 := by rw [allSk_good hf]; exact cfgsSk_ok [c] (fun j hj => by have e : j = 0 := by simpa using hj
                                                                                          subst e; exact hg)
  have HCF : Hid (∀ W, w.grownBy W none → Calls Try.prog 7 #[cfgV c.1 b c.2.length k] W (Says (.int .i64 0) W)) := fun W hW => hg ▸ cfgSkR_any c b k W (hc.grown hW) hcm
  have HST : Hid (∀ W, w.grownBy W none → Calls Try.prog 6 #[.slice a L.length d, cfgV c.1 b c.2.length k, .int .i64 (r : Int)] W (StepPost (L.getD r pu0) c W)) := fun W hW => step_good L c a b d k r W (h.grown hW) hm (hc.grown hW) hck ea hr hyes hcl20 hpl
  obtain ⟨bb, off, rfl, hcl⟩ := h.at hr
  have Y : Hid (∀ W, w.grownBy W none → Push4 W bb (off + r * 4) (L.getD r pu0)) := fun W hW => (hcl r hr).grown hW
  obtain ⟨y0, y1, y2, ap, cp, y3, y4, y5⟩ := hcl r hr
  have YY : Hid (∀ W, w.grownBy W none → W.cell? ⟨bb, off + r * 4, none⟩ = some (.int .i64 (L.getD r pu0).F) ∧ W.cell? ⟨bb, off + r * 4 + 1, none⟩ = some (.int .i64 (L.getD r pu0).T) ∧ W.cell? ⟨bb, off + r * 4 + 2, none⟩ = some (.int .i64 (L.getD r pu0).O) ∧ W.cell? ⟨bb, off + r * 4 + 3, none⟩ = some (.slice ap (L.getD r pu0).P.length cp)) := fun W hW => ⟨hW.cell y0 (by simp), hW.cell y1 (by simp), hW.cell y2 (by simp), hW.cell y3 (by simp)⟩
  have HCN : Hid (∀ W, w.grownBy W none → Calls Try.prog 8 #[pshV (L.getD r pu0).F (L.getD r pu0).T (L.getD r pu0).O ap (L.getD r pu0).P.length cp, cfgV c.1 b c.2.length k] W (TellsB (CanSk (L.getD r pu0) c) W)) := fun W hW => canSk_any _ c ap b cp k W (hc.grown hW) hcm
  have HBH : Hid (∀ W, w.grownBy W none → Calls Try.prog 9 #[pshV (L.getD r pu0).F (L.getD r pu0).T (L.getD r pu0).O ap (L.getD r pu0).P.length cp, cfgV c.1 b c.2.length k] W (BehPost (L.getD r pu0) c W)) := fun W hW => behSk_any _ c ap b cp k W (y4.grown hW) (hc.grown hW) (by omega) (by omega) hyes.2.1 hck
  have hbl : (behSk (L.getD r pu0) c).2.length ≤ maxLen := by show ((L.getD r pu0).P ++ c.2.drop 1).length ≤ maxLen; rw [List.length_append, List.length_drop]; unfold maxLen; omega
  have HSM : Hid (∀ (aa ab : Option Addr) (ka kb : Nat) W, Ints W aa (behSk (L.getD r pu0) c).2 → Ints W ab (behSk (L.getD r pu0) c).2 → Calls Try.prog 10 #[cfgV (behSk (L.getD r pu0) c).1 aa (behSk (L.getD r pu0) c).2.length ka, cfgV (behSk (L.getD r pu0) c).1 ab (behSk (L.getD r pu0) c).2.length kb] W (TellsB (SameSk (behSk (L.getD r pu0) c) (behSk (L.getD r pu0) c)) W)) := fun aa ab ka kb W h1 h2 => sameSk_any _ _ aa ab ka kb W h1 h2 hbl hbl
  have HCN : Hid (∀ W, w.grownBy W none → Calls Try.prog 8 #[pshV (L.getD r pu0).F (L.getD r pu0).T (L.getD r pu0).O ap (L.getD r pu0).P.length cp, cfgV c.1 b c.2.length k] W (Says (.bool true) W)) := fun W hW => (HCN.out W hW).mono fun E W' ⟨q, h1, h2, h3⟩ => ⟨by rw [h1, h2.2 hyes], h3⟩
  have HSM : Hid (∀ (aa ab : Option Addr) (ka kb : Nat) W, Ints W aa (behSk (L.getD r pu0) c).2 → Ints W ab (behSk (L.getD r pu0) c).2 → Calls Try.prog 10 #[cfgV (behSk (L.getD r pu0) c).1 aa (behSk (L.getD r pu0) c).2.length ka, cfgV (behSk (L.getD r pu0) c).1 ab (behSk (L.getD r pu0) c).2.length kb] W (Says (.bool true) W)) := fun aa ab ka kb W h1 h2 => (HSM.out aa ab ka kb W h1 h2).mono fun E W' ⟨q, h1, h2, h3⟩ => ⟨by rw [h1, h2.2 rfl], h3⟩
  unfold maxLen at hm
  clear hyes
  have e0 : decide ((r : Int) < 0) = false := by simp
  have e1 : decide ((L.length : Int) ≤ (r : Int)) = false := by simp; omega
  have e2 : (r : Int) < (L.length : Int) := by omega
  unfold StepPost at HST
  unfold BehPost at HBH
  generalize behSk (L.getD r pu0) c = bh at *
  obtain ⟨bO, bS⟩ := bh
  generalize L.getD r pu0 = x at *
  obtain ⟨xF, xT, xO, xP⟩ := x
  simp only at *
  obtain ⟨nb, hnb⟩ : ∃ n, bS.length = n := ⟨_, rfl⟩
  rw [hnb] at HST HBH HSM
  generalize xP.length = np at *
  generalize L.length = nL at *
  generalize c.2.length = nc at *
  generalize c.1 = c0 at *
  clear h hc hcm hf hg ea hW1 g1 s1 bx1 hcl y0 y1 y2 y3 y4 y5 Y hr hbl hnb gL gC hpl hcl20 hck
  go_enter Try.func3, Try.ntmps3
  go_wp2_with fail
  rw [← HW1.out]
  refine (HC1.out _ G1.out).mono ?_
  rintro E w2 ⟨rfl, hg2⟩
  have G2 : Hid (W1.grownBy w2 none) := hg2
  clear hg2 HC1
  go_wp2_with fail
  refine (HC2.out _ (grown_trans G1.out G2.out)).mono ?_
  rintro E w3 ⟨rfl, hg3⟩
  have G3 : Hid (W1.grownBy w3 none) := grown_trans G2.out hg3
  clear hg3 HC2
  obtain ⟨x0, x1⟩ := BX.out w3 G3.out
  go_wp2_with fail
  clear x0 x1
  refine (HST.out _ (grown_trans G1.out G3.out)).mono ?_
  rintro E w4 ⟨a4, k4, rfl, hi4, hg4⟩
  obtain ⟨W5, hW5, g5, s5, bx5⟩ := box2_new w4 (.int .i64 bO) (.slice a4 nb k4) 25
  have G5 : Hid (W1.grownBy W5 none) := grown_trans G3.out (grown_trans hg4 g5)
  have I5 : Hid (Ints W5 a4 bS) := hi4.grown g5
  obtain ⟨z0, z1⟩ := bx5 W5 (grown_refl _ _)
  obtain ⟨x0, x1⟩ := BX.out W5 G5.out
  have HW5 : Hid (W5 = _) := hW5
  have BZ : Hid (∀ W', W5.grownBy W' none → W'.cell? ⟨w4.heap.size, 0, none⟩ = some (.int .i64 bO) ∧ W'.cell? ⟨w4.heap.size, 1, none⟩ = some (.slice a4 nb k4)) := bx5
  rw [hW5] at z0 z1 x0 x1
  clear hg4 g5 s5 bx5 hW5 hi4
  go_wp2_with fail
  rw [← HW5.out]
  clear x0 x1 z0 z1
  refine (HCF.out _ (grown_trans G1.out G5.out)).mono ?_
  rintro E w6 ⟨rfl, hg6⟩
  have G6 : Hid (W1.grownBy w6 none) := grown_trans G5.out hg6
  have I6 : Hid (Ints w6 a4 bS) := I5.out.grown hg6
  have BZ6 : Hid (∀ W', w6.grownBy W' none → W'.cell? ⟨w4.heap.size, 0, none⟩ = some (.int .i64 bO) ∧ W'.cell? ⟨w4.heap.size, 1, none⟩ = some (.slice a4 nb k4)) := fun W' hW' => BZ.out W' (grown_trans hg6 hW')
  clear hg6
  obtain ⟨y0, y1, y2, y3⟩ := YY.out w6 (grown_trans G1.out G6.out)
  obtain ⟨x0, x1⟩ := BX.out w6 G6.out
  go_wp2_with fail
  go_region_with (go_at_call 8; refine (HCN.out _ (grown_trans G1.out (by first | exact grown_drew G6.out | exact grown_drewN G6.out _))).mono ?_; rintro E w7 ⟨rfl, hg7⟩; have G7 : Hid (w6.grownBy w7 none) := (grown_trans (by first | exact grown_drew (grown_refl _ _) | exact grown_drewN (grown_refl _ _) _) hg7))
  all_goals
    clear y0 y1 y2 y3 x0 x1
    obtain ⟨y0, y1, y2, y3⟩ := YY.out w7 (grown_trans G1.out (grown_trans G6.out G7.out))
    obtain ⟨x0, x1⟩ := BX.out w7 (grown_trans G6.out G7.out)
    have GW7 : Hid (w.grownBy w7 none) := grown_trans G1.out (grown_trans G6.out G7.out)
    have GA : Hid (w.grownBy w7.drew none) := grown_drew GW7.out
    have GB : Hid (∀ o, w.grownBy ((w7.alloc o).drew) none) := fun o => grown_trans GW7.out (grown_drew (grown_alloc _ _))
    have YA : Hid (∀ o, w7.grownBy (w7.alloc o) none) := fun o => grown_alloc _ _
    have y0' := fun o => (YA.out o).cell y0 (by simp)
    have y1' := fun o => (YA.out o).cell y1 (by simp)
    have y2' := fun o => (YA.out o).cell y2 (by simp)
    have y3' := fun o => (YA.out o).cell y3 (by simp)
    have x0' := fun o => (YA.out o).cell x0 (by simp)
    have x1' := fun o => (YA.out o).cell x1 (by simp)
    clear hg7
    go_wp2_with fail
    go_region_with (go_at_call 9; refine (HBH.out _ (by first | exact GA.out | exact GB.out _)).mono ?_; rintro E w8 ⟨a8, k8, rfl, hi8, hg8, hn8, hc8⟩; (first | (have hst := box_ahead (n8 := nb) (k8 := k8) bO hg8 hi8 hn8; obtain ⟨xr0, xr1, fr0, fr1, W9, hW9, g9, i9, xw0, xw1⟩ := hst) | (have hst := box_behind (n8 := nb) (k8 := k8) 25 bO hg8 hi8; obtain ⟨W9, hW9, g9, i9, xw0, xw1⟩ := hst)); have HW9 : Hid (W9 = _) := hW9; have G9 : Hid (w7.grownBy W9 none) := g9; have I9 : Hid (Ints W9 a8 bS) := i9; clear hi8 hg8 hn8 hc8 hW9 g9 i9)
    all_goals
      rw [← HW9.out]
      obtain ⟨z0, z1⟩ := BZ6.out W9 (grown_trans G7.out G9.out)
      go_wp2_with fail
      refine (HSM.out _ _ _ _ _ (I6.out.grown (grown_trans G7.out G9.out)) I9.out).mono ?_
      rintro E w10 ⟨rfl, hg10⟩
      have GF : Hid (w.grownBy w10 none) := grown_trans GW7.out (grown_trans G9.out hg10)
      clear hg10
      go_wp2_with fail
      go_ret
      exact ⟨rfl, GF.out⟩

end Go.Proofs.Ytmoaolfenllhlaa
