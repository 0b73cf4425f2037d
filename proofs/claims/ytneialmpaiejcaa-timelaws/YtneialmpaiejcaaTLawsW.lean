/- The walk of the law TimeLaws, case by case. -/
import Derived.Test.YtneialmpaiejcaaYHolds
import Derived.Test.YtneialmpaiejcaaTLawM
namespace Go.Proofs.Ytneialmpaiejcaa
open Go.RowKit
set_option linter.unusedVariables false
set_option linter.unusedSimpArgs false

/-- The lasso's box, and the lasso that the law makes itself. -/
theorem laws_new (w : World) (u v : Value) : ∃ W, W = (((w.alloc (.cells #[u, v] 24)).alloc (.cells #[.int .i64 0] 3)).alloc (.cells #[.int .i64 1] 3)) ∧ w.grownBy W none ∧ Ints W (some ⟨w.heap.size + 1, 0, none⟩) [0] ∧ Ints W (some ⟨w.heap.size + 2, 0, none⟩) [1] ∧ ∀ W', W.grownBy W' none → W'.cell? ⟨w.heap.size, 0, none⟩ = some u ∧ W'.cell? ⟨w.heap.size, 1, none⟩ = some v := by
  have hb := heap_alloc_new w (.cells #[u, v] 24)
  have h1 := heap_alloc_new (w.alloc (.cells #[u, v] 24)) (.cells #[.int .i64 0] 3)
  have h2 := heap_alloc_new ((w.alloc (.cells #[u, v] 24)).alloc (.cells #[.int .i64 0] 3)) (.cells #[.int .i64 1] 3)
  simp only [World.size_alloc] at h1 h2
  have g2 : (w.alloc (.cells #[u, v] 24)).grownBy (((w.alloc (.cells #[u, v] 24)).alloc (.cells #[.int .i64 0] 3)).alloc (.cells #[.int .i64 1] 3)) none := grown_trans (grown_alloc _ _) (grown_alloc _ _)
  refine ⟨_, rfl, grown_trans (grown_alloc _ _) g2, .inr ⟨_, _, rfl, fun i hi => ?_⟩, .inr ⟨_, _, rfl, fun i hi => ?_⟩, fun W' h => ?_⟩
  · have : i = 0 := by simpa using hi
    subst this
    exact (grown_alloc _ _).cell (by rw [cell_of_row _ _ 0 _ _ (0, 0) h1]; rfl) (by simp)
  · have : i = 0 := by simpa using hi
    subst this
    rw [Nat.zero_add, cell_of_row _ _ 0 _ _ (0, 0) h2]; rfl
  · have hc : ∀ k x, #[u, v][k]? = some x → W'.cell? ⟨w.heap.size, k, none⟩ = some x := fun k x hx => (grown_trans g2 h).cell (by rw [cell_of_row _ _ k _ _ (0, 0) hb]; exact hx) (by simp)
    exact ⟨hc 0 _ rfl, hc 1 _ rfl⟩

set_option maxHeartbeats 6400000 in
set_option maxRecDepth 100000 in
theorem tlaws_A (s t : ByteArray) (ah al : Option Addr) (hn ch ln cl : Nat) (w : World) (cS cT : Int) (aS aT : Nat) (hc : cS ≠ 0)
    (H0 : Hid (∀ W g g' : _, Ints W (some ⟨g, 0, none⟩) [0] → Ints W (some ⟨g', 0, none⟩) [1] → Calls Try.prog 4 #[.string (ByteArray.mk #[71, 70, 112]), lasV (some ⟨g, 0, none⟩) 1 1 (some ⟨g', 0, none⟩) 1 1] W (Says (.tuple #[.bool true, .int .i64 0]) W)))
    (HS : Hid (∀ W, w.grownBy W none → Calls Try.prog 5 #[.string s] W fun e w' => e = .returned (.agg #[.int .i64 cS, .int .i64 (aS : Int)]) ∧ W.grownBy w' none))
    (HT : Hid (∀ W, w.grownBy W none → Calls Try.prog 5 #[.string t] W fun e w' => e = .returned (.agg #[.int .i64 cT, .int .i64 (aT : Int)]) ∧ W.grownBy w' none)) :
    Calls Try.prog 3 #[.string s, .string t, lasV ah hn ch al ln cl] w (Says (.bool true) w) := by
  have f1 : (cS != 0) = true := by simpa using hc
  have f2 : (cS == 0) = false := by simpa using hc
  obtain ⟨W1, hW1, g1, i0, i1, bx⟩ := laws_new w (.slice ah hn ch) (.slice al ln cl)
  have HW1 : Hid (W1 = _) := hW1
  have G1 : Hid (w.grownBy W1 none) := g1
  have I0 : Hid (Ints W1 (some ⟨w.heap.size + 1, 0, none⟩) [0] ∧ Ints W1 (some ⟨w.heap.size + 2, 0, none⟩) [1]) := ⟨i0, i1⟩
  have BX : Hid (∀ W', W1.grownBy W' none → W'.cell? ⟨w.heap.size, 0, none⟩ = some (.slice ah hn ch) ∧ W'.cell? ⟨w.heap.size, 1, none⟩ = some (.slice al ln cl)) := bx
  clear hW1 g1 i0 i1 bx
  go_enter Try.func3, Try.ntmps3
  go_wp2_with fail
  rw [← HW1.out]
  refine (H0.out _ _ _ I0.out.1 I0.out.2).mono ?_
  rintro e w2 ⟨rfl, hg2⟩
  have G2 : Hid (W1.grownBy w2 none) := hg2
  clear hg2
  go_wp2_with fail
  refine (HS.out _ (grown_trans G1.out G2.out)).mono ?_
  rintro e w3 ⟨rfl, hg3⟩
  obtain ⟨W3, hW3⟩ : ∃ W3, W3 = w3.alloc (.cells #[.int .i64 cS, .int .i64 (aS : Int)] 29) := ⟨_, rfl⟩
  have HW3 : Hid (W3 = _) := hW3
  have G3 : Hid (W1.grownBy W3 none) := by show World.grownBy _ _ _; rw [hW3]; exact grown_trans G2.out (grown_trans hg3 (grown_alloc _ _))
  have C3 : Hid (∀ W', W3.grownBy W' none → W'.cell? ⟨w3.heap.size, 0, none⟩ = some (.int .i64 cS)) := fun W' h => h.cell (by rw [hW3, cell_of_row _ _ 0 _ _ (0, 0) (heap_alloc_new w3 _)]; rfl) (by simp)
  clear hg3 hW3
  go_wp2_with fail
  rw [← HW3.out]
  refine (HT.out _ (grown_trans G1.out G3.out)).mono ?_
  rintro e w4 ⟨rfl, hg4⟩
  have x0 := fun o => C3.out _ (grown_trans hg4 (grown_alloc w4 o))
  have G4 : Hid (∀ o, W1.grownBy (w4.alloc o) none) := fun o => grown_trans G3.out (grown_trans hg4 (grown_alloc _ _))
  have y0 := fun o => (BX.out _ (G4.out o)).1
  have y1 := fun o => (BX.out _ (G4.out o)).2
  clear hg4
  go_wp2_with fail
  go_ret
  exact ⟨rfl, grown_trans G1.out (G4.out _)⟩

set_option maxHeartbeats 6400000 in
set_option maxRecDepth 100000 in
theorem tlaws_B (s t : ByteArray) (ah al : Option Addr) (hn ch ln cl : Nat) (w : World) (cS cT : Int) (aS aT : Nat) (hc : cT ≠ 0)
    (H0 : Hid (∀ W g g' : _, Ints W (some ⟨g, 0, none⟩) [0] → Ints W (some ⟨g', 0, none⟩) [1] → Calls Try.prog 4 #[.string (ByteArray.mk #[71, 70, 112]), lasV (some ⟨g, 0, none⟩) 1 1 (some ⟨g', 0, none⟩) 1 1] W (Says (.tuple #[.bool true, .int .i64 0]) W)))
    (HS : Hid (∀ W, w.grownBy W none → Calls Try.prog 5 #[.string s] W fun e w' => e = .returned (.agg #[.int .i64 0, .int .i64 (aS : Int)]) ∧ W.grownBy w' none))
    (HT : Hid (∀ W, w.grownBy W none → Calls Try.prog 5 #[.string t] W fun e w' => e = .returned (.agg #[.int .i64 cT, .int .i64 (aT : Int)]) ∧ W.grownBy w' none)) :
    Calls Try.prog 3 #[.string s, .string t, lasV ah hn ch al ln cl] w (Says (.bool true) w) := by
  have f1 : (cT != 0) = true := by simpa using hc
  have f2 : (cT == 0) = false := by simpa using hc
  obtain ⟨W1, hW1, g1, i0, i1, bx⟩ := laws_new w (.slice ah hn ch) (.slice al ln cl)
  have HW1 : Hid (W1 = _) := hW1
  have G1 : Hid (w.grownBy W1 none) := g1
  have I0 : Hid (Ints W1 (some ⟨w.heap.size + 1, 0, none⟩) [0] ∧ Ints W1 (some ⟨w.heap.size + 2, 0, none⟩) [1]) := ⟨i0, i1⟩
  have BX : Hid (∀ W', W1.grownBy W' none → W'.cell? ⟨w.heap.size, 0, none⟩ = some (.slice ah hn ch) ∧ W'.cell? ⟨w.heap.size, 1, none⟩ = some (.slice al ln cl)) := bx
  clear hW1 g1 i0 i1 bx
  go_enter Try.func3, Try.ntmps3
  go_wp2_with fail
  rw [← HW1.out]
  refine (H0.out _ _ _ I0.out.1 I0.out.2).mono ?_
  rintro e w2 ⟨rfl, hg2⟩
  have G2 : Hid (W1.grownBy w2 none) := hg2
  clear hg2
  go_wp2_with fail
  refine (HS.out _ (grown_trans G1.out G2.out)).mono ?_
  rintro e w3 ⟨rfl, hg3⟩
  obtain ⟨W3, hW3⟩ : ∃ W3, W3 = w3.alloc (.cells #[.int .i64 0, .int .i64 (aS : Int)] 29) := ⟨_, rfl⟩
  have HW3 : Hid (W3 = _) := hW3
  have G3 : Hid (W1.grownBy W3 none) := by show World.grownBy _ _ _; rw [hW3]; exact grown_trans G2.out (grown_trans hg3 (grown_alloc _ _))
  have C3 : Hid (∀ W', W3.grownBy W' none → W'.cell? ⟨w3.heap.size, 0, none⟩ = some (.int .i64 0)) := fun W' h => h.cell (by rw [hW3, cell_of_row _ _ 0 _ _ (0, 0) (heap_alloc_new w3 _)]; rfl) (by simp)
  clear hg3 hW3
  go_wp2_with fail
  rw [← HW3.out]
  refine (HT.out _ (grown_trans G1.out G3.out)).mono ?_
  rintro e w4 ⟨rfl, hg4⟩
  have x0 := fun o => C3.out _ (grown_trans hg4 (grown_alloc w4 o))
  have G4 : Hid (∀ o, W1.grownBy (w4.alloc o) none) := fun o => grown_trans G3.out (grown_trans hg4 (grown_alloc _ _))
  have y0 := fun o => (BX.out _ (G4.out o)).1
  have y1 := fun o => (BX.out _ (G4.out o)).2
  clear hg4
  go_wp2_with fail
  go_ret
  exact ⟨rfl, grown_trans G1.out (G4.out _)⟩

end Go.Proofs.Ytneialmpaiejcaa
