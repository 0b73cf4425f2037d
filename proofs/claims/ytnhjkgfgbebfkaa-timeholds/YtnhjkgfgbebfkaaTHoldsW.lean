/- The walk of the law TimeHolds, case by case. -/
import Derived.Test.YtnhjkgfgbebfkaaYHolds
import Derived.Test.YtnhjkgfgbebfkaaZHoldsR
import Derived.Test.YtnhjkgfgbebfkaaQParse
namespace Go.Proofs.Ytnhjkgfgbebfkaa
open Go.RowKit
set_option linter.unusedVariables false
set_option linter.unusedSimpArgs false

set_option maxHeartbeats 1600000 in
set_option maxRecDepth 100000 in
/-- It is no formula. -/
theorem tholds_A (s : ByteArray) (ah al : Option Addr) (hn ch ln cl : Nat) (w : World) (c : Int) (a : Nat) (hc : c ≠ 0)
    (HP : Hid (∀ W, w.grownBy W none → Calls Try.prog 7 #[.string s, lasV ah hn ch al ln cl] W (Says (.tuple #[.bool false, .int .i64 4]) W)))
    (HJ : Hid (∀ W, w.grownBy W none → Calls Try.prog 6 #[.string s] W fun e w' => ∃ (v : Value) (k : Int), e = .returned (.tuple #[v, .int .i64 (k : Int), .agg #[.int .i64 c, .int .i64 (a : Int)]]) ∧ W.grownBy w' none)) :
    Calls Try.prog 4 #[.string s, lasV ah hn ch al ln cl] w (Says (.bool true) w) := by
  have f1 : (c != 0) = true := by simpa using hc
  have f2 : (c == 0) = false := by simpa using hc
  obtain ⟨W1, hW1, g1, bx⟩ := las_box w (.slice ah hn ch) (.slice al ln cl)
  have HW1 : Hid (W1 = _) := hW1
  have G1 : Hid (w.grownBy W1 none) := g1
  clear hW1 g1 bx
  go_enter Try.func4, Try.ntmps4
  go_wp2_with fail
  rw [← HW1.out]
  refine (HP.out _ G1.out).mono ?_
  rintro e w2 ⟨rfl, hg2⟩
  have G2 : Hid (w.grownBy w2 none) := grown_trans G1.out hg2
  clear hg2
  go_wp2_with fail
  refine (HJ.out _ G2.out).mono ?_
  rintro e w3 ⟨v, k, rfl, hg3⟩
  have G3 : Hid (∀ o, w.grownBy (w3.alloc o) none) := fun o => grown_trans G2.out (grown_trans hg3 (grown_alloc _ _))
  clear hg3
  go_wp2_with fail
  go_ret
  exact ⟨rfl, G3.out _⟩

set_option maxHeartbeats 1600000 in
set_option maxRecDepth 100000 in
/-- The lasso may not be. -/
theorem tholds_B (s : ByteArray) (ah al : Option Addr) (hn ch ln cl : Nat) (w : World) (a : Nat) (y : Int) (hy : y ≠ 0)
    (HP : Hid (∀ W, w.grownBy W none → Calls Try.prog 7 #[.string s, lasV ah hn ch al ln cl] W (Says (.tuple #[.bool false, .int .i64 y]) W)))
    (HJ : Hid (∀ W, w.grownBy W none → Calls Try.prog 6 #[.string s] W fun e w' => ∃ (v : Value) (k : Int), e = .returned (.tuple #[v, .int .i64 (k : Int), .agg #[.int .i64 0, .int .i64 (a : Int)]]) ∧ W.grownBy w' none))
    (HL : Hid (∀ W, w.grownBy W none → Calls Try.prog 8 #[.int .i64 4, lasV ah hn ch al ln cl] W (Says (.int .i64 y) W))) :
    Calls Try.prog 4 #[.string s, lasV ah hn ch al ln cl] w (Says (.bool true) w) := by
  have f1 : (y != 0) = true := by simpa using hy
  have f2 : (y == 0) = false := by simpa using hy
  have f3 : (y == y) = true := by simp
  obtain ⟨W1, hW1, g1, bx⟩ := las_box w (.slice ah hn ch) (.slice al ln cl)
  have HW1 : Hid (W1 = _) := hW1
  have G1 : Hid (w.grownBy W1 none) := g1
  have BX : Hid (∀ W', W1.grownBy W' none → W'.cell? ⟨w.heap.size, 0, none⟩ = some (.slice ah hn ch) ∧ W'.cell? ⟨w.heap.size, 1, none⟩ = some (.slice al ln cl)) := bx
  clear hW1 g1 bx
  go_enter Try.func4, Try.ntmps4
  go_wp2_with fail
  rw [← HW1.out]
  refine (HP.out _ G1.out).mono ?_
  rintro e w2 ⟨rfl, hg2⟩
  have G2 : Hid (W1.grownBy w2 none) := hg2
  clear hg2
  go_wp2_with fail
  refine (HJ.out _ (grown_trans G1.out G2.out)).mono ?_
  rintro e w3 ⟨v, k, rfl, hg3⟩
  have G3 : Hid (∀ o, W1.grownBy (w3.alloc o) none) := fun o => grown_trans G2.out (grown_trans hg3 (grown_alloc _ _))
  have x0 := fun o => (BX.out _ (G3.out o)).1
  have x1 := fun o => (BX.out _ (G3.out o)).2
  clear hg3
  go_wp2_with fail
  refine (HL.out _ (grown_trans G1.out (G3.out _))).mono ?_
  rintro e w4 ⟨rfl, hg4⟩
  have G4 : Hid (w.grownBy w4 none) := grown_trans (grown_trans G1.out (G3.out _)) hg4
  clear hg4
  go_wp2_with fail
  go_ret
  exact ⟨rfl, G4.out⟩

set_option maxHeartbeats 1600000 in
set_option maxRecDepth 100000 in
/-- Both answer. -/
theorem tholds_C (s : ByteArray) (ah al : Option Addr) (hn ch ln cl : Nat) (w : World) (b : Bool) (Z : World → Nat → Nat → Nat → Nat → Prop)
    (HP : Hid (∀ W, w.grownBy W none → Calls Try.prog 7 #[.string s, lasV ah hn ch al ln cl] W (Says (.tuple #[.bool b, .int .i64 0]) W)))
    (HJ : Hid (∀ W, w.grownBy W none → Calls Try.prog 6 #[.string s] W fun e w' => ∃ (g m c k : Nat), e = .returned (.tuple #[.slice (some ⟨g, 0, none⟩) m c, .int .i64 (k : Int), .agg #[.int .i64 0, .int .i64 0]]) ∧ W.grownBy w' none ∧ Z w' g m c k))
    (HZ : Hid (∀ W W' g m c k, Z W g m c k → W.grownBy W' none → Z W' g m c k))
    (HL : Hid (∀ W, w.grownBy W none → Calls Try.prog 8 #[.int .i64 4, lasV ah hn ch al ln cl] W (Says (.int .i64 0) W)))
    (HH : Hid (∀ W g m c k, w.grownBy W none → Z W g m c k → Calls Try.prog 9 #[.slice (some ⟨g, 0, none⟩) m c, .int .i64 (k : Int), lasV ah hn ch al ln cl] W (Says (.bool b) W))) :
    Calls Try.prog 4 #[.string s, lasV ah hn ch al ln cl] w (Says (.bool true) w) := by
  obtain ⟨W1, hW1, g1, bx⟩ := las_box w (.slice ah hn ch) (.slice al ln cl)
  have HW1 : Hid (W1 = _) := hW1
  have G1 : Hid (w.grownBy W1 none) := g1
  have BX : Hid (∀ W', W1.grownBy W' none → W'.cell? ⟨w.heap.size, 0, none⟩ = some (.slice ah hn ch) ∧ W'.cell? ⟨w.heap.size, 1, none⟩ = some (.slice al ln cl)) := bx
  clear hW1 g1 bx
  go_enter Try.func4, Try.ntmps4
  go_wp2_with fail
  rw [← HW1.out]
  refine (HP.out _ G1.out).mono ?_
  rintro e w2 ⟨rfl, hg2⟩
  have G2 : Hid (W1.grownBy w2 none) := hg2
  clear hg2
  go_wp2_with fail
  refine (HJ.out _ (grown_trans G1.out G2.out)).mono ?_
  rintro e w3 ⟨g, m, c, k, rfl, hg3, hz⟩
  have G3 : Hid (∀ o, W1.grownBy (w3.alloc o) none) := fun o => grown_trans G2.out (grown_trans hg3 (grown_alloc _ _))
  have Z3 : Hid (∀ o, Z (w3.alloc o) g m c k) := fun o => HZ.out _ _ _ _ _ _ hz (grown_alloc _ _)
  have x0 := fun o => (BX.out _ (G3.out o)).1
  have x1 := fun o => (BX.out _ (G3.out o)).2
  clear hg3 hz
  go_wp2_with fail
  refine (HL.out _ (grown_trans G1.out (G3.out _))).mono ?_
  rintro e w4 ⟨rfl, hg4⟩
  have G4 : Hid (W1.grownBy w4 none) := grown_trans (G3.out _) hg4
  have Z4 : Hid (Z w4 g m c k) := HZ.out _ _ _ _ _ _ (Z3.out _) hg4
  obtain ⟨y0, y1⟩ := BX.out _ G4.out
  clear hg4 x0 x1
  go_wp2_with fail
  refine (HH.out _ _ _ _ _ (grown_trans G1.out G4.out) Z4.out).mono ?_
  rintro e w5 ⟨rfl, hg5⟩
  have G5 : Hid (w.grownBy w5 none) := grown_trans (grown_trans G1.out G4.out) hg5
  clear hg5 y0 y1
  cases b
  all_goals
    go_wp2_with fail
    go_ret
    exact ⟨rfl, G5.out⟩

end Go.Proofs.Ytnhjkgfgbebfkaa
