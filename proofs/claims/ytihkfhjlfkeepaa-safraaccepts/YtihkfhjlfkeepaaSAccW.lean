/- The walk of the law SafraAccepts, case by case, out of the contracts of what it calls. -/
import Derived.Test.YtihkfhjlfkeepaaSAcc
import Derived.Test.YtihkfhjlfkeepaaFRCheck
namespace Go.Proofs.Ytihkfhjlfkeepaa
open Go.RowKit
set_option linter.unusedVariables false

set_option maxHeartbeats 3200000 in
set_option maxRecDepth 100000 in
/-- The automaton is refused. -/
theorem saccept_A (L S : Int) (nR nM : Nat) (ck : Int) (a a' ah al : Option Addr) (c c' nh ch nl cl : Nat) (w : World) (hy : ck ≠ 0)
    (HCb : Hid (∀ W, w.grownBy W none → Calls Try.prog 4 #[detV L S a nR c a' nM c'] W (Says (.int .i64 ck) W)))
    (HCk : Hid (∀ W, w.grownBy W none → Calls Try.prog 5 #[detV L S a nR c a' nM c'] W (Says (.int .i64 ck) W)))
    (HAc : Hid (∀ W, w.grownBy W none → Calls Try.prog 6 #[detV L S a nR c a' nM c', lasV ah nh ch al nl cl] W (Says (.tuple #[.bool false, .int .i64 ck]) W)))
    : Calls Try.prog 3 #[detV L S a nR c a' nM c', lasV ah nh ch al nl cl] w (Says (.bool true) w) := by
  have f1 : (ck != 0) = true := by simpa using hy
  have f2 : (ck == 0) = false := by simpa using hy
  have f3 : (ck == ck) = true := by simp
  have f4 : (ck != ck) = false := by simp
  obtain ⟨W1, hW1, g1, bx1, bl1⟩ := boxesD w L S a nR c a' nM c' ah nh ch al nl cl
  have HW1 : Hid (W1 = _) := hW1
  have G1 : Hid (w.grownBy W1 none) := g1
  have Ba : Hid (∀ W', W1.grownBy W' none → W'.cell? ⟨w.heap.size, 0, none⟩ = some (.int .i64 L) ∧ W'.cell? ⟨w.heap.size, 1, none⟩ = some (.int .i64 S) ∧ W'.cell? ⟨w.heap.size, 2, none⟩ = some (.slice a nR c) ∧ W'.cell? ⟨w.heap.size, 3, none⟩ = some (.slice a' nM c')) := bx1
  have Bl : Hid (∀ W', W1.grownBy W' none → W'.cell? ⟨w.heap.size + 1, 0, none⟩ = some (.slice ah nh ch) ∧ W'.cell? ⟨w.heap.size + 1, 1, none⟩ = some (.slice al nl cl)) := bl1
  obtain ⟨a0, a1, a2, a3⟩ := bx1 W1 (grown_refl _ _)
  rw [hW1] at a0 a1 a2 a3
  clear hW1 g1 bx1 bl1
  go_enter Try.func3, Try.ntmps3
  go_wp2_with fail
  rw [← HW1.out]
  clear a0 a1 a2 a3
  refine (HCb.out _ G1.out).mono ?_
  rintro E w2 ⟨rfl, hg2⟩
  have G2 : Hid (W1.grownBy w2 none) := hg2
  clear hg2
  obtain ⟨a0, a1, a2, a3⟩ := Ba.out w2 G2.out
  obtain ⟨b0, b1⟩ := Bl.out w2 G2.out
  go_wp2_with fail
  clear a0 a1 a2 a3 b0 b1
  refine (HCk.out _ (grown_trans G1.out G2.out)).mono ?_
  rintro E w3 ⟨rfl, hg3⟩
  have G3 : Hid (W1.grownBy w3 none) := grown_trans G2.out hg3
  clear hg3
  obtain ⟨a0, a1, a2, a3⟩ := Ba.out w3 G3.out
  obtain ⟨b0, b1⟩ := Bl.out w3 G3.out
  go_wp2_with fail
  clear a0 a1 a2 a3 b0 b1
  refine (HAc.out _ (grown_trans G1.out G3.out)).mono ?_
  rintro E w4 ⟨rfl, hg4⟩
  have GF : Hid (w.grownBy w4 none) := grown_trans G1.out (grown_trans G3.out hg4)
  clear hg4
  go_wp2_with fail
  go_ret
  exact ⟨rfl, GF.out⟩

set_option maxHeartbeats 3200000 in
set_option maxRecDepth 100000 in
/-- The lasso is refused. -/
theorem saccept_B (L S : Int) (nR nM : Nat) (bad : Int) (a a' ah al : Option Addr) (c c' nh ch nl cl : Nat) (w : World) (hy : bad ≠ 0)
    (HCb : Hid (∀ W, w.grownBy W none → Calls Try.prog 4 #[detV L S a nR c a' nM c'] W (Says (.int .i64 0) W)))
    (HCk : Hid (∀ W, w.grownBy W none → Calls Try.prog 5 #[detV L S a nR c a' nM c'] W (Says (.int .i64 0) W)))
    (HAc : Hid (∀ W, w.grownBy W none → Calls Try.prog 6 #[detV L S a nR c a' nM c', lasV ah nh ch al nl cl] W (Says (.tuple #[.bool false, .int .i64 bad]) W)))
    (HLs : Hid (∀ W, w.grownBy W none → Calls Try.prog 7 #[.int .i64 L, lasV ah nh ch al nl cl] W (Says (.int .i64 bad) W)))
    : Calls Try.prog 3 #[detV L S a nR c a' nM c', lasV ah nh ch al nl cl] w (Says (.bool true) w) := by
  have f1 : (bad != 0) = true := by simpa using hy
  have f2 : (bad == 0) = false := by simpa using hy
  have f3 : (bad == bad) = true := by simp
  obtain ⟨W1, hW1, g1, bx1, bl1⟩ := boxesD w L S a nR c a' nM c' ah nh ch al nl cl
  have HW1 : Hid (W1 = _) := hW1
  have G1 : Hid (w.grownBy W1 none) := g1
  have Ba : Hid (∀ W', W1.grownBy W' none → W'.cell? ⟨w.heap.size, 0, none⟩ = some (.int .i64 L) ∧ W'.cell? ⟨w.heap.size, 1, none⟩ = some (.int .i64 S) ∧ W'.cell? ⟨w.heap.size, 2, none⟩ = some (.slice a nR c) ∧ W'.cell? ⟨w.heap.size, 3, none⟩ = some (.slice a' nM c')) := bx1
  have Bl : Hid (∀ W', W1.grownBy W' none → W'.cell? ⟨w.heap.size + 1, 0, none⟩ = some (.slice ah nh ch) ∧ W'.cell? ⟨w.heap.size + 1, 1, none⟩ = some (.slice al nl cl)) := bl1
  obtain ⟨a0, a1, a2, a3⟩ := bx1 W1 (grown_refl _ _)
  rw [hW1] at a0 a1 a2 a3
  clear hW1 g1 bx1 bl1
  go_enter Try.func3, Try.ntmps3
  go_wp2_with fail
  rw [← HW1.out]
  clear a0 a1 a2 a3
  refine (HCb.out _ G1.out).mono ?_
  rintro E w2 ⟨rfl, hg2⟩
  have G2 : Hid (W1.grownBy w2 none) := hg2
  clear hg2
  obtain ⟨a0, a1, a2, a3⟩ := Ba.out w2 G2.out
  obtain ⟨b0, b1⟩ := Bl.out w2 G2.out
  go_wp2_with fail
  clear a0 a1 a2 a3 b0 b1
  refine (HCk.out _ (grown_trans G1.out G2.out)).mono ?_
  rintro E w3 ⟨rfl, hg3⟩
  have G3 : Hid (W1.grownBy w3 none) := grown_trans G2.out hg3
  clear hg3
  obtain ⟨a0, a1, a2, a3⟩ := Ba.out w3 G3.out
  obtain ⟨b0, b1⟩ := Bl.out w3 G3.out
  go_wp2_with fail
  clear a0 a1 a2 a3 b0 b1
  refine (HAc.out _ (grown_trans G1.out G3.out)).mono ?_
  rintro E w4 ⟨rfl, hg4⟩
  have G4 : Hid (W1.grownBy w4 none) := grown_trans G3.out hg4
  clear hg4
  obtain ⟨a0, a1, a2, a3⟩ := Ba.out w4 G4.out
  obtain ⟨b0, b1⟩ := Bl.out w4 G4.out
  go_wp2_with fail
  clear a0 a1 a2 a3 b0 b1
  refine (HLs.out _ (grown_trans G1.out G4.out)).mono ?_
  rintro E w5 ⟨rfl, hg5⟩
  have GF : Hid (w.grownBy w5 none) := grown_trans G1.out (grown_trans G4.out hg5)
  clear hg5
  go_wp2_with fail
  go_ret
  exact ⟨rfl, GF.out⟩

set_option maxHeartbeats 3200000 in
set_option maxRecDepth 100000 in
/-- Both answer. -/
theorem saccept_C (L S : Int) (nR nM : Nat) (d : Dfa) (us vs : List Int) (hone : ∀ (y y' : Int) (q : Nat), 1 ≤ q → itN (fun q => d.go q vs) q (d.deep us vs) = d.deep us vs → IsLow 9 (SeenR d (d.deep us vs) vs q 0) y → IsLow 10 (SeenR d (d.deep us vs) vs d.R.length 0) y' → y = y') (a a' ah al : Option Addr) (c c' nh ch nl cl : Nat) (w : World)
    (HCb : Hid (∀ W, w.grownBy W none → Calls Try.prog 4 #[detV L S a nR c a' nM c'] W (Says (.int .i64 0) W)))
    (HCk : Hid (∀ W, w.grownBy W none → Calls Try.prog 5 #[detV L S a nR c a' nM c'] W (Says (.int .i64 0) W)))
    (HAc : Hid (∀ W, w.grownBy W none → Calls Try.prog 6 #[detV L S a nR c a' nM c', lasV ah nh ch al nl cl] W (EvenPPost d us vs W)))
    (HLs : Hid (∀ W, w.grownBy W none → Calls Try.prog 7 #[.int .i64 L, lasV ah nh ch al nl cl] W (Says (.int .i64 0) W)))
    (HAr : Hid (∀ W, w.grownBy W none → Calls Try.prog 8 #[detV L S a nR c a' nM c', lasV ah nh ch al nl cl] W (EvenPost d us vs W)))
    : Calls Try.prog 3 #[detV L S a nR c a' nM c', lasV ah nh ch al nl cl] w (Says (.bool true) w) := by
  have HOne : Hid (∀ (y y' : Int) (q : Nat), 1 ≤ q → itN (fun q => d.go q vs) q (d.deep us vs) = d.deep us vs → IsLow 9 (SeenR d (d.deep us vs) vs q 0) y → IsLow 10 (SeenR d (d.deep us vs) vs d.R.length 0) y' → y = y') := hone
  clear hone
  obtain ⟨W1, hW1, g1, bx1, bl1⟩ := boxesD w L S a nR c a' nM c' ah nh ch al nl cl
  have HW1 : Hid (W1 = _) := hW1
  have G1 : Hid (w.grownBy W1 none) := g1
  have Ba : Hid (∀ W', W1.grownBy W' none → W'.cell? ⟨w.heap.size, 0, none⟩ = some (.int .i64 L) ∧ W'.cell? ⟨w.heap.size, 1, none⟩ = some (.int .i64 S) ∧ W'.cell? ⟨w.heap.size, 2, none⟩ = some (.slice a nR c) ∧ W'.cell? ⟨w.heap.size, 3, none⟩ = some (.slice a' nM c')) := bx1
  have Bl : Hid (∀ W', W1.grownBy W' none → W'.cell? ⟨w.heap.size + 1, 0, none⟩ = some (.slice ah nh ch) ∧ W'.cell? ⟨w.heap.size + 1, 1, none⟩ = some (.slice al nl cl)) := bl1
  obtain ⟨a0, a1, a2, a3⟩ := bx1 W1 (grown_refl _ _)
  rw [hW1] at a0 a1 a2 a3
  clear hW1 g1 bx1 bl1
  go_enter Try.func3, Try.ntmps3
  go_wp2_with fail
  rw [← HW1.out]
  clear a0 a1 a2 a3
  refine (HCb.out _ G1.out).mono ?_
  rintro E w2 ⟨rfl, hg2⟩
  have G2 : Hid (W1.grownBy w2 none) := hg2
  clear hg2
  obtain ⟨a0, a1, a2, a3⟩ := Ba.out w2 G2.out
  obtain ⟨b0, b1⟩ := Bl.out w2 G2.out
  go_wp2_with fail
  clear a0 a1 a2 a3 b0 b1
  refine (HCk.out _ (grown_trans G1.out G2.out)).mono ?_
  rintro E w3 ⟨rfl, hg3⟩
  have G3 : Hid (W1.grownBy w3 none) := grown_trans G2.out hg3
  clear hg3
  obtain ⟨a0, a1, a2, a3⟩ := Ba.out w3 G3.out
  obtain ⟨b0, b1⟩ := Bl.out w3 G3.out
  go_wp2_with fail
  clear a0 a1 a2 a3 b0 b1
  refine (HAc.out _ (grown_trans G1.out G3.out)).mono ?_
  rintro E w4 ⟨y, q, rfl, h1, h2, h3, hg4⟩
  have G4 : Hid (W1.grownBy w4 none) := grown_trans G3.out hg4
  have HR : Hid (∀ y', IsLow 10 (SeenR d (d.deep us vs) vs d.R.length 0) y' → y = y') := fun y' h' => HOne.out y y' q h1 h2 h3 h'
  clear hg4 h1 h2 h3
  obtain ⟨bb, hbb⟩ : ∃ bb, evenB y = bb := ⟨_, rfl⟩
  have HBB : Hid (evenB y = bb) := hbb
  rw [hbb]
  clear hbb
  obtain ⟨a0, a1, a2, a3⟩ := Ba.out w4 G4.out
  obtain ⟨b0, b1⟩ := Bl.out w4 G4.out
  go_wp2_with fail
  clear a0 a1 a2 a3 b0 b1
  refine (HLs.out _ (grown_trans G1.out G4.out)).mono ?_
  rintro E w5 ⟨rfl, hg5⟩
  have G5 : Hid (W1.grownBy w5 none) := grown_trans G4.out hg5
  clear hg5
  obtain ⟨a0, a1, a2, a3⟩ := Ba.out w5 G5.out
  obtain ⟨b0, b1⟩ := Bl.out w5 G5.out
  go_wp2_with fail
  clear a0 a1 a2 a3 b0 b1
  refine (HAr.out _ (grown_trans G1.out G5.out)).mono ?_
  rintro E w6 ⟨y', rfl, hy', hg6⟩
  have GF : Hid (w.grownBy w6 none) := grown_trans G1.out (grown_trans G5.out hg6)
  rw [← HR.out y' hy', HBB.out]
  clear hg6 hy' HR HBB
  cases bb
  all_goals
    go_wp2_with fail
    go_ret
    exact ⟨rfl, GF.out⟩

end Go.Proofs.Ytihkfhjlfkeepaa
