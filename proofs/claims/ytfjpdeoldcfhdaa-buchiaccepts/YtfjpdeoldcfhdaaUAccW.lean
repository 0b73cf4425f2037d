/- The walk of the law BuchiAccepts, case by case, out of the contracts of what it calls. -/
import Derived.Test.YtfjpdeoldcfhdaaUAccP
import Derived.Test.YtfjpdeoldcfhdaaUCheck2
namespace Go.Proofs.Ytfjpdeoldcfhdaa
open Go.RowKit
set_option linter.unusedVariables false

set_option maxHeartbeats 3200000 in
set_option maxRecDepth 100000 in
/-- The automaton is refused. -/
theorem baccept_A (L N : Int) (nS nT nF : Nat) (ck : Int) (a b e ah al : Option Addr) (c d f nh ch nl cl : Nat) (w : World) (hy : ck ≠ 0)
    (HCb : Hid (∀ W, w.grownBy W none → Calls Try.prog 17 #[autV L N a nS c b nT d e nF f] W (Says (.int .i64 ck) W)))
    (HCk : Hid (∀ W, w.grownBy W none → Calls Try.prog 11 #[autV L N a nS c b nT d e nF f] W (Says (.int .i64 ck) W)))
    (HAc : Hid (∀ W, w.grownBy W none → Calls Try.prog 18 #[autV L N a nS c b nT d e nF f, lasV ah nh ch al nl cl] W (Says (.tuple #[.bool false, .int .i64 ck]) W)))
    : Calls Try.prog 4 #[autV L N a nS c b nT d e nF f, lasV ah nh ch al nl cl] w (Says (.bool true) w) := by
  have f1 : (ck != 0) = true := by simpa using hy
  have f2 : (ck == 0) = false := by simpa using hy
  have f3 : (ck == ck) = true := by simp
  have f4 : (ck != ck) = false := by simp
  obtain ⟨W1, hW1, g1, bx1, bl1⟩ := law_boxesA w L N a nS c b nT d e nF f ah nh ch al nl cl
  have HW1 : Hid (W1 = _) := hW1
  have G1 : Hid (w.grownBy W1 none) := g1
  have Ba : Hid (∀ W', W1.grownBy W' none → W'.cell? ⟨w.heap.size, 0, none⟩ = some (.int .i64 L) ∧ W'.cell? ⟨w.heap.size, 1, none⟩ = some (.int .i64 N) ∧ W'.cell? ⟨w.heap.size, 2, none⟩ = some (.slice a nS c) ∧ W'.cell? ⟨w.heap.size, 3, none⟩ = some (.slice b nT d) ∧ W'.cell? ⟨w.heap.size, 4, none⟩ = some (.slice e nF f)) := bx1
  have Bl : Hid (∀ W', W1.grownBy W' none → W'.cell? ⟨w.heap.size + 1, 0, none⟩ = some (.slice ah nh ch) ∧ W'.cell? ⟨w.heap.size + 1, 1, none⟩ = some (.slice al nl cl)) := bl1
  obtain ⟨a0, a1, a2, a3, a4⟩ := bx1 W1 (grown_refl _ _)
  rw [hW1] at a0 a1 a2 a3 a4
  clear hW1 g1 bx1 bl1
  go_enter Try.func4, Try.ntmps4
  go_wp2_with fail
  rw [← HW1.out]
  clear a0 a1 a2 a3 a4
  refine (HCb.out _ G1.out).mono ?_
  rintro E w2 ⟨rfl, hg2⟩
  have G2 : Hid (W1.grownBy w2 none) := hg2
  clear hg2
  obtain ⟨a0, a1, a2, a3, a4⟩ := Ba.out w2 G2.out
  obtain ⟨b0, b1⟩ := Bl.out w2 G2.out
  go_wp2_with fail
  clear a0 a1 a2 a3 a4 b0 b1
  refine (HCk.out _ (grown_trans G1.out G2.out)).mono ?_
  rintro E w3 ⟨rfl, hg3⟩
  have G3 : Hid (W1.grownBy w3 none) := grown_trans G2.out hg3
  clear hg3
  obtain ⟨a0, a1, a2, a3, a4⟩ := Ba.out w3 G3.out
  obtain ⟨b0, b1⟩ := Bl.out w3 G3.out
  go_wp2_with fail
  clear a0 a1 a2 a3 a4 b0 b1
  refine (HAc.out _ (grown_trans G1.out G3.out)).mono ?_
  rintro E w4 ⟨rfl, hg4⟩
  have GF : Hid (w.grownBy w4 none) := grown_trans G1.out (grown_trans G3.out hg4)
  clear hg4
  go_wp2_with fail
  go_ret
  exact ⟨rfl, GF.out⟩

set_option maxHeartbeats 3200000 in
set_option maxRecDepth 100000 in
/-- The lasso is refused. -/
theorem baccept_B (L N : Int) (nS nT nF : Nat) (bad : Int) (a b e ah al : Option Addr) (c d f nh ch nl cl : Nat) (w : World) (hy : bad ≠ 0)
    (HCb : Hid (∀ W, w.grownBy W none → Calls Try.prog 17 #[autV L N a nS c b nT d e nF f] W (Says (.int .i64 0) W)))
    (HCk : Hid (∀ W, w.grownBy W none → Calls Try.prog 11 #[autV L N a nS c b nT d e nF f] W (Says (.int .i64 0) W)))
    (HAc : Hid (∀ W, w.grownBy W none → Calls Try.prog 18 #[autV L N a nS c b nT d e nF f, lasV ah nh ch al nl cl] W (Says (.tuple #[.bool false, .int .i64 bad]) W)))
    (HLs : Hid (∀ W, w.grownBy W none → Calls Try.prog 19 #[autV L N a nS c b nT d e nF f, lasV ah nh ch al nl cl] W (Says (.int .i64 bad) W)))
    : Calls Try.prog 4 #[autV L N a nS c b nT d e nF f, lasV ah nh ch al nl cl] w (Says (.bool true) w) := by
  have f1 : (bad != 0) = true := by simpa using hy
  have f2 : (bad == 0) = false := by simpa using hy
  have f3 : (bad == bad) = true := by simp
  obtain ⟨W1, hW1, g1, bx1, bl1⟩ := law_boxesA w L N a nS c b nT d e nF f ah nh ch al nl cl
  have HW1 : Hid (W1 = _) := hW1
  have G1 : Hid (w.grownBy W1 none) := g1
  have Ba : Hid (∀ W', W1.grownBy W' none → W'.cell? ⟨w.heap.size, 0, none⟩ = some (.int .i64 L) ∧ W'.cell? ⟨w.heap.size, 1, none⟩ = some (.int .i64 N) ∧ W'.cell? ⟨w.heap.size, 2, none⟩ = some (.slice a nS c) ∧ W'.cell? ⟨w.heap.size, 3, none⟩ = some (.slice b nT d) ∧ W'.cell? ⟨w.heap.size, 4, none⟩ = some (.slice e nF f)) := bx1
  have Bl : Hid (∀ W', W1.grownBy W' none → W'.cell? ⟨w.heap.size + 1, 0, none⟩ = some (.slice ah nh ch) ∧ W'.cell? ⟨w.heap.size + 1, 1, none⟩ = some (.slice al nl cl)) := bl1
  obtain ⟨a0, a1, a2, a3, a4⟩ := bx1 W1 (grown_refl _ _)
  rw [hW1] at a0 a1 a2 a3 a4
  clear hW1 g1 bx1 bl1
  go_enter Try.func4, Try.ntmps4
  go_wp2_with fail
  rw [← HW1.out]
  clear a0 a1 a2 a3 a4
  refine (HCb.out _ G1.out).mono ?_
  rintro E w2 ⟨rfl, hg2⟩
  have G2 : Hid (W1.grownBy w2 none) := hg2
  clear hg2
  obtain ⟨a0, a1, a2, a3, a4⟩ := Ba.out w2 G2.out
  obtain ⟨b0, b1⟩ := Bl.out w2 G2.out
  go_wp2_with fail
  clear a0 a1 a2 a3 a4 b0 b1
  refine (HCk.out _ (grown_trans G1.out G2.out)).mono ?_
  rintro E w3 ⟨rfl, hg3⟩
  have G3 : Hid (W1.grownBy w3 none) := grown_trans G2.out hg3
  clear hg3
  obtain ⟨a0, a1, a2, a3, a4⟩ := Ba.out w3 G3.out
  obtain ⟨b0, b1⟩ := Bl.out w3 G3.out
  go_wp2_with fail
  clear a0 a1 a2 a3 a4 b0 b1
  refine (HAc.out _ (grown_trans G1.out G3.out)).mono ?_
  rintro E w4 ⟨rfl, hg4⟩
  have G4 : Hid (W1.grownBy w4 none) := grown_trans G3.out hg4
  clear hg4
  obtain ⟨a0, a1, a2, a3, a4⟩ := Ba.out w4 G4.out
  obtain ⟨b0, b1⟩ := Bl.out w4 G4.out
  go_wp2_with fail
  clear a0 a1 a2 a3 a4 b0 b1
  refine (HLs.out _ (grown_trans G1.out G4.out)).mono ?_
  rintro E w5 ⟨rfl, hg5⟩
  have GF : Hid (w.grownBy w5 none) := grown_trans G1.out (grown_trans G4.out hg5)
  clear hg5
  go_wp2_with fail
  go_ret
  exact ⟨rfl, GF.out⟩

set_option maxHeartbeats 3200000 in
set_option maxRecDepth 100000 in
/-- Both answer. -/
theorem baccept_C (L N : Int) (nS nT nF : Nat) (P : Prop) (a b e ah al : Option Addr) (c d f nh ch nl cl : Nat) (w : World)
    (HCb : Hid (∀ W, w.grownBy W none → Calls Try.prog 17 #[autV L N a nS c b nT d e nF f] W (Says (.int .i64 0) W)))
    (HCk : Hid (∀ W, w.grownBy W none → Calls Try.prog 11 #[autV L N a nS c b nT d e nF f] W (Says (.int .i64 0) W)))
    (HAc : Hid (∀ W, w.grownBy W none → Calls Try.prog 18 #[autV L N a nS c b nT d e nF f, lasV ah nh ch al nl cl] W (AccPost P W)))
    (HLs : Hid (∀ W, w.grownBy W none → Calls Try.prog 19 #[autV L N a nS c b nT d e nF f, lasV ah nh ch al nl cl] W (Says (.int .i64 0) W)))
    (HAr : Hid (∀ W, w.grownBy W none → Calls Try.prog 20 #[autV L N a nS c b nT d e nF f, lasV ah nh ch al nl cl] W (TellsB P W)))
    : Calls Try.prog 4 #[autV L N a nS c b nT d e nF f, lasV ah nh ch al nl cl] w (Says (.bool true) w) := by
  obtain ⟨W1, hW1, g1, bx1, bl1⟩ := law_boxesA w L N a nS c b nT d e nF f ah nh ch al nl cl
  have HW1 : Hid (W1 = _) := hW1
  have G1 : Hid (w.grownBy W1 none) := g1
  have Ba : Hid (∀ W', W1.grownBy W' none → W'.cell? ⟨w.heap.size, 0, none⟩ = some (.int .i64 L) ∧ W'.cell? ⟨w.heap.size, 1, none⟩ = some (.int .i64 N) ∧ W'.cell? ⟨w.heap.size, 2, none⟩ = some (.slice a nS c) ∧ W'.cell? ⟨w.heap.size, 3, none⟩ = some (.slice b nT d) ∧ W'.cell? ⟨w.heap.size, 4, none⟩ = some (.slice e nF f)) := bx1
  have Bl : Hid (∀ W', W1.grownBy W' none → W'.cell? ⟨w.heap.size + 1, 0, none⟩ = some (.slice ah nh ch) ∧ W'.cell? ⟨w.heap.size + 1, 1, none⟩ = some (.slice al nl cl)) := bl1
  obtain ⟨a0, a1, a2, a3, a4⟩ := bx1 W1 (grown_refl _ _)
  rw [hW1] at a0 a1 a2 a3 a4
  clear hW1 g1 bx1 bl1
  go_enter Try.func4, Try.ntmps4
  go_wp2_with fail
  rw [← HW1.out]
  clear a0 a1 a2 a3 a4
  refine (HCb.out _ G1.out).mono ?_
  rintro E w2 ⟨rfl, hg2⟩
  have G2 : Hid (W1.grownBy w2 none) := hg2
  clear hg2
  obtain ⟨a0, a1, a2, a3, a4⟩ := Ba.out w2 G2.out
  obtain ⟨b0, b1⟩ := Bl.out w2 G2.out
  go_wp2_with fail
  clear a0 a1 a2 a3 a4 b0 b1
  refine (HCk.out _ (grown_trans G1.out G2.out)).mono ?_
  rintro E w3 ⟨rfl, hg3⟩
  have G3 : Hid (W1.grownBy w3 none) := grown_trans G2.out hg3
  clear hg3
  obtain ⟨a0, a1, a2, a3, a4⟩ := Ba.out w3 G3.out
  obtain ⟨b0, b1⟩ := Bl.out w3 G3.out
  go_wp2_with fail
  clear a0 a1 a2 a3 a4 b0 b1
  refine (HAc.out _ (grown_trans G1.out G3.out)).mono ?_
  rintro E w4 ⟨r, rfl, hr, hg4⟩
  have G4 : Hid (W1.grownBy w4 none) := grown_trans G3.out hg4
  have HR : Hid (r = true ↔ P) := hr
  clear hg4 hr
  obtain ⟨a0, a1, a2, a3, a4⟩ := Ba.out w4 G4.out
  obtain ⟨b0, b1⟩ := Bl.out w4 G4.out
  go_wp2_with fail
  clear a0 a1 a2 a3 a4 b0 b1
  refine (HLs.out _ (grown_trans G1.out G4.out)).mono ?_
  rintro E w5 ⟨rfl, hg5⟩
  have G5 : Hid (W1.grownBy w5 none) := grown_trans G4.out hg5
  clear hg5
  obtain ⟨a0, a1, a2, a3, a4⟩ := Ba.out w5 G5.out
  obtain ⟨b0, b1⟩ := Bl.out w5 G5.out
  go_wp2_with fail
  clear a0 a1 a2 a3 a4 b0 b1
  refine (HAr.out _ (grown_trans G1.out G5.out)).mono ?_
  rintro E w6 ⟨r2, rfl, hr2, hg6⟩
  have GF : Hid (w.grownBy w6 none) := grown_trans G1.out (grown_trans G5.out hg6)
  have hrr : r2 = r := by
    have h1 := hr2.trans HR.out.symm
    cases r2 <;> cases r <;> simp_all
  subst hrr
  clear hg6 hr2 HR
  cases r2
  all_goals
    go_wp2_with fail
    go_ret
    exact ⟨rfl, GF.out⟩

end Go.Proofs.Ytfjpdeoldcfhdaa
