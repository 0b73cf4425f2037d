/- The program's Check, isGood, Accepts of automata with marks. -/
import Derived.Test.YtihkfhjlfkeepaaSRef
import Derived.Test.YtihkfhjlfkeepaaFCheck
namespace Go.Proofs.Ytihkfhjlfkeepaa
open Go.RowKit
set_option linter.unusedVariables false

set_option maxHeartbeats 1600000 in
theorem checkS_any (L S : Int) (R : List (List Int)) (M : List Int) (a a' : Option Addr) (c c' : Nat) (w : World) (h : DetAt w ⟨L, S, R, M⟩ a a') :
    Calls Try.prog 4 #[.agg #[.int .i64 L, .int .i64 S, .slice a R.length c, .slice a' M.length c']] w (Says (.int .i64 (checkN 20000 9 ⟨L, S, R, M⟩)) w) := by
  have HG : Hid (∀ o, w.grownBy (w.alloc o) none) := fun o => grown_alloc w o
  have HC : Hid (∀ W, w.grownBy W none → Calls Try.prog 9 #[.agg #[.int .i64 L, .int .i64 S, .slice a R.length c, .slice a' M.length c'], .int .i64 20000, .int .i64 9] W fun e w' => e = .returned (.int .i64 (checkN 20000 9 ⟨L, S, R, M⟩)) ∧ W.grownBy w' none) := fun W hW => fits_any 20000 9 L S R M a a' c c' W (h.grown hW)
  clear h
  generalize checkN 20000 9 ⟨L, S, R, M⟩ = z at *
  go_enter Try.func4, Try.ntmps4
  go_wp2_with fail
  refine (HC.out _ (by first | exact grown_refl _ _ | exact HG.out _)).mono ?_
  rintro E w2 ⟨rfl, hg2⟩
  have GF : Hid (w.grownBy w2 none) := by first | exact hg2 | exact grown_trans (HG.out _) hg2
  clear hg2
  go_wp2_with fail
  go_ret
  exact ⟨rfl, GF.out⟩

set_option maxHeartbeats 1600000 in
theorem isGood_any (y : Int) (w : World) (h : 0 ≤ y ∧ y ≤ 10) : Calls Try.prog 11 #[.int .i64 y] w (Says (.bool (evenB y)) w) := by
  have HE : Hid (∀ z, evenB z = decide (z % 2 = 0)) := fun z => rfl
  rcases ten h with rfl | rfl | rfl | rfl | rfl | rfl | rfl | rfl | rfl | rfl | rfl
  all_goals
    rw [HE.out]
    go_enter Try.func11, Try.ntmps11
    go_wp2_with fail
    go_ret
    exact ⟨rfl, grown_refl _ _⟩

set_option maxHeartbeats 1600000 in
set_option maxRecDepth 100000 in
/-- The automaton is refused. -/
theorem acceptsS_bad (L S ck : Int) (R : List (List Int)) (M : List Int) (a a' ah al : Option Addr) (c c' nh ch nl cl : Nat) (w : World) (hy : ck ≠ 0)
    (HC : Hid (∀ W, w.grownBy W none → Calls Try.prog 4 #[.agg #[.int .i64 L, .int .i64 S, .slice a R.length c, .slice a' M.length c']] W (Says (.int .i64 ck) W))) :
    Calls Try.prog 6 #[.agg #[.int .i64 L, .int .i64 S, .slice a R.length c, .slice a' M.length c'], lasV ah nh ch al nl cl] w (Says (.tuple #[.bool false, .int .i64 ck]) w) := by
  have f1 : (ck != 0) = true := by simpa using hy
  have f2 : (ck == 0) = false := by simpa using hy
  obtain ⟨W1, hW1, g1, bx1, bl1⟩ := boxesD w L S a R.length c a' M.length c' ah nh ch al nl cl
  have HW1 : Hid (W1 = _) := hW1
  have G1 : Hid (w.grownBy W1 none) := g1
  obtain ⟨a0, a1, a2, a3⟩ := bx1 W1 (grown_refl _ _)
  rw [hW1] at a0 a1 a2 a3
  clear hW1 g1 bx1 bl1
  go_enter Try.func6, Try.ntmps6
  go_wp2_with fail
  rw [← HW1.out]
  clear a0 a1 a2 a3
  refine (HC.out _ G1.out).mono ?_
  rintro E w2 ⟨rfl, hg2⟩
  have GF : Hid (w.grownBy w2 none) := grown_trans G1.out hg2
  clear hg2
  go_wp2_with fail
  go_ret2
  exact ⟨rfl, GF.out⟩

set_option maxHeartbeats 1600000 in
set_option maxRecDepth 100000 in
/-- The lasso is refused. -/
theorem acceptsS_las (L S bad : Int) (R : List (List Int)) (M : List Int) (a a' ah al : Option Addr) (c c' nh ch nl cl : Nat) (w : World) (hy : bad ≠ 0)
    (HC : Hid (∀ W, w.grownBy W none → Calls Try.prog 4 #[.agg #[.int .i64 L, .int .i64 S, .slice a R.length c, .slice a' M.length c']] W (Says (.int .i64 0) W)))
    (HL : Hid (∀ W, w.grownBy W none → Calls Try.prog 10 #[.int .i64 L, lasV ah nh ch al nl cl] W (Says (.int .i64 bad) W))) :
    Calls Try.prog 6 #[.agg #[.int .i64 L, .int .i64 S, .slice a R.length c, .slice a' M.length c'], lasV ah nh ch al nl cl] w (Says (.tuple #[.bool false, .int .i64 bad]) w) := by
  have f1 : (bad != 0) = true := by simpa using hy
  have f2 : (bad == 0) = false := by simpa using hy
  obtain ⟨W1, hW1, g1, bx1, bl1⟩ := boxesD w L S a R.length c a' M.length c' ah nh ch al nl cl
  have HW1 : Hid (W1 = _) := hW1
  have G1 : Hid (w.grownBy W1 none) := g1
  have Ba : Hid (∀ W', W1.grownBy W' none → W'.cell? ⟨w.heap.size, 0, none⟩ = some (.int .i64 L) ∧ W'.cell? ⟨w.heap.size, 1, none⟩ = some (.int .i64 S) ∧ W'.cell? ⟨w.heap.size, 2, none⟩ = some (.slice a R.length c) ∧ W'.cell? ⟨w.heap.size, 3, none⟩ = some (.slice a' M.length c')) := bx1
  have Bl : Hid (∀ W', W1.grownBy W' none → W'.cell? ⟨w.heap.size + 1, 0, none⟩ = some (.slice ah nh ch) ∧ W'.cell? ⟨w.heap.size + 1, 1, none⟩ = some (.slice al nl cl)) := bl1
  obtain ⟨a0, a1, a2, a3⟩ := bx1 W1 (grown_refl _ _)
  rw [hW1] at a0 a1 a2 a3
  clear hW1 g1 bx1 bl1
  go_enter Try.func6, Try.ntmps6
  go_wp2_with fail
  rw [← HW1.out]
  clear a0 a1 a2 a3
  refine (HC.out _ G1.out).mono ?_
  rintro E w2 ⟨rfl, hg2⟩
  have G2 : Hid (W1.grownBy w2 none) := hg2
  clear hg2
  obtain ⟨a0, a1, a2, a3⟩ := Ba.out w2 G2.out
  obtain ⟨b0, b1⟩ := Bl.out w2 G2.out
  go_wp2_with fail
  clear a0 a1 a2 a3 b0 b1
  refine (HL.out _ (grown_trans G1.out G2.out)).mono ?_
  rintro E w3 ⟨rfl, hg3⟩
  have GF : Hid (w.grownBy w3 none) := grown_trans G1.out (grown_trans G2.out hg3)
  clear hg3
  go_wp2_with fail
  go_ret2
  exact ⟨rfl, GF.out⟩

/-- What the program tells. -/
def EvenPPost (d : Dfa) (us vs : List Int) (w : World) (e : Ending) (w' : World) : Prop :=
  ∃ (y : Int) (q : Nat), e = .returned (.tuple #[.bool (evenB y), .int .i64 0]) ∧ 1 ≤ q ∧ itN (fun q => d.go q vs) q (d.deep us vs) = d.deep us vs ∧ IsLow 9 (SeenR d (d.deep us vs) vs q 0) y ∧ w.grownBy w' none

set_option maxHeartbeats 1600000 in
set_option maxRecDepth 100000 in
/-- Both may be. -/
theorem acceptsS_good (L S : Int) (R : List (List Int)) (M : List Int) (a a' ah al : Option Addr) (c c' ch cl : Nat) (us vs : List Int) (w : World) (hlow : ∀ q y, IsLow 9 (SeenR ⟨L, S, R, M⟩ (Dfa.deep ⟨L, S, R, M⟩ us vs) vs q 0) y → 0 ≤ y ∧ y ≤ 10)
    (HC : Hid (∀ W, w.grownBy W none → Calls Try.prog 4 #[.agg #[.int .i64 L, .int .i64 S, .slice a R.length c, .slice a' M.length c']] W (Says (.int .i64 0) W)))
    (HL : Hid (∀ W, w.grownBy W none → Calls Try.prog 10 #[.int .i64 L, lasV ah us.length ch al vs.length cl] W (Says (.int .i64 0) W)))
    (HA : Hid (∀ W, w.grownBy W none → Calls Try.prog 12 #[.agg #[.int .i64 L, .int .i64 S, .slice a R.length c, .slice a' M.length c'], lasV ah us.length ch al vs.length cl] W (AgainPost ⟨L, S, R, M⟩ us vs W))) :
    Calls Try.prog 6 #[.agg #[.int .i64 L, .int .i64 S, .slice a R.length c, .slice a' M.length c'], lasV ah us.length ch al vs.length cl] w (EvenPPost ⟨L, S, R, M⟩ us vs w) := by
  have HLo : Hid (∀ q y, IsLow 9 (SeenR ⟨L, S, R, M⟩ (Dfa.deep ⟨L, S, R, M⟩ us vs) vs q 0) y → 0 ≤ y ∧ y ≤ 10) := hlow
  clear hlow
  obtain ⟨P, hP⟩ : ∃ P, P = EvenPPost ⟨L, S, R, M⟩ us vs w := ⟨_, rfl⟩
  rw [← hP]
  have HP : Hid (P = EvenPPost ⟨L, S, R, M⟩ us vs w) := hP
  clear hP
  obtain ⟨W1, hW1, g1, bx1, bl1⟩ := boxesD w L S a R.length c a' M.length c' ah us.length ch al vs.length cl
  have HW1 : Hid (W1 = _) := hW1
  have G1 : Hid (w.grownBy W1 none) := g1
  have Ba : Hid (∀ W', W1.grownBy W' none → W'.cell? ⟨w.heap.size, 0, none⟩ = some (.int .i64 L) ∧ W'.cell? ⟨w.heap.size, 1, none⟩ = some (.int .i64 S) ∧ W'.cell? ⟨w.heap.size, 2, none⟩ = some (.slice a R.length c) ∧ W'.cell? ⟨w.heap.size, 3, none⟩ = some (.slice a' M.length c')) := bx1
  have Bl : Hid (∀ W', W1.grownBy W' none → W'.cell? ⟨w.heap.size + 1, 0, none⟩ = some (.slice ah us.length ch) ∧ W'.cell? ⟨w.heap.size + 1, 1, none⟩ = some (.slice al vs.length cl)) := bl1
  obtain ⟨a0, a1, a2, a3⟩ := bx1 W1 (grown_refl _ _)
  rw [hW1] at a0 a1 a2 a3
  clear hW1 g1 bx1 bl1
  go_enter Try.func6, Try.ntmps6
  go_wp2_with fail
  rw [← HW1.out]
  clear a0 a1 a2 a3
  refine (HC.out _ G1.out).mono ?_
  rintro E w2 ⟨rfl, hg2⟩
  have G2 : Hid (W1.grownBy w2 none) := hg2
  clear hg2
  obtain ⟨a0, a1, a2, a3⟩ := Ba.out w2 G2.out
  obtain ⟨b0, b1⟩ := Bl.out w2 G2.out
  go_wp2_with fail
  clear a0 a1 a2 a3 b0 b1
  refine (HL.out _ (grown_trans G1.out G2.out)).mono ?_
  rintro E w3 ⟨rfl, hg3⟩
  have G3 : Hid (W1.grownBy w3 none) := grown_trans G2.out hg3
  clear hg3
  obtain ⟨a0, a1, a2, a3⟩ := Ba.out w3 G3.out
  obtain ⟨b0, b1⟩ := Bl.out w3 G3.out
  go_wp2_with fail
  clear a0 a1 a2 a3 b0 b1
  refine (HA.out _ (grown_trans G1.out G3.out)).mono ?_
  rintro E w4 ⟨y, q, rfl, h1, h2, h3, hg4⟩
  have G4 : Hid (W1.grownBy w4 none) := grown_trans G3.out hg4
  have HI := isGood_any y w4 (HLo.out q y h3)
  have HIG : Hid (Calls Try.prog 11 #[.int .i64 y] w4 (Says (.bool (evenB y)) w4)) := HI
  have HEnd : Hid (∀ W, W1.grownBy W none → P (.returned (.tuple #[.bool (evenB y), .int .i64 0])) W) := fun W hW => by rw [HP.out]; exact ⟨y, q, rfl, h1, h2, h3, grown_trans G1.out hW⟩
  clear h1 h2 h3 hg4 HI
  generalize evenB y = bb at *
  go_wp2_with fail
  refine HIG.out.mono ?_
  rintro E w5 ⟨rfl, hg5⟩
  have G5 : Hid (W1.grownBy w5 none) := grown_trans G4.out hg5
  clear hg5
  go_wp2_with fail
  exact HEnd.out _ G5.out

end Go.Proofs.Ytihkfhjlfkeepaa
