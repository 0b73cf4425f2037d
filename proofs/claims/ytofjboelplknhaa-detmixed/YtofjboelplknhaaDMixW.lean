/- The walk of the law DetMixed, case by case, out of the contracts of what it calls. -/
import Derived.Test.YtofjboelplknhaaSays
import Derived.Test.YtofjboelplknhaaHLeastD
import Derived.Test.YtofjboelplknhaaHWrap
namespace Go.Proofs.Ytofjboelplknhaa
open Go.RowKit
set_option linter.unusedVariables false

set_option maxHeartbeats 1600000 in
set_option maxRecDepth 100000 in
theorem dmix_A (L S L' S' t y ya yb : Int) (a a' e e' : Option Addr) (n m k j c c' f f' : Nat) (w : World) (hy : y ≠ 0) (hyy : (ya ≠ 0 ∧ y = ya) ∨ (ya = 0 ∧ yb ≠ 0 ∧ y = yb) ∨ (ya = 0 ∧ yb = 0 ∧ L ≠ L' ∧ y = 3))
    (HMx : Hid (∀ W, w.grownBy W none → Calls Try.prog 19 #[detV L S a n c a' m c', detV L' S' e k f e' j f', .int .i64 t] W (Says (.tuple #[detV 0 0 none 0 0 none 0 0, .int .i64 y]) W)))
    (HDf : Hid (∀ W, w.grownBy W none → Calls Try.prog 20 #[detV L S a n c a' m c', detV L' S' e k f e' j f'] W (Says (.tuple #[.slice none 0 0, .bool false, .int .i64 y]) W)))
    (HCa : Hid (∀ W, w.grownBy W none → Calls Try.prog 13 #[detV L S a n c a' m c'] W (Says (.int .i64 ya) W)))
    (HCb : Hid (∀ W, w.grownBy W none → Calls Try.prog 13 #[detV L' S' e k f e' j f'] W (Says (.int .i64 yb) W)))
    (HNo : Hid (∀ W, Calls Try.prog 14 #[detV 0 0 none 0 0 none 0 0] W (Says (.bool true) W)))
    : Calls Try.prog 4 #[detV L S a n c a' m c', detV L' S' e k f e' j f', .int .i64 t] w (Says (.bool true) w) := by
  have f1 : (y != 0) = true := by simpa using hy
  have f2 : (y == 0) = false := by simpa using hy
  obtain ⟨W0, hW0, g0, s0, bx0⟩ := box_new w (.int .i64 L) (.int .i64 S) (.slice a n c) (.slice a' m c') 25
  obtain ⟨W1, hW1, g1, s1, bx1⟩ := box_new W0 (.int .i64 L') (.int .i64 S') (.slice e k f) (.slice e' j f') 25
  rw [s0] at bx1
  have HW1 : Hid (W1 = (w.alloc (.cells #[.int .i64 L, .int .i64 S, .slice a n c, .slice a' m c'] 25)).alloc (.cells #[.int .i64 L', .int .i64 S', .slice e k f, .slice e' j f'] 25)) := by show _ = _; rw [hW1, hW0]
  have G1 : Hid (w.grownBy W1 none) := grown_trans g0 g1
  have Ba : Hid (∀ W', W1.grownBy W' none → W'.cell? ⟨w.heap.size, 0, none⟩ = some (.int .i64 L) ∧ W'.cell? ⟨w.heap.size, 1, none⟩ = some (.int .i64 S) ∧ W'.cell? ⟨w.heap.size, 2, none⟩ = some (.slice a n c) ∧ W'.cell? ⟨w.heap.size, 3, none⟩ = some (.slice a' m c')) := fun W' hW' => bx0 W' (grown_trans g1 hW')
  have Bb : Hid (∀ W', W1.grownBy W' none → W'.cell? ⟨w.heap.size + 1, 0, none⟩ = some (.int .i64 L') ∧ W'.cell? ⟨w.heap.size + 1, 1, none⟩ = some (.int .i64 S') ∧ W'.cell? ⟨w.heap.size + 1, 2, none⟩ = some (.slice e k f) ∧ W'.cell? ⟨w.heap.size + 1, 3, none⟩ = some (.slice e' j f')) := bx1
  clear hW0 hW1 g0 g1 s0 s1 bx0 bx1
  go_enter Try.func4, Try.ntmps4
  go_wp2_with fail
  rw [← HW1.out]
  refine (HMx.out _ G1.out).mono ?_
  rintro E w2 ⟨rfl, hg2⟩
  obtain ⟨W2, hW2, g2, s2, bx2⟩ := box_new w2 (.int .i64 0) (.int .i64 0) (.slice none 0 0) (.slice none 0 0) 25
  have HW2 : Hid (W2 = _) := hW2
  have G2 : Hid (W1.grownBy W2 none) := grown_trans hg2 g2
  have Bd : Hid (∀ W', W2.grownBy W' none → W'.cell? ⟨w2.heap.size, 0, none⟩ = some (.int .i64 0) ∧ W'.cell? ⟨w2.heap.size, 1, none⟩ = some (.int .i64 0) ∧ W'.cell? ⟨w2.heap.size, 2, none⟩ = some (.slice none 0 0) ∧ W'.cell? ⟨w2.heap.size, 3, none⟩ = some (.slice none 0 0)) := bx2
  obtain ⟨a0, a1, a2, a3⟩ := Ba.out _ G2.out
  obtain ⟨e0, e1, e2, e3⟩ := Bb.out _ G2.out
  rw [hW2] at a0 a1 a2 a3 e0 e1 e2 e3
  clear hg2 hW2 g2 s2 bx2 HW1 HMx
  go_wp2_with fail
  rw [← HW2.out]
  refine (HDf.out _ (grown_trans G1.out G2.out)).mono ?_
  rintro E w3 ⟨rfl, hg3⟩
  have G3 : Hid (W2.grownBy w3 none) := hg3
  have GW3 : Hid (W1.grownBy w3 none) := grown_trans G2.out hg3
  clear a0 a1 a2 a3 e0 e1 e2 e3 HDf HW2 hg3
  obtain ⟨a0, a1, a2, a3⟩ := Ba.out _ GW3.out
  go_wp2_with fail
  refine (HCa.out _ (grown_trans G1.out GW3.out)).mono ?_
  rintro E w4 ⟨rfl, hg4⟩
  have G4 : Hid (W2.grownBy w4 none) := grown_trans G3.out hg4
  have GW4 : Hid (W1.grownBy w4 none) := grown_trans GW3.out hg4
  clear a0 a1 a2 a3 HCa hg4 G3 GW3
  rcases hyy with ⟨hya, rfl⟩ | ⟨rfl, hyb, rfl⟩ | ⟨rfl, rfl, hL, rfl⟩
  · obtain ⟨d0, d1, d2, d3⟩ := Bd.out _ G4.out
    go_wp2_with fail
    refine (HNo.out _).mono ?_
    rintro E w6 ⟨rfl, hg6⟩
    have G6 : Hid (w.grownBy w6 none) := grown_trans G1.out (grown_trans GW4.out hg6)
    clear d0 d1 d2 d3 hg6
    go_wp2_with fail
    go_ret
    exact ⟨rfl, G6.out⟩
  · obtain ⟨e0, e1, e2, e3⟩ := Bb.out _ GW4.out
    go_wp2_with fail
    refine (HCb.out _ (grown_trans G1.out GW4.out)).mono ?_
    rintro E w5 ⟨rfl, hg5⟩
    have G5 : Hid (W2.grownBy w5 none) := grown_trans G4.out hg5
    have GW5 : Hid (W1.grownBy w5 none) := grown_trans GW4.out hg5
    clear e0 e1 e2 e3 hg5 HCb
    obtain ⟨d0, d1, d2, d3⟩ := Bd.out _ G5.out
    go_wp2_with fail
    refine (HNo.out _).mono ?_
    rintro E w6 ⟨rfl, hg6⟩
    have G6 : Hid (w.grownBy w6 none) := grown_trans G1.out (grown_trans GW5.out hg6)
    clear d0 d1 d2 d3 hg6
    go_wp2_with fail
    go_ret
    exact ⟨rfl, G6.out⟩
  · have f3 : (L != L') = true := by simpa using hL
    obtain ⟨e0, e1, e2, e3⟩ := Bb.out _ GW4.out
    go_wp2_with fail
    refine (HCb.out _ (grown_trans G1.out GW4.out)).mono ?_
    rintro E w5 ⟨rfl, hg5⟩
    have G5 : Hid (W2.grownBy w5 none) := grown_trans G4.out hg5
    have GW5 : Hid (W1.grownBy w5 none) := grown_trans GW4.out hg5
    clear e0 e1 e2 e3 hg5 HCb
    obtain ⟨d0, d1, d2, d3⟩ := Bd.out _ G5.out
    obtain ⟨a0, a1, a2, a3⟩ := Ba.out _ GW5.out
    obtain ⟨e0, e1, e2, e3⟩ := Bb.out _ GW5.out
    go_wp2_with fail
    refine (HNo.out _).mono ?_
    rintro E w6 ⟨rfl, hg6⟩
    have G6 : Hid (w.grownBy w6 none) := grown_trans G1.out (grown_trans GW5.out hg6)
    clear d0 d1 d2 d3 a0 a1 a2 a3 e0 e1 e2 e3 hg6
    go_wp2_with fail
    go_ret
    exact ⟨rfl, G6.out⟩

/-- A word and whether there is one, with no error; and the same without. -/
def WPost3 (F : List Nat → Bool → Prop) (w : World) (e : Ending) (w' : World) : Prop :=
  ∃ (zs : List Nat) (is : Bool) (az : Option Addr) (cz : Nat), e = .returned (.tuple #[.slice az zs.length cz, .bool is, .int .i64 0]) ∧ F zs is ∧ Ints w' az (natInts zs) ∧ w.grownBy w' none
def WPost2 (F : List Nat → Bool → Prop) (w : World) (e : Ending) (w' : World) : Prop :=
  ∃ (zs : List Nat) (is : Bool) (az : Option Addr) (cz : Nat), e = .returned (.tuple #[.slice az zs.length cz, .bool is]) ∧ F zs is ∧ Ints w' az (natInts zs) ∧ w.grownBy w' none

set_option maxHeartbeats 1600000 in
set_option maxRecDepth 100000 in
theorem dmix_B (t y : Int) (l st st' N : Nat) (a a' e e' : Option Addr) (n m k j c c' f f' : Nat) (w : World) (F : List Nat → Bool → Prop) (hNw : IntKind.i64.wrap ((n : Int) * (k : Int)) = (N : Int)) (hty : (t < 0 ∧ y = 2) ∨ (¬ t < 0 ∧ 15 < t ∧ y = 2) ∨ (¬ t < 0 ∧ ¬ 15 < t ∧ 3000 < (N : Int) ∧ y = 7))
    (HMx : Hid (∀ W, w.grownBy W none → Calls Try.prog 19 #[detV l st a n c a' m c', detV l st' e k f e' j f', .int .i64 t] W (Says (.tuple #[detV 0 0 none 0 0 none 0 0, .int .i64 y]) W)))
    (HDf : Hid (∀ W, w.grownBy W none → Calls Try.prog 20 #[detV l st a n c a' m c', detV l st' e k f e' j f'] W (WPost3 F W)))
    (HCa : Hid (∀ W, w.grownBy W none → Calls Try.prog 13 #[detV l st a n c a' m c'] W (Says (.int .i64 0) W)))
    (HCb : Hid (∀ W, w.grownBy W none → Calls Try.prog 13 #[detV l st' e k f e' j f'] W (Says (.int .i64 0) W)))
    (HAr : Hid (∀ W, w.grownBy W none → Calls Try.prog 17 #[detV l st a n c a' m c', detV l st' e k f e' j f', .int .i64 (st : Nat), .int .i64 (st' : Nat)] W (WPost2 F W)))
    (HWd : Hid (∀ W az cz az' cz' (zs : List Nat) is, F zs is → Ints W az (natInts zs) → Ints W az' (natInts zs) → Calls Try.prog 18 #[.slice az zs.length cz, .slice az' zs.length cz'] W (Says (.bool true) W)))
    (HF : Hid (∀ zs is zs' is', F zs is → F zs' is' → zs = zs' ∧ is = is'))
    (HNo : Hid (∀ W, Calls Try.prog 14 #[detV 0 0 none 0 0 none 0 0] W (Says (.bool true) W)))
    : Calls Try.prog 4 #[detV l st a n c a' m c', detV l st' e k f e' j f', .int .i64 t] w (Says (.bool true) w) := by
  obtain ⟨W0, hW0, g0, s0, bx0⟩ := box_new w (.int .i64 l) (.int .i64 st) (.slice a n c) (.slice a' m c') 25
  obtain ⟨W1, hW1, g1, s1, bx1⟩ := box_new W0 (.int .i64 l) (.int .i64 st') (.slice e k f) (.slice e' j f') 25
  rw [s0] at bx1
  have HW1 : Hid (W1 = (w.alloc (.cells #[.int .i64 l, .int .i64 st, .slice a n c, .slice a' m c'] 25)).alloc (.cells #[.int .i64 l, .int .i64 st', .slice e k f, .slice e' j f'] 25)) := by show _ = _; rw [hW1, hW0]
  have G1 : Hid (w.grownBy W1 none) := grown_trans g0 g1
  have Ba : Hid (∀ W', W1.grownBy W' none → W'.cell? ⟨w.heap.size, 0, none⟩ = some (.int .i64 l) ∧ W'.cell? ⟨w.heap.size, 1, none⟩ = some (.int .i64 st) ∧ W'.cell? ⟨w.heap.size, 2, none⟩ = some (.slice a n c) ∧ W'.cell? ⟨w.heap.size, 3, none⟩ = some (.slice a' m c')) := fun W' hW' => bx0 W' (grown_trans g1 hW')
  have Bb : Hid (∀ W', W1.grownBy W' none → W'.cell? ⟨w.heap.size + 1, 0, none⟩ = some (.int .i64 l) ∧ W'.cell? ⟨w.heap.size + 1, 1, none⟩ = some (.int .i64 st') ∧ W'.cell? ⟨w.heap.size + 1, 2, none⟩ = some (.slice e k f) ∧ W'.cell? ⟨w.heap.size + 1, 3, none⟩ = some (.slice e' j f')) := bx1
  clear hW0 hW1 g0 g1 s0 s1 bx0 bx1
  go_enter Try.func4, Try.ntmps4
  go_wp2_with fail
  rw [← HW1.out]
  refine (HMx.out _ G1.out).mono ?_
  rintro E w2 ⟨rfl, hg2⟩
  obtain ⟨W2, hW2, g2, s2, bx2⟩ := box_new w2 (.int .i64 0) (.int .i64 0) (.slice none 0 0) (.slice none 0 0) 25
  have HW2 : Hid (W2 = _) := hW2
  have G2 : Hid (W1.grownBy W2 none) := grown_trans hg2 g2
  have Bd : Hid (∀ W', W2.grownBy W' none → W'.cell? ⟨w2.heap.size, 0, none⟩ = some (.int .i64 0) ∧ W'.cell? ⟨w2.heap.size, 1, none⟩ = some (.int .i64 0) ∧ W'.cell? ⟨w2.heap.size, 2, none⟩ = some (.slice none 0 0) ∧ W'.cell? ⟨w2.heap.size, 3, none⟩ = some (.slice none 0 0)) := bx2
  obtain ⟨a0, a1, a2, a3⟩ := Ba.out _ G2.out
  obtain ⟨e0, e1, e2, e3⟩ := Bb.out _ G2.out
  rw [hW2] at a0 a1 a2 a3 e0 e1 e2 e3
  clear hg2 hW2 g2 s2 bx2 HW1 HMx
  go_wp2_with fail
  rw [← HW2.out]
  refine (HDf.out _ (grown_trans G1.out G2.out)).mono ?_
  rintro E w3 ⟨zs, is, az, cz, rfl, hF3, hz3, hg3⟩
  have F3 : Hid (F zs is) := hF3
  have Z3 : Hid (Ints w3 az (natInts zs)) := hz3
  obtain ⟨nz, hnz⟩ : ∃ nz, zs.length = nz := ⟨_, rfl⟩
  have HNz : Hid (zs.length = nz) := hnz
  rw [hnz]
  have G3 : Hid (W2.grownBy w3 none) := hg3
  have GW3 : Hid (W1.grownBy w3 none) := grown_trans G2.out hg3
  clear a0 a1 a2 a3 e0 e1 e2 e3 HDf HW2 hg3 hF3 hz3 hnz
  obtain ⟨a0, a1, a2, a3⟩ := Ba.out _ GW3.out
  go_wp2_with fail
  refine (HCa.out _ (grown_trans G1.out GW3.out)).mono ?_
  rintro E w4 ⟨rfl, hg4⟩
  have G4 : Hid (W2.grownBy w4 none) := grown_trans G3.out hg4
  have GW4 : Hid (W1.grownBy w4 none) := grown_trans GW3.out hg4
  have Z4 : Hid (Ints w4 az (natInts zs)) := Z3.out.grown hg4
  clear a0 a1 a2 a3 HCa hg4 G3 GW3 Z3
  obtain ⟨e0, e1, e2, e3⟩ := Bb.out _ GW4.out
  go_wp2_with fail
  refine (HCb.out _ (grown_trans G1.out GW4.out)).mono ?_
  rintro E w5 ⟨rfl, hg5⟩
  have G5 : Hid (W2.grownBy w5 none) := grown_trans G4.out hg5
  have GW5 : Hid (W1.grownBy w5 none) := grown_trans GW4.out hg5
  have Z5 : Hid (Ints w5 az (natInts zs)) := Z4.out.grown hg5
  clear e0 e1 e2 e3 hg5 HCb G4 GW4 Z4
  obtain ⟨d0, d1, d2, d3⟩ := Bd.out _ G5.out
  obtain ⟨a0, a1, a2, a3⟩ := Ba.out _ GW5.out
  obtain ⟨e0, e1, e2, e3⟩ := Bb.out _ GW5.out
  go_wp2_with fail
  refine (HNo.out _).mono ?_
  rintro E w6 ⟨rfl, hg6⟩
  have G6 : Hid (W2.grownBy w6 none) := grown_trans G5.out hg6
  have GW6 : Hid (W1.grownBy w6 none) := grown_trans GW5.out hg6
  have Z6 : Hid (Ints w6 az (natInts zs)) := Z5.out.grown hg6
  clear d0 d1 d2 d3 a0 a1 a2 a3 e0 e1 e2 e3 hg6 HNo G5 GW5 Z5
  obtain ⟨a0, a1, a2, a3⟩ := Ba.out _ GW6.out
  obtain ⟨e0, e1, e2, e3⟩ := Bb.out _ GW6.out
  go_wp2_with fail
  refine (HAr.out _ (grown_trans G1.out GW6.out)).mono ?_
  rintro E w7 ⟨zs', is', az', cz', rfl, hF7, hz7, hg7⟩
  obtain ⟨rfl, rfl⟩ := HF.out _ _ _ _ F3.out hF7
  have G7 : Hid (W2.grownBy w7 none) := grown_trans G6.out hg7
  have GW7 : Hid (W1.grownBy w7 none) := grown_trans GW6.out hg7
  have HW7 : Hid (Calls Try.prog 18 #[.slice az nz cz, .slice az' nz cz'] w7 (Says (.bool true) w7)) := by
    have h1 := HWd.out w7 az cz az' cz' zs is hF7 (Z6.out.grown hg7) hz7
    rw [HNz.out] at h1
    exact h1
  rw [HNz.out]
  clear hF7 hz7 hg7 a0 a1 a2 a3 e0 e1 e2 e3 HAr HWd HF Z6 GW6 G6 F3 HNz
  go_wp2_with fail
  refine HW7.out.mono ?_
  rintro E w8 ⟨rfl, hg8⟩
  have G8 : Hid (W2.grownBy w8 none) := grown_trans G7.out hg8
  have GW8 : Hid (W1.grownBy w8 none) := grown_trans GW7.out hg8
  have GF : Hid (w.grownBy w8 none) := grown_trans G1.out GW8.out
  clear hg8 G7 GW7 HW7
  obtain ⟨_, _, a2, _⟩ := Ba.out _ GW8.out
  obtain ⟨_, _, e2, _⟩ := Bb.out _ GW8.out
  rcases hty with ⟨h1, rfl⟩ | ⟨h1, h2, rfl⟩ | ⟨h1, h2, h3, rfl⟩ <;> cases is
  all_goals
    go_wp2_with fail
    go_ret
    exact ⟨rfl, GF.out⟩

set_option maxHeartbeats 1600000 in
set_option maxRecDepth 100000 in
theorem dmix_C (t : Int) (l st st' N s0 : Nat) (a a' e e' : Option Addr) (n m k j c c' f f' : Nat) (w : World) (F : List Nat → Bool → Prop) (δ : Nat → Nat → Nat) (mk : Nat → Bool) (hl4 : l ≤ 4) (hN3 : N ≤ 3000) (hNw : IntKind.i64.wrap ((n : Int) * (k : Int)) = (N : Int)) (h1 : ¬ t < 0) (h2 : ¬ 15 < t) (h3 : ¬ 3000 < (N : Int))
    (HMx : Hid (∀ W, w.grownBy W none → Calls Try.prog 19 #[detV l st a n c a' m c', detV l st' e k f e' j f', .int .i64 t] W (LeastGPost δ mk N l s0 W)))
    (HDf : Hid (∀ W, w.grownBy W none → Calls Try.prog 20 #[detV l st a n c a' m c', detV l st' e k f e' j f'] W (WPost3 F W)))
    (HCa : Hid (∀ W, w.grownBy W none → Calls Try.prog 13 #[detV l st a n c a' m c'] W (Says (.int .i64 0) W)))
    (HCb : Hid (∀ W, w.grownBy W none → Calls Try.prog 13 #[detV l st' e k f e' j f'] W (Says (.int .i64 0) W)))
    (HAr : Hid (∀ W, w.grownBy W none → Calls Try.prog 17 #[detV l st a n c a' m c', detV l st' e k f e' j f', .int .i64 (st : Nat), .int .i64 (st' : Nat)] W (WPost2 F W)))
    (HWd : Hid (∀ W az cz az' cz' (zs : List Nat) is, F zs is → Ints W az (natInts zs) → Ints W az' (natInts zs) → Calls Try.prog 18 #[.slice az zs.length cz, .slice az' zs.length cz'] W (Says (.bool true) W)))
    (HF : Hid (∀ zs is zs' is', F zs is → F zs' is' → zs = zs' ∧ is = is'))
    (HNo : Hid (∀ W (L S : Int) aR nR cR aM nM cM, nR ≤ 3000 → nM ≤ 3000 → Calls Try.prog 14 #[detV L S aR nR cR aM nM cM] W (TellsAny W)))
    (HMr : Hid (∀ W, w.grownBy W none → Calls Try.prog 21 #[detV l st a n c a' m c', detV l st' e k f e' j f', .int .i64 t] W (LeastPost δ mk N l s0 W)))
    (HSl : Hid (∀ W aR cR aM cM aR' cR' aM' cM' (rs rs' : List (Value × List Int)) (M1 M2 : List Int), LeastOf δ mk N l s0 (rs.map (·.2)) M1 → LeastOf δ mk N l s0 (rs'.map (·.2)) M2 → DetAt W ⟨l, 0, rs.map (·.2), M1⟩ aR aM → DetAt W ⟨l, 0, rs'.map (·.2), M2⟩ aR' aM' → Calls Try.prog 12 #[detV l 0 aR rs.length cR aM M1.length cM, detV l 0 aR' rs'.length cR' aM' M2.length cM'] W (Says (.bool true) W)))
    : Calls Try.prog 4 #[detV l st a n c a' m c', detV l st' e k f e' j f', .int .i64 t] w (Says (.bool true) w) := by
  obtain ⟨W0, hW0, g0, s0, bx0⟩ := box_new w (.int .i64 l) (.int .i64 st) (.slice a n c) (.slice a' m c') 25
  obtain ⟨W1, hW1, g1, s1, bx1⟩ := box_new W0 (.int .i64 l) (.int .i64 st') (.slice e k f) (.slice e' j f') 25
  rw [s0] at bx1
  have HW1 : Hid (W1 = (w.alloc (.cells #[.int .i64 l, .int .i64 st, .slice a n c, .slice a' m c'] 25)).alloc (.cells #[.int .i64 l, .int .i64 st', .slice e k f, .slice e' j f'] 25)) := by show _ = _; rw [hW1, hW0]
  have G1 : Hid (w.grownBy W1 none) := grown_trans g0 g1
  have Ba : Hid (∀ W', W1.grownBy W' none → W'.cell? ⟨w.heap.size, 0, none⟩ = some (.int .i64 l) ∧ W'.cell? ⟨w.heap.size, 1, none⟩ = some (.int .i64 st) ∧ W'.cell? ⟨w.heap.size, 2, none⟩ = some (.slice a n c) ∧ W'.cell? ⟨w.heap.size, 3, none⟩ = some (.slice a' m c')) := fun W' hW' => bx0 W' (grown_trans g1 hW')
  have Bb : Hid (∀ W', W1.grownBy W' none → W'.cell? ⟨w.heap.size + 1, 0, none⟩ = some (.int .i64 l) ∧ W'.cell? ⟨w.heap.size + 1, 1, none⟩ = some (.int .i64 st') ∧ W'.cell? ⟨w.heap.size + 1, 2, none⟩ = some (.slice e k f) ∧ W'.cell? ⟨w.heap.size + 1, 3, none⟩ = some (.slice e' j f')) := bx1
  clear hW0 hW1 g0 g1 s0 s1 bx0 bx1
  go_enter Try.func4, Try.ntmps4
  go_wp2_with fail
  rw [← HW1.out]
  refine (HMx.out _ G1.out).mono ?_
  rintro E w2 ⟨v2, rfl, aL, cL, aN, cN, rs, ML, hv2, hlo, hrn, hml, hrl, ho2, hg2⟩
  cases hv2
  have LO : Hid (LeastOf δ mk N l s0 (rs.map (·.2)) ML) := hlo
  have HRL : Hid (∀ x, x ∈ rs → x.2.length = l) := hrl
  obtain ⟨nr, hnr⟩ : ∃ nr, rs.length = nr := ⟨_, rfl⟩
  obtain ⟨nl, hnl⟩ : ∃ nl, ML.length = nl := ⟨_, rfl⟩
  have HNr : Hid (rs.length = nr) := hnr
  have HNl : Hid (ML.length = nl) := hnl
  have hnr3 : nr ≤ 3000 := by omega
  have hnl3 : nl ≤ 3000 := by omega
  have D2 : DetAt w2 ⟨l, 0, rs.map (·.2), ML⟩ aL aN := det_of_owns (L := l) (S := 0) (its := []) (by rw [List.append_nil]; exact ho2) (fun x hx => by rw [hrl x hx]; unfold maxLen; omega) (by unfold maxLen; omega) (by unfold maxLen; omega)
  rw [hnr, hnl]
  obtain ⟨W2, hW2, g2, s2, bx2⟩ := box_new w2 (.int .i64 l) (.int .i64 0) (.slice aL nr cL) (.slice aN nl cN) 25
  have HW2 : Hid (W2 = _) := hW2
  have G2 : Hid (W1.grownBy W2 none) := grown_trans hg2 g2
  have X2 : Hid (DetAt W2 ⟨l, 0, rs.map (·.2), ML⟩ aL aN) := D2.grown g2
  have Bd : Hid (∀ W', W2.grownBy W' none → W'.cell? ⟨w2.heap.size, 0, none⟩ = some (.int .i64 l) ∧ W'.cell? ⟨w2.heap.size, 1, none⟩ = some (.int .i64 0) ∧ W'.cell? ⟨w2.heap.size, 2, none⟩ = some (.slice aL nr cL) ∧ W'.cell? ⟨w2.heap.size, 3, none⟩ = some (.slice aN nl cN)) := bx2
  clear hlo hrn hml hrl ho2 D2 hnr hnl
  obtain ⟨a0, a1, a2, a3⟩ := Ba.out _ G2.out
  obtain ⟨e0, e1, e2, e3⟩ := Bb.out _ G2.out
  rw [hW2] at a0 a1 a2 a3 e0 e1 e2 e3
  clear hg2 hW2 g2 s2 bx2 HW1 HMx
  go_wp2_with fail
  rw [← HW2.out]
  refine (HDf.out _ (grown_trans G1.out G2.out)).mono ?_
  rintro E w3 ⟨zs, is, az, cz, rfl, hF3, hz3, hg3⟩
  have F3 : Hid (F zs is) := hF3
  have Z3 : Hid (Ints w3 az (natInts zs)) := hz3
  obtain ⟨nz, hnz⟩ : ∃ nz, zs.length = nz := ⟨_, rfl⟩
  have HNz : Hid (zs.length = nz) := hnz
  rw [hnz]
  have G3 : Hid (W2.grownBy w3 none) := hg3
  have GW3 : Hid (W1.grownBy w3 none) := grown_trans G2.out hg3
  clear a0 a1 a2 a3 e0 e1 e2 e3 HDf HW2 hg3 hF3 hz3 hnz
  obtain ⟨a0, a1, a2, a3⟩ := Ba.out _ GW3.out
  go_wp2_with fail
  refine (HCa.out _ (grown_trans G1.out GW3.out)).mono ?_
  rintro E w4 ⟨rfl, hg4⟩
  have G4 : Hid (W2.grownBy w4 none) := grown_trans G3.out hg4
  have GW4 : Hid (W1.grownBy w4 none) := grown_trans GW3.out hg4
  have Z4 : Hid (Ints w4 az (natInts zs)) := Z3.out.grown hg4
  clear a0 a1 a2 a3 HCa hg4 G3 GW3 Z3
  obtain ⟨e0, e1, e2, e3⟩ := Bb.out _ GW4.out
  go_wp2_with fail
  refine (HCb.out _ (grown_trans G1.out GW4.out)).mono ?_
  rintro E w5 ⟨rfl, hg5⟩
  have G5 : Hid (W2.grownBy w5 none) := grown_trans G4.out hg5
  have GW5 : Hid (W1.grownBy w5 none) := grown_trans GW4.out hg5
  have Z5 : Hid (Ints w5 az (natInts zs)) := Z4.out.grown hg5
  clear e0 e1 e2 e3 hg5 HCb G4 GW4 Z4
  obtain ⟨d0, d1, d2, d3⟩ := Bd.out _ G5.out
  obtain ⟨a0, a1, a2, a3⟩ := Ba.out _ GW5.out
  obtain ⟨e0, e1, e2, e3⟩ := Bb.out _ GW5.out
  go_wp2_with fail
  refine (HNo.out _ _ _ _ _ _ _ _ _ hnr3 hnl3).mono ?_
  rintro E w6 ⟨bn, rfl, hg6⟩
  have G6 : Hid (W2.grownBy w6 none) := grown_trans G5.out hg6
  have GW6 : Hid (W1.grownBy w6 none) := grown_trans GW5.out hg6
  have Z6 : Hid (Ints w6 az (natInts zs)) := Z5.out.grown hg6
  clear d0 d1 d2 d3 a0 a1 a2 a3 e0 e1 e2 e3 hg6 HNo G5 GW5 Z5
  obtain ⟨a0, a1, a2, a3⟩ := Ba.out _ GW6.out
  obtain ⟨e0, e1, e2, e3⟩ := Bb.out _ GW6.out
  go_wp2_with fail
  refine (HAr.out _ (grown_trans G1.out GW6.out)).mono ?_
  rintro E w7 ⟨zs', is', az', cz', rfl, hF7, hz7, hg7⟩
  obtain ⟨rfl, rfl⟩ := HF.out _ _ _ _ F3.out hF7
  have G7 : Hid (W2.grownBy w7 none) := grown_trans G6.out hg7
  have GW7 : Hid (W1.grownBy w7 none) := grown_trans GW6.out hg7
  have HW7 : Hid (Calls Try.prog 18 #[.slice az nz cz, .slice az' nz cz'] w7 (Says (.bool true) w7)) := by
    have h1 := HWd.out w7 az cz az' cz' zs is hF7 (Z6.out.grown hg7) hz7
    rw [HNz.out] at h1
    exact h1
  rw [HNz.out]
  clear hF7 hz7 hg7 a0 a1 a2 a3 e0 e1 e2 e3 HAr HWd HF Z6 GW6 G6 F3 HNz
  go_wp2_with fail
  refine HW7.out.mono ?_
  rintro E w8 ⟨rfl, hg8⟩
  have G8 : Hid (W2.grownBy w8 none) := grown_trans G7.out hg8
  have GW8 : Hid (W1.grownBy w8 none) := grown_trans GW7.out hg8
  have GF : Hid (w.grownBy w8 none) := grown_trans G1.out GW8.out
  clear hg8 G7 GW7 HW7
  obtain ⟨a0, a1, a2, a3⟩ := Ba.out _ GW8.out
  obtain ⟨e0, e1, e2, e3⟩ := Bb.out _ GW8.out
  have key : ∀ (is : Bool), True := fun _ => trivial
  cases is
  all_goals
    go_wp2_with fail
    refine (HMr.out _ GF.out).mono ?_
    rintro E w9 ⟨aE, cE, aF, cF, rs9, M9, hv9, hlo9, hrn9, hml9, hrl9, ho9, hg9⟩
    subst hv9
    have D9 : DetAt w9 ⟨l, 0, rs9.map (·.2), M9⟩ aE aF := det_of_owns (L := l) (S := 0) (its := []) (by rw [List.append_nil]; exact ho9) (fun x hx => by rw [hrl9 x hx]; unfold maxLen; omega) (by unfold maxLen; omega) (by unfold maxLen; omega)
    obtain ⟨W9, hW9, g9, s9, bx9⟩ := box_new w9 (.int .i64 l) (.int .i64 0) (.slice aE rs9.length cE) (.slice aF M9.length cF) 25
    have HW9 : Hid (W9 = _) := hW9
    have G9 : Hid (W2.grownBy W9 none) := grown_trans G8.out (grown_trans hg9 g9)
    have GF9 : Hid (w.grownBy W9 none) := grown_trans GF.out (grown_trans hg9 g9)
    have HS9 : Hid (Calls Try.prog 12 #[detV l 0 aL nr cL aN nl cN, detV l 0 aE rs9.length cE aF M9.length cF] W9 (Says (.bool true) W9)) := by
      have h4 := HSl.out W9 aL cL aN cN aE cE aF cF rs rs9 ML M9 LO.out hlo9 (X2.out.grown G9.out) (D9.grown g9)
      rw [HNr.out, HNl.out] at h4
      exact h4
    obtain ⟨d0, d1, d2, d3⟩ := Bd.out _ G9.out
    rw [hW9] at d0 d1 d2 d3
    clear hlo9 hrn9 hml9 hrl9 ho9 hg9 D9 hW9 g9 s9 bx9 a0 a1 a2 a3 e0 e1 e2 e3
    generalize rs9.length = nr9 at *
    generalize M9.length = nl9 at *
    go_wp2_with fail
    rw [← HW9.out]
    refine HS9.out.mono ?_
    rintro E w10 ⟨rfl, hg10⟩
    have GF10 : Hid (w.grownBy w10 none) := grown_trans GF9.out hg10
    clear d0 d1 d2 d3 hg10
    go_wp2_with fail
    go_ret
    exact ⟨rfl, GF10.out⟩

end Go.Proofs.Ytofjboelplknhaa
