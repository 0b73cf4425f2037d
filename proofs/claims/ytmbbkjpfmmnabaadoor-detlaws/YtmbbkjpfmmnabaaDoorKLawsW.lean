/- The walk of the law DetLaws, out of the contracts of what it calls. -/
import Derived.Test.YtmbbkjpfmmnabaaDoorTls
import Derived.Test.YtmbbkjpfmmnabaaDoorHLeastD
namespace Go.Proofs.YtmbbkjpfmmnabaaDoor
open Go.RowKit
set_option linter.unusedVariables false

/-- A box of four cells. -/
def C4 (W : World) (b : Nat) (v0 v1 v2 v3 : Value) : Prop := W.heap[b]? = some (.cells #[v0, v1, v2, v3] 25 (0, 0))
theorem C4.kept {W W' : World} {b : Nat} {v0 v1 v2 v3 : Value} (h : C4 W b v0 v1 v2 v3) (hg : W.grownBy W' none) : C4 W' b v0 v1 v2 v3 := (hg.block _ (Array.getElem?_eq_some_iff.1 h).1 (by simp)).trans h
theorem C4.far {W W' : World} {b g : Nat} {v0 v1 v2 v3 : Value} (h : C4 W b v0 v1 v2 v3) (hg : W.grownBy W' (some g)) (hne : b ≠ g) : C4 W' b v0 v1 v2 v3 := (hg.block _ (Array.getElem?_eq_some_iff.1 h).1 (by simpa using hne)).trans h
theorem C4.lt {W : World} {b : Nat} {v0 v1 v2 v3 : Value} (h : C4 W b v0 v1 v2 v3) : b < W.heap.size := (Array.getElem?_eq_some_iff.1 h).1
theorem C4.get {W : World} {b : Nat} {v0 v1 v2 v3 : Value} (h : C4 W b v0 v1 v2 v3) : W.cell? ⟨b, 0, none⟩ = some v0 ∧ W.cell? ⟨b, 1, none⟩ = some v1 ∧ W.cell? ⟨b, 2, none⟩ = some v2 ∧ W.cell? ⟨b, 3, none⟩ = some v3 :=
  ⟨by rw [cell_of_row _ _ _ _ _ (0, 0) h]; rfl, by rw [cell_of_row _ _ _ _ _ (0, 0) h]; rfl, by rw [cell_of_row _ _ _ _ _ (0, 0) h]; rfl, by rw [cell_of_row _ _ _ _ _ (0, 0) h]; rfl⟩
theorem C4.fz {W : World} {b : Nat} {v0 v1 v2 v3 : Value} (h : C4 W b v0 v1 v2 v3) (k : Nat) : W.frozen? ⟨b, k, none⟩ = false := frozen_of_row _ _ k _ _ h
theorem c4_new (w : World) (v0 v1 v2 v3 : Value) : ∃ W, W = w.alloc (.cells #[v0, v1, v2, v3] 25) ∧ w.grownBy W none ∧ W.heap.size = w.heap.size + 1 ∧ C4 W w.heap.size v0 v1 v2 v3 := ⟨_, rfl, grown_alloc _ _, by simp, heap_alloc_new w _⟩
/-- An automaton that is made; and one that may be. -/
def MxG (l : Int) (X : World → Option Addr → Nat → Nat → Option Addr → Nat → Nat → Prop) (w : World) (E : Ending) (w' : World) : Prop := ∃ p n c q m d, E = .returned (.tuple #[detV l 0 p n c q m d, .int .i64 0]) ∧ X w' p n c q m d ∧ w.grownBy w' none
def MxE (P : World → Value → Prop) (w : World) (E : Ending) (w' : World) : Prop := ∃ L S p n c q m d y, E = .returned (.tuple #[detV L S p n c q m d, .int .i64 y]) ∧ (y = 0 → P w' (detV L S p n c q m d)) ∧ w.grownBy w' none

set_option maxHeartbeats 1600000 in
set_option maxRecDepth 100000 in
theorem dlaws_bad (L S L' S' y : Int) (a a' e e' : Option Addr) (n m k j c c' f f' : Nat) (w : World) (hy : y ≠ 0)
    (HC : Hid (∀ W, w.grownBy W none → Calls Tryd.prog 14 #[] W (Says (.bool true) W)))
    (HM : Hid (∀ W, w.grownBy W none → Calls Tryd.prog 15 #[detV L S a n c a' m c', detV L' S' e k f e' j f', .int .i64 8] W (Says (.tuple #[detV 0 0 none 0 0 none 0 0, .int .i64 y]) W))) :
    Calls Tryd.prog 4 #[detV L S a n c a' m c', detV L' S' e k f e' j f'] w (Says (.bool true) w) := by
  have f1 : (y != 0) = true := by simpa using hy
  obtain ⟨W0, hW0, g0, s0, C0⟩ := c4_new w (.int .i64 L) (.int .i64 S) (.slice a n c) (.slice a' m c')
  obtain ⟨W1, hW1, g1, s1, C1⟩ := c4_new W0 (.int .i64 L') (.int .i64 S') (.slice e k f) (.slice e' j f')
  rw [s0] at C1
  have HW1 : Hid (W1 = (w.alloc (.cells #[.int .i64 L, .int .i64 S, .slice a n c, .slice a' m c'] 25)).alloc (.cells #[.int .i64 L', .int .i64 S', .slice e k f, .slice e' j f'] 25)) := by show _ = _; rw [hW1, hW0]
  have G1 : Hid (w.grownBy W1 none) := grown_trans g0 g1
  have N1 : Hid (C4 W1 w.heap.size (.int .i64 L) (.int .i64 S) (.slice a n c) (.slice a' m c') ∧ C4 W1 (w.heap.size + 1) (.int .i64 L') (.int .i64 S') (.slice e k f) (.slice e' j f')) := ⟨C0.kept g1, C1⟩
  clear hW0 hW1 g0 g1 s0 s1 C0 C1
  go_enter Tryd.func4, Tryd.ntmps4
  go_wp2_with fail
  rw [← HW1.out]
  refine (HC.out _ G1.out).mono ?_
  rintro E w2 ⟨rfl, hg2⟩
  have G2 : Hid (w.grownBy w2 none) := grown_trans G1.out hg2
  obtain ⟨a0, a1, a2, a3⟩ := (N1.out.1.kept hg2).get
  obtain ⟨e0, e1, e2, e3⟩ := (N1.out.2.kept hg2).get
  clear hg2 HW1
  go_wp2_with fail
  refine (HM.out _ G2.out).mono ?_
  rintro E w3 ⟨rfl, hg3⟩
  have G3 : Hid (w.grownBy w3 none) := grown_trans G2.out hg3
  clear hg3 a0 a1 a2 a3 e0 e1 e2 e3
  go_wp2_with fail
  go_ret
  exact ⟨rfl, grown_trans G3.out (grown_alloc _ _)⟩

set_option maxHeartbeats 6400000 in
set_option maxRecDepth 100000 in
theorem dlaws_good (l L S L' S' : Int) (a a' e e' : Option Addr) (n m k j c c' f f' : Nat) (w : World) (X8 X14 X1 XL : World → Option Addr → Nat → Nat → Option Addr → Nat → Nat → Prop)
    (hX8 : Hid (∀ W W' p n c q m d, X8 W p n c q m d → W.grownBy W' none → X8 W' p n c q m d)) (hX14 : Hid (∀ W W' p n c q m d, X14 W p n c q m d → W.grownBy W' none → X14 W' p n c q m d)) (hX1 : Hid (∀ W W' p n c q m d, X1 W p n c q m d → W.grownBy W' none → X1 W' p n c q m d)) (hXL : Hid (∀ W W' p n c q m d, XL W p n c q m d → W.grownBy W' none → XL W' p n c q m d))
    (HC : Hid (∀ W, w.grownBy W none → Calls Tryd.prog 14 #[] W (Says (.bool true) W)))
    (HM8 : Hid (∀ W, w.grownBy W none → Calls Tryd.prog 15 #[detV L S a n c a' m c', detV L' S' e k f e' j f', .int .i64 8] W (MxG l X8 W)))
    (HM14 : Hid (∀ W, w.grownBy W none → Calls Tryd.prog 15 #[detV L S a n c a' m c', detV L' S' e k f e' j f', .int .i64 14] W (MxG l X14 W)))
    (HM1 : Hid (∀ W, w.grownBy W none → Calls Tryd.prog 15 #[detV L S a n c a' m c', detV L' S' e k f e' j f', .int .i64 1] W (MxG l X1 W)))
    (HL : Hid (∀ W, w.grownBy W none → Calls Tryd.prog 16 #[detV L S a n c a' m c'] W (MxG l XL W)))
    (HB1 : Hid (∀ W p n1 c1 q m1 d1 p' n' c2 q' m' d', w.grownBy W none → X14 W p n1 c1 q m1 d1 → XL W p' n' c2 q' m' d' → Calls Tryd.prog 15 #[detV L S a n c a' m c', detV l 0 p n1 c1 q m1 d1, .int .i64 8] W (MxE (fun w' v => ∀ g W'', g < W.heap.size → w'.grownBy W'' (some g) → XL W'' p' n' c2 q' m' d' → Calls Tryd.prog 17 #[v, detV l 0 p' n' c2 q' m' d'] W'' (Says (.bool true) W'')) W)))
    (HB2 : Hid (∀ W p n1 c1 q m1 d1 p' n' c2 q' m' d', w.grownBy W none → X8 W p n1 c1 q m1 d1 → XL W p' n' c2 q' m' d' → Calls Tryd.prog 15 #[detV L S a n c a' m c', detV l 0 p n1 c1 q m1 d1, .int .i64 14] W (MxE (fun w' v => ∀ g W'', g < W.heap.size → w'.grownBy W'' (some g) → XL W'' p' n' c2 q' m' d' → Calls Tryd.prog 17 #[v, detV l 0 p' n' c2 q' m' d'] W'' (Says (.bool true) W'')) W)))
    (HDf : Hid (∀ W p n1 c1 q m1 d1 p' n' c2 q' m' d', X14 W p n1 c1 q m1 d1 → X1 W p' n' c2 q' m' d' → Calls Tryd.prog 18 #[detV l 0 p n1 c1 q m1 d1, detV l 0 p' n' c2 q' m' d'] W fun E w' => ∃ az cz, E = .returned (.tuple #[.slice az 0 cz, .bool true, .int .i64 0]) ∧ W.grownBy w' none))
    (HG : Hid (∀ W p n1 c1 q m1 d1, XL W p n1 c1 q m1 d1 → Calls Tryd.prog 16 #[detV l 0 p n1 c1 q m1 d1] W (MxG l (fun w' p' n' c2 q' m' d' => ∀ W'', w'.grownBy W'' none → Calls Tryd.prog 17 #[detV l 0 p' n' c2 q' m' d', detV l 0 p n1 c1 q m1 d1] W'' (Says (.bool true) W'')) W))) :
    Calls Tryd.prog 4 #[detV L S a n c a' m c', detV L' S' e k f e' j f'] w (Says (.bool true) w) := by
  obtain ⟨W0, hW0, g0, s0, C0⟩ := c4_new w (.int .i64 L) (.int .i64 S) (.slice a n c) (.slice a' m c')
  obtain ⟨W1, hW1, g1, s1, C1⟩ := c4_new W0 (.int .i64 L') (.int .i64 S') (.slice e k f) (.slice e' j f')
  rw [s0] at C1
  have HW1 : Hid (W1 = (w.alloc (.cells #[.int .i64 L, .int .i64 S, .slice a n c, .slice a' m c'] 25)).alloc (.cells #[.int .i64 L', .int .i64 S', .slice e k f, .slice e' j f'] 25)) := by show _ = _; rw [hW1, hW0]
  have G1 : Hid (w.grownBy W1 none) := grown_trans g0 g1
  have N1 : Hid (C4 W1 w.heap.size (.int .i64 L) (.int .i64 S) (.slice a n c) (.slice a' m c') ∧ C4 W1 (w.heap.size + 1) (.int .i64 L') (.int .i64 S') (.slice e k f) (.slice e' j f')) := ⟨C0.kept g1, C1⟩
  clear hW0 hW1 g0 g1 s0 s1 C0 C1
  go_enter Tryd.func4, Tryd.ntmps4
  go_wp2_with fail
  rw [← HW1.out]
  refine (HC.out _ G1.out).mono ?_
  rintro E w2 ⟨rfl, hg2⟩
  have G2 : Hid (w.grownBy w2 none) := grown_trans G1.out hg2
  have N2 : Hid (C4 w2 w.heap.size (.int .i64 L) (.int .i64 S) (.slice a n c) (.slice a' m c') ∧ C4 w2 (w.heap.size + 1) (.int .i64 L') (.int .i64 S') (.slice e k f) (.slice e' j f')) := ⟨N1.out.1.kept hg2, N1.out.2.kept hg2⟩
  obtain ⟨a0, a1, a2, a3⟩ := N2.out.1.get
  obtain ⟨e0, e1, e2, e3⟩ := N2.out.2.get
  clear hg2 HW1 N1
  go_wp2_with fail
  refine (HM8.out _ G2.out).mono ?_
  rintro E w3 ⟨p3, n3, c3, q3, m3, d3, rfl, hx3, hg3⟩
  obtain ⟨W3, hW3, g3, s3, CC3⟩ := c4_new w3 (.int .i64 l) (.int .i64 0) (.slice p3 n3 c3) (.slice q3 m3 d3)
  have HW3 : Hid (W3 = w3.alloc (.cells #[.int .i64 l, .int .i64 0, .slice p3 n3 c3, .slice q3 m3 d3] 25)) := hW3
  have G3 : Hid (w.grownBy W3 none) := grown_trans G2.out (grown_trans hg3 g3)
  obtain ⟨b3, hb3⟩ : ∃ b3, w3.heap.size = b3 := ⟨_, rfl⟩
  rw [hb3] at CC3
  have N3 : Hid (C4 W3 w.heap.size (.int .i64 L) (.int .i64 S) (.slice a n c) (.slice a' m c') ∧ C4 W3 (w.heap.size + 1) (.int .i64 L') (.int .i64 S') (.slice e k f) (.slice e' j f') ∧ C4 W3 b3 (.int .i64 l) (.int .i64 0) (.slice p3 n3 c3) (.slice q3 m3 d3) ∧ X8 W3 p3 n3 c3 q3 m3 d3) := ⟨N2.out.1.kept (grown_trans hg3 g3), N2.out.2.kept (grown_trans hg3 g3), CC3, hX8.out _ _ _ _ _ _ _ _ hx3 g3⟩
  clear a0 a1 a2 a3 e0 e1 e2 e3
  obtain ⟨a0, a1, a2, a3⟩ := (show C4 _ _ _ _ _ _ from N3.out.1).get
  obtain ⟨e0, e1, e2, e3⟩ := (show C4 _ _ _ _ _ _ from N3.out.2.1).get
  rw [hW3] at a0 a1 a2 a3 e0 e1 e2 e3
  clear hg3 hW3 g3 s3 CC3 hx3 N2
  go_wp2_with fail
  rw [← HW3.out]
  refine (HM14.out _ G3.out).mono ?_
  rintro E w4 ⟨p4, n4, c4, q4, m4, d4, rfl, hx4, hg4⟩
  obtain ⟨W4, hW4, g4, s4, CC4⟩ := c4_new w4 (.int .i64 l) (.int .i64 0) (.slice p4 n4 c4) (.slice q4 m4 d4)
  have HW4 : Hid (W4 = w4.alloc (.cells #[.int .i64 l, .int .i64 0, .slice p4 n4 c4, .slice q4 m4 d4] 25)) := hW4
  have G4 : Hid (w.grownBy W4 none) := grown_trans G3.out (grown_trans hg4 g4)
  obtain ⟨b4, hb4⟩ : ∃ b4, w4.heap.size = b4 := ⟨_, rfl⟩
  rw [hb4] at CC4
  have N4 : Hid (C4 W4 w.heap.size (.int .i64 L) (.int .i64 S) (.slice a n c) (.slice a' m c') ∧ C4 W4 (w.heap.size + 1) (.int .i64 L') (.int .i64 S') (.slice e k f) (.slice e' j f') ∧ C4 W4 b3 (.int .i64 l) (.int .i64 0) (.slice p3 n3 c3) (.slice q3 m3 d3) ∧ X8 W4 p3 n3 c3 q3 m3 d3 ∧ C4 W4 b4 (.int .i64 l) (.int .i64 0) (.slice p4 n4 c4) (.slice q4 m4 d4) ∧ X14 W4 p4 n4 c4 q4 m4 d4) := ⟨N3.out.1.kept (grown_trans hg4 g4), N3.out.2.1.kept (grown_trans hg4 g4), N3.out.2.2.1.kept (grown_trans hg4 g4), hX8.out _ _ _ _ _ _ _ _ (N3.out.2.2.2) (grown_trans hg4 g4), CC4, hX14.out _ _ _ _ _ _ _ _ hx4 g4⟩
  clear a0 a1 a2 a3 e0 e1 e2 e3
  obtain ⟨a0, a1, a2, a3⟩ := (show C4 _ _ _ _ _ _ from N4.out.1).get
  obtain ⟨e0, e1, e2, e3⟩ := (show C4 _ _ _ _ _ _ from N4.out.2.1).get
  rw [hW4] at a0 a1 a2 a3 e0 e1 e2 e3
  clear hg4 hW4 g4 s4 CC4 hx4 N3 HW3 hb3
  go_wp2_with fail
  rw [← HW4.out]
  refine (HM1.out _ G4.out).mono ?_
  rintro E w5 ⟨p5, n5, c5, q5, m5, d5, rfl, hx5, hg5⟩
  obtain ⟨W5, hW5, g5, s5, CC5⟩ := c4_new w5 (.int .i64 l) (.int .i64 0) (.slice p5 n5 c5) (.slice q5 m5 d5)
  have HW5 : Hid (W5 = w5.alloc (.cells #[.int .i64 l, .int .i64 0, .slice p5 n5 c5, .slice q5 m5 d5] 25)) := hW5
  have G5 : Hid (w.grownBy W5 none) := grown_trans G4.out (grown_trans hg5 g5)
  obtain ⟨b5, hb5⟩ : ∃ b5, w5.heap.size = b5 := ⟨_, rfl⟩
  rw [hb5] at CC5
  have N5 : Hid (C4 W5 w.heap.size (.int .i64 L) (.int .i64 S) (.slice a n c) (.slice a' m c') ∧ C4 W5 (w.heap.size + 1) (.int .i64 L') (.int .i64 S') (.slice e k f) (.slice e' j f') ∧ C4 W5 b3 (.int .i64 l) (.int .i64 0) (.slice p3 n3 c3) (.slice q3 m3 d3) ∧ X8 W5 p3 n3 c3 q3 m3 d3 ∧ C4 W5 b4 (.int .i64 l) (.int .i64 0) (.slice p4 n4 c4) (.slice q4 m4 d4) ∧ X14 W5 p4 n4 c4 q4 m4 d4 ∧ C4 W5 b5 (.int .i64 l) (.int .i64 0) (.slice p5 n5 c5) (.slice q5 m5 d5) ∧ X1 W5 p5 n5 c5 q5 m5 d5) := ⟨N4.out.1.kept (grown_trans hg5 g5), N4.out.2.1.kept (grown_trans hg5 g5), N4.out.2.2.1.kept (grown_trans hg5 g5), hX8.out _ _ _ _ _ _ _ _ (N4.out.2.2.2.1) (grown_trans hg5 g5), N4.out.2.2.2.2.1.kept (grown_trans hg5 g5), hX14.out _ _ _ _ _ _ _ _ (N4.out.2.2.2.2.2) (grown_trans hg5 g5), CC5, hX1.out _ _ _ _ _ _ _ _ hx5 g5⟩
  clear a0 a1 a2 a3 e0 e1 e2 e3
  obtain ⟨a0, a1, a2, a3⟩ := (show C4 _ _ _ _ _ _ from N5.out.1).get
  rw [hW5] at a0 a1 a2 a3
  clear hg5 hW5 g5 s5 CC5 hx5 N4 HW4 hb4
  go_wp2_with fail
  rw [← HW5.out]
  refine (HL.out _ G5.out).mono ?_
  rintro E w6 ⟨p6, n6, c6, q6, m6, d6, rfl, hx6, hg6⟩
  obtain ⟨W6, hW6, g6, s6, CC6⟩ := c4_new w6 (.int .i64 l) (.int .i64 0) (.slice p6 n6 c6) (.slice q6 m6 d6)
  have HW6 : Hid (W6 = w6.alloc (.cells #[.int .i64 l, .int .i64 0, .slice p6 n6 c6, .slice q6 m6 d6] 25)) := hW6
  have G6 : Hid (w.grownBy W6 none) := grown_trans G5.out (grown_trans hg6 g6)
  obtain ⟨b6, hb6⟩ : ∃ b6, w6.heap.size = b6 := ⟨_, rfl⟩
  rw [hb6] at CC6
  have N6 : Hid (C4 W6 w.heap.size (.int .i64 L) (.int .i64 S) (.slice a n c) (.slice a' m c') ∧ C4 W6 (w.heap.size + 1) (.int .i64 L') (.int .i64 S') (.slice e k f) (.slice e' j f') ∧ C4 W6 b3 (.int .i64 l) (.int .i64 0) (.slice p3 n3 c3) (.slice q3 m3 d3) ∧ X8 W6 p3 n3 c3 q3 m3 d3 ∧ C4 W6 b4 (.int .i64 l) (.int .i64 0) (.slice p4 n4 c4) (.slice q4 m4 d4) ∧ X14 W6 p4 n4 c4 q4 m4 d4 ∧ C4 W6 b5 (.int .i64 l) (.int .i64 0) (.slice p5 n5 c5) (.slice q5 m5 d5) ∧ X1 W6 p5 n5 c5 q5 m5 d5 ∧ C4 W6 b6 (.int .i64 l) (.int .i64 0) (.slice p6 n6 c6) (.slice q6 m6 d6) ∧ XL W6 p6 n6 c6 q6 m6 d6) := ⟨N5.out.1.kept (grown_trans hg6 g6), N5.out.2.1.kept (grown_trans hg6 g6), N5.out.2.2.1.kept (grown_trans hg6 g6), hX8.out _ _ _ _ _ _ _ _ (N5.out.2.2.2.1) (grown_trans hg6 g6), N5.out.2.2.2.2.1.kept (grown_trans hg6 g6), hX14.out _ _ _ _ _ _ _ _ (N5.out.2.2.2.2.2.1) (grown_trans hg6 g6), N5.out.2.2.2.2.2.2.1.kept (grown_trans hg6 g6), hX1.out _ _ _ _ _ _ _ _ (N5.out.2.2.2.2.2.2.2) (grown_trans hg6 g6), CC6, hXL.out _ _ _ _ _ _ _ _ hx6 g6⟩
  clear a0 a1 a2 a3
  obtain ⟨a0, a1, a2, a3⟩ := (show C4 _ _ _ _ _ _ from N6.out.1).get
  obtain ⟨o0, o1, o2, o3⟩ := (show C4 _ _ _ _ _ _ from N6.out.2.2.2.2.1).get
  rw [hW6] at a0 a1 a2 a3 o0 o1 o2 o3
  clear hg6 hW6 g6 s6 CC6 hx6 N5 HW5 hb5
  go_wp2_with fail
  rw [← HW6.out]
  refine (HB1.out _ _ _ _ _ _ _ _ _ _ _ _ _ G6.out (N6.out.2.2.2.2.2.1) (N6.out.2.2.2.2.2.2.2.2.2)).mono ?_
  rintro E w7 ⟨L7, S7, p7, n7, c7, q7, m7, d7, y7, rfl, hP7, hg7⟩
  obtain ⟨W7, hW7, g7, s7, CC7⟩ := c4_new w7 (.int .i64 L7) (.int .i64 S7) (.slice p7 n7 c7) (.slice q7 m7 d7)
  have HW7 : Hid (W7 = w7.alloc (.cells #[.int .i64 L7, .int .i64 S7, .slice p7 n7 c7, .slice q7 m7 d7] 25)) := hW7
  have G7 : Hid (w.grownBy w7 none) := grown_trans G6.out hg7
  obtain ⟨b7, hb7⟩ : ∃ b7, w7.heap.size = b7 := ⟨_, rfl⟩
  rw [hb7] at CC7
  have HS7 : Hid (w7.heap.size = b7 ∧ w7.grownBy W7 none) := ⟨hb7, g7⟩
  have N7 : Hid (C4 w7 w.heap.size (.int .i64 L) (.int .i64 S) (.slice a n c) (.slice a' m c') ∧ C4 w7 (w.heap.size + 1) (.int .i64 L') (.int .i64 S') (.slice e k f) (.slice e' j f') ∧ C4 w7 b3 (.int .i64 l) (.int .i64 0) (.slice p3 n3 c3) (.slice q3 m3 d3) ∧ X8 w7 p3 n3 c3 q3 m3 d3 ∧ C4 w7 b4 (.int .i64 l) (.int .i64 0) (.slice p4 n4 c4) (.slice q4 m4 d4) ∧ X14 w7 p4 n4 c4 q4 m4 d4 ∧ C4 w7 b5 (.int .i64 l) (.int .i64 0) (.slice p5 n5 c5) (.slice q5 m5 d5) ∧ X1 w7 p5 n5 c5 q5 m5 d5 ∧ C4 w7 b6 (.int .i64 l) (.int .i64 0) (.slice p6 n6 c6) (.slice q6 m6 d6) ∧ XL w7 p6 n6 c6 q6 m6 d6) := ⟨N6.out.1.kept hg7, N6.out.2.1.kept hg7, N6.out.2.2.1.kept hg7, hX8.out _ _ _ _ _ _ _ _ (N6.out.2.2.2.1) hg7, N6.out.2.2.2.2.1.kept hg7, hX14.out _ _ _ _ _ _ _ _ (N6.out.2.2.2.2.2.1) hg7, N6.out.2.2.2.2.2.2.1.kept hg7, hX1.out _ _ _ _ _ _ _ _ (N6.out.2.2.2.2.2.2.2.1) hg7, N6.out.2.2.2.2.2.2.2.2.1.kept hg7, hXL.out _ _ _ _ _ _ _ _ (N6.out.2.2.2.2.2.2.2.2.2) hg7⟩
  have HP7 : Hid _ := hP7
  have HL7 : Hid (w.heap.size < W6.heap.size) := (N6.out.1).lt
  have D7 : Hid (C4 W7 b7 (.int .i64 L7) (.int .i64 S7) (.slice p7 n7 c7) (.slice q7 m7 d7)) := CC7
  clear a0 a1 a2 a3 o0 o1 o2 o3 hg7 g7 s7 CC7 N6 HW6 hb6 hP7
  by_cases h7 : y7 = 0
  · have f7 : (y7 == 0) = true := by simpa using h7
    have N7a : Hid (C4 W7 w.heap.size (.int .i64 L) (.int .i64 S) (.slice a n c) (.slice a' m c') ∧ C4 W7 (w.heap.size + 1) (.int .i64 L') (.int .i64 S') (.slice e k f) (.slice e' j f') ∧ C4 W7 b3 (.int .i64 l) (.int .i64 0) (.slice p3 n3 c3) (.slice q3 m3 d3) ∧ X8 W7 p3 n3 c3 q3 m3 d3 ∧ C4 W7 b4 (.int .i64 l) (.int .i64 0) (.slice p4 n4 c4) (.slice q4 m4 d4) ∧ X14 W7 p4 n4 c4 q4 m4 d4 ∧ C4 W7 b5 (.int .i64 l) (.int .i64 0) (.slice p5 n5 c5) (.slice q5 m5 d5) ∧ X1 W7 p5 n5 c5 q5 m5 d5 ∧ C4 W7 b6 (.int .i64 l) (.int .i64 0) (.slice p6 n6 c6) (.slice q6 m6 d6) ∧ XL W7 p6 n6 c6 q6 m6 d6) := ⟨N7.out.1.kept HS7.out.2, N7.out.2.1.kept HS7.out.2, N7.out.2.2.1.kept HS7.out.2, hX8.out _ _ _ _ _ _ _ _ (N7.out.2.2.2.1) HS7.out.2, N7.out.2.2.2.2.1.kept HS7.out.2, hX14.out _ _ _ _ _ _ _ _ (N7.out.2.2.2.2.2.1) HS7.out.2, N7.out.2.2.2.2.2.2.1.kept HS7.out.2, hX1.out _ _ _ _ _ _ _ _ (N7.out.2.2.2.2.2.2.2.1) HS7.out.2, N7.out.2.2.2.2.2.2.2.2.1.kept HS7.out.2, hXL.out _ _ _ _ _ _ _ _ (N7.out.2.2.2.2.2.2.2.2.2) HS7.out.2⟩
    obtain ⟨l0, l1, l2, l3⟩ := (show C4 _ _ _ _ _ _ from N7a.out.2.2.2.2.2.2.2.2.1).get
    obtain ⟨z0, z1, z2, z3⟩ := D7.out.get
    rw [hW7] at l0 l1 l2 l3 z0 z1 z2 z3
    clear hW7
    go_wp2_with fail
    rw [← HW7.out]
    refine (HP7.out h7 w.heap.size _ HL7.out (grown_some HS7.out.2) (N7a.out.2.2.2.2.2.2.2.2.2)).mono ?_
    rintro E w8 ⟨rfl, hg8⟩
    have GG8 : Hid (w7.grownBy w8 none) := grown_trans HS7.out.2 hg8
    have D8 : Hid (C4 w8 b7 (.int .i64 L7) (.int .i64 S7) (.slice p7 n7 c7) (.slice q7 m7 d7)) := D7.out.kept hg8
    clear l0 l1 l2 l3 z0 z1 z2 z3 hg8 N7a HW7 HP7
    have N8 : Hid (C4 w8 w.heap.size (.int .i64 L) (.int .i64 S) (.slice a n c) (.slice a' m c') ∧ C4 w8 (w.heap.size + 1) (.int .i64 L') (.int .i64 S') (.slice e k f) (.slice e' j f') ∧ C4 w8 b3 (.int .i64 l) (.int .i64 0) (.slice p3 n3 c3) (.slice q3 m3 d3) ∧ X8 w8 p3 n3 c3 q3 m3 d3 ∧ C4 w8 b4 (.int .i64 l) (.int .i64 0) (.slice p4 n4 c4) (.slice q4 m4 d4) ∧ X14 w8 p4 n4 c4 q4 m4 d4 ∧ C4 w8 b5 (.int .i64 l) (.int .i64 0) (.slice p5 n5 c5) (.slice q5 m5 d5) ∧ X1 w8 p5 n5 c5 q5 m5 d5 ∧ C4 w8 b6 (.int .i64 l) (.int .i64 0) (.slice p6 n6 c6) (.slice q6 m6 d6) ∧ XL w8 p6 n6 c6 q6 m6 d6) := ⟨N7.out.1.kept GG8.out, N7.out.2.1.kept GG8.out, N7.out.2.2.1.kept GG8.out, hX8.out _ _ _ _ _ _ _ _ (N7.out.2.2.2.1) GG8.out, N7.out.2.2.2.2.1.kept GG8.out, hX14.out _ _ _ _ _ _ _ _ (N7.out.2.2.2.2.2.1) GG8.out, N7.out.2.2.2.2.2.2.1.kept GG8.out, hX1.out _ _ _ _ _ _ _ _ (N7.out.2.2.2.2.2.2.2.1) GG8.out, N7.out.2.2.2.2.2.2.2.2.1.kept GG8.out, hXL.out _ _ _ _ _ _ _ _ (N7.out.2.2.2.2.2.2.2.2.2) GG8.out⟩
    obtain ⟨a0, a1, a2, a3⟩ := (show C4 _ _ _ _ _ _ from N8.out.1).get
    obtain ⟨x0, x1, x2, x3⟩ := (show C4 _ _ _ _ _ _ from N8.out.2.2.1).get
    go_wp2_with fail
    refine (HB2.out _ _ _ _ _ _ _ _ _ _ _ _ _ (grown_trans G7.out GG8.out) (N8.out.2.2.2.1) (N8.out.2.2.2.2.2.2.2.2.2)).mono ?_
    rintro E w9 ⟨L9, S9, p9, n9, c9, q9, m9, d9, y9, rfl, hP9, hg9⟩
    have HP9 : Hid _ := hP9
    have D9 := D8.out.kept hg9
    obtain ⟨z0, z1, z2, z3⟩ := D9.get
    have zf0 := D9.fz 0
    have zf1 := D9.fz 1
    have zf2 := D9.fz 2
    have zf3 := D9.fz 3
    obtain ⟨W9, hW9, hgs, t0, t1, t2, t3⟩ := det_store D9 (.int .i64 L9) (.int .i64 S9) (.slice p9 n9 c9) (.slice q9 m9 d9)
    have HW9 : Hid (W9 = _) := hW9
    have HB9 : Hid (b7 < w8.heap.size ∧ w9.grownBy W9 (some b7)) := ⟨D8.out.lt, hgs⟩
    have GW9 : Hid (w7.grownBy W9 none) := grown_new (grown_trans GG8.out hg9) hgs (by rw [HS7.out.1]; exact Nat.le_refl _)
    have N9 : Hid (C4 W9 w.heap.size (.int .i64 L) (.int .i64 S) (.slice a n c) (.slice a' m c') ∧ C4 W9 (w.heap.size + 1) (.int .i64 L') (.int .i64 S') (.slice e k f) (.slice e' j f') ∧ C4 W9 b3 (.int .i64 l) (.int .i64 0) (.slice p3 n3 c3) (.slice q3 m3 d3) ∧ X8 W9 p3 n3 c3 q3 m3 d3 ∧ C4 W9 b4 (.int .i64 l) (.int .i64 0) (.slice p4 n4 c4) (.slice q4 m4 d4) ∧ X14 W9 p4 n4 c4 q4 m4 d4 ∧ C4 W9 b5 (.int .i64 l) (.int .i64 0) (.slice p5 n5 c5) (.slice q5 m5 d5) ∧ X1 W9 p5 n5 c5 q5 m5 d5 ∧ C4 W9 b6 (.int .i64 l) (.int .i64 0) (.slice p6 n6 c6) (.slice q6 m6 d6) ∧ XL W9 p6 n6 c6 q6 m6 d6) := ⟨N7.out.1.kept GW9.out, N7.out.2.1.kept GW9.out, N7.out.2.2.1.kept GW9.out, hX8.out _ _ _ _ _ _ _ _ (N7.out.2.2.2.1) GW9.out, N7.out.2.2.2.2.1.kept GW9.out, hX14.out _ _ _ _ _ _ _ _ (N7.out.2.2.2.2.2.1) GW9.out, N7.out.2.2.2.2.2.2.1.kept GW9.out, hX1.out _ _ _ _ _ _ _ _ (N7.out.2.2.2.2.2.2.2.1) GW9.out, N7.out.2.2.2.2.2.2.2.2.1.kept GW9.out, hXL.out _ _ _ _ _ _ _ _ (N7.out.2.2.2.2.2.2.2.2.2) GW9.out⟩
    clear a0 a1 a2 a3 x0 x1 x2 x3 hP9 hg9 D9 hgs N8 D8
    by_cases h9 : y9 = 0
    · have f9 : (y9 == 0) = true := by simpa using h9
      obtain ⟨l0, l1, l2, l3⟩ := (show C4 _ _ _ _ _ _ from N9.out.2.2.2.2.2.2.2.2.1).get
      rw [hW9] at l0 l1 l2 l3 t0 t1 t2 t3
      clear hW9
      go_wp2_with fail
      rw [← HW9.out]
      refine (HP9.out h9 b7 _ HB9.out.1 HB9.out.2 (N9.out.2.2.2.2.2.2.2.2.2)).mono ?_
      rintro E w10 ⟨rfl, hg10⟩
      have GG10 : Hid (w7.grownBy w10 none) := grown_trans GW9.out hg10
      clear l0 l1 l2 l3 t0 t1 t2 t3 z0 z1 z2 z3 zf0 zf1 zf2 zf3 hg10 HW9 HP9
      have N10 : Hid (C4 w10 w.heap.size (.int .i64 L) (.int .i64 S) (.slice a n c) (.slice a' m c') ∧ C4 w10 (w.heap.size + 1) (.int .i64 L') (.int .i64 S') (.slice e k f) (.slice e' j f') ∧ C4 w10 b3 (.int .i64 l) (.int .i64 0) (.slice p3 n3 c3) (.slice q3 m3 d3) ∧ X8 w10 p3 n3 c3 q3 m3 d3 ∧ C4 w10 b4 (.int .i64 l) (.int .i64 0) (.slice p4 n4 c4) (.slice q4 m4 d4) ∧ X14 w10 p4 n4 c4 q4 m4 d4 ∧ C4 w10 b5 (.int .i64 l) (.int .i64 0) (.slice p5 n5 c5) (.slice q5 m5 d5) ∧ X1 w10 p5 n5 c5 q5 m5 d5 ∧ C4 w10 b6 (.int .i64 l) (.int .i64 0) (.slice p6 n6 c6) (.slice q6 m6 d6) ∧ XL w10 p6 n6 c6 q6 m6 d6) := ⟨N7.out.1.kept GG10.out, N7.out.2.1.kept GG10.out, N7.out.2.2.1.kept GG10.out, hX8.out _ _ _ _ _ _ _ _ (N7.out.2.2.2.1) GG10.out, N7.out.2.2.2.2.1.kept GG10.out, hX14.out _ _ _ _ _ _ _ _ (N7.out.2.2.2.2.2.1) GG10.out, N7.out.2.2.2.2.2.2.1.kept GG10.out, hX1.out _ _ _ _ _ _ _ _ (N7.out.2.2.2.2.2.2.2.1) GG10.out, N7.out.2.2.2.2.2.2.2.2.1.kept GG10.out, hXL.out _ _ _ _ _ _ _ _ (N7.out.2.2.2.2.2.2.2.2.2) GG10.out⟩
      obtain ⟨o0, o1, o2, o3⟩ := (show C4 _ _ _ _ _ _ from N10.out.2.2.2.2.1).get
      obtain ⟨r0, r1, r2, r3⟩ := (show C4 _ _ _ _ _ _ from N10.out.2.2.2.2.2.2.1).get
      go_wp2_with fail
      refine (HDf.out _ _ _ _ _ _ _ _ _ _ _ _ _ (N10.out.2.2.2.2.2.1) (N10.out.2.2.2.2.2.2.2.1)).mono ?_
      rintro E w11 ⟨az, cz, rfl, hg11⟩
      have GG11 : Hid (w7.grownBy w11 none) := grown_trans GG10.out hg11
      clear o0 o1 o2 o3 r0 r1 r2 r3 hg11
      have N11 : Hid (C4 w11 w.heap.size (.int .i64 L) (.int .i64 S) (.slice a n c) (.slice a' m c') ∧ C4 w11 (w.heap.size + 1) (.int .i64 L') (.int .i64 S') (.slice e k f) (.slice e' j f') ∧ C4 w11 b3 (.int .i64 l) (.int .i64 0) (.slice p3 n3 c3) (.slice q3 m3 d3) ∧ X8 w11 p3 n3 c3 q3 m3 d3 ∧ C4 w11 b4 (.int .i64 l) (.int .i64 0) (.slice p4 n4 c4) (.slice q4 m4 d4) ∧ X14 w11 p4 n4 c4 q4 m4 d4 ∧ C4 w11 b5 (.int .i64 l) (.int .i64 0) (.slice p5 n5 c5) (.slice q5 m5 d5) ∧ X1 w11 p5 n5 c5 q5 m5 d5 ∧ C4 w11 b6 (.int .i64 l) (.int .i64 0) (.slice p6 n6 c6) (.slice q6 m6 d6) ∧ XL w11 p6 n6 c6 q6 m6 d6) := ⟨N7.out.1.kept GG11.out, N7.out.2.1.kept GG11.out, N7.out.2.2.1.kept GG11.out, hX8.out _ _ _ _ _ _ _ _ (N7.out.2.2.2.1) GG11.out, N7.out.2.2.2.2.1.kept GG11.out, hX14.out _ _ _ _ _ _ _ _ (N7.out.2.2.2.2.2.1) GG11.out, N7.out.2.2.2.2.2.2.1.kept GG11.out, hX1.out _ _ _ _ _ _ _ _ (N7.out.2.2.2.2.2.2.2.1) GG11.out, N7.out.2.2.2.2.2.2.2.2.1.kept GG11.out, hXL.out _ _ _ _ _ _ _ _ (N7.out.2.2.2.2.2.2.2.2.2) GG11.out⟩
      obtain ⟨l0, l1, l2, l3⟩ := (show C4 _ _ _ _ _ _ from N11.out.2.2.2.2.2.2.2.2.1).get
      go_wp2_with fail
      refine (HG.out _ _ _ _ _ _ _ (N11.out.2.2.2.2.2.2.2.2.2)).mono ?_
      rintro E w12 ⟨pE, nE, cE, qE, mE, dE, rfl, hPE, hg12⟩
      obtain ⟨W12, hW12, g12, s12, CC12⟩ := c4_new w12 (.int .i64 l) (.int .i64 0) (.slice pE nE cE) (.slice qE mE dE)
      have HW12 : Hid (W12 = w12.alloc (.cells #[.int .i64 l, .int .i64 0, .slice pE nE cE, .slice qE mE dE] 25)) := hW12
      have HPE : Hid _ := hPE
      have G12 : Hid (w12.grownBy W12 none) := g12
      have GG12 : Hid (w7.grownBy W12 none) := grown_trans GG11.out (grown_trans hg12 g12)
      clear l0 l1 l2 l3
      have N12 : Hid (C4 W12 w.heap.size (.int .i64 L) (.int .i64 S) (.slice a n c) (.slice a' m c') ∧ C4 W12 (w.heap.size + 1) (.int .i64 L') (.int .i64 S') (.slice e k f) (.slice e' j f') ∧ C4 W12 b3 (.int .i64 l) (.int .i64 0) (.slice p3 n3 c3) (.slice q3 m3 d3) ∧ X8 W12 p3 n3 c3 q3 m3 d3 ∧ C4 W12 b4 (.int .i64 l) (.int .i64 0) (.slice p4 n4 c4) (.slice q4 m4 d4) ∧ X14 W12 p4 n4 c4 q4 m4 d4 ∧ C4 W12 b5 (.int .i64 l) (.int .i64 0) (.slice p5 n5 c5) (.slice q5 m5 d5) ∧ X1 W12 p5 n5 c5 q5 m5 d5 ∧ C4 W12 b6 (.int .i64 l) (.int .i64 0) (.slice p6 n6 c6) (.slice q6 m6 d6) ∧ XL W12 p6 n6 c6 q6 m6 d6) := ⟨N7.out.1.kept GG12.out, N7.out.2.1.kept GG12.out, N7.out.2.2.1.kept GG12.out, hX8.out _ _ _ _ _ _ _ _ (N7.out.2.2.2.1) GG12.out, N7.out.2.2.2.2.1.kept GG12.out, hX14.out _ _ _ _ _ _ _ _ (N7.out.2.2.2.2.2.1) GG12.out, N7.out.2.2.2.2.2.2.1.kept GG12.out, hX1.out _ _ _ _ _ _ _ _ (N7.out.2.2.2.2.2.2.2.1) GG12.out, N7.out.2.2.2.2.2.2.2.2.1.kept GG12.out, hXL.out _ _ _ _ _ _ _ _ (N7.out.2.2.2.2.2.2.2.2.2) GG12.out⟩
      obtain ⟨l0, l1, l2, l3⟩ := (show C4 _ _ _ _ _ _ from N12.out.2.2.2.2.2.2.2.2.1).get
      obtain ⟨v0, v1, v2, v3⟩ := CC12.get
      rw [hW12] at l0 l1 l2 l3 v0 v1 v2 v3
      clear hW12 hg12 g12 s12 CC12 hPE
      go_wp2_with fail
      rw [← HW12.out]
      refine (HPE.out _ G12.out).mono ?_
      rintro E w13 ⟨rfl, hg13⟩
      have G13 : Hid (w.grownBy w13 none) := grown_trans G7.out (grown_trans GG12.out hg13)
      clear l0 l1 l2 l3 v0 v1 v2 v3 hg13
      go_wp2_with fail
      go_ret
      exact ⟨rfl, G13.out⟩
    · have f9 : (y9 == 0) = false := by simpa using h9
      have GG10 : Hid (w7.grownBy W9 none) := GW9.out
      have N10 : Hid (C4 W9 w.heap.size (.int .i64 L) (.int .i64 S) (.slice a n c) (.slice a' m c') ∧ C4 W9 (w.heap.size + 1) (.int .i64 L') (.int .i64 S') (.slice e k f) (.slice e' j f') ∧ C4 W9 b3 (.int .i64 l) (.int .i64 0) (.slice p3 n3 c3) (.slice q3 m3 d3) ∧ X8 W9 p3 n3 c3 q3 m3 d3 ∧ C4 W9 b4 (.int .i64 l) (.int .i64 0) (.slice p4 n4 c4) (.slice q4 m4 d4) ∧ X14 W9 p4 n4 c4 q4 m4 d4 ∧ C4 W9 b5 (.int .i64 l) (.int .i64 0) (.slice p5 n5 c5) (.slice q5 m5 d5) ∧ X1 W9 p5 n5 c5 q5 m5 d5 ∧ C4 W9 b6 (.int .i64 l) (.int .i64 0) (.slice p6 n6 c6) (.slice q6 m6 d6) ∧ XL W9 p6 n6 c6 q6 m6 d6) := ⟨N7.out.1.kept GG10.out, N7.out.2.1.kept GG10.out, N7.out.2.2.1.kept GG10.out, hX8.out _ _ _ _ _ _ _ _ (N7.out.2.2.2.1) GG10.out, N7.out.2.2.2.2.1.kept GG10.out, hX14.out _ _ _ _ _ _ _ _ (N7.out.2.2.2.2.2.1) GG10.out, N7.out.2.2.2.2.2.2.1.kept GG10.out, hX1.out _ _ _ _ _ _ _ _ (N7.out.2.2.2.2.2.2.2.1) GG10.out, N7.out.2.2.2.2.2.2.2.2.1.kept GG10.out, hXL.out _ _ _ _ _ _ _ _ (N7.out.2.2.2.2.2.2.2.2.2) GG10.out⟩
      obtain ⟨o0, o1, o2, o3⟩ := (show C4 _ _ _ _ _ _ from N10.out.2.2.2.2.1).get
      obtain ⟨r0, r1, r2, r3⟩ := (show C4 _ _ _ _ _ _ from N10.out.2.2.2.2.2.2.1).get
      rw [hW9] at o0 o1 o2 o3 r0 r1 r2 r3
      clear hW9 t0 t1 t2 t3
      go_wp2_with fail
      rw [← HW9.out]
      refine (HDf.out _ _ _ _ _ _ _ _ _ _ _ _ _ (N10.out.2.2.2.2.2.1) (N10.out.2.2.2.2.2.2.2.1)).mono ?_
      rintro E w11 ⟨az, cz, rfl, hg11⟩
      have GG11 : Hid (w7.grownBy w11 none) := grown_trans GG10.out hg11
      clear o0 o1 o2 o3 r0 r1 r2 r3 hg11
      have N11 : Hid (C4 w11 w.heap.size (.int .i64 L) (.int .i64 S) (.slice a n c) (.slice a' m c') ∧ C4 w11 (w.heap.size + 1) (.int .i64 L') (.int .i64 S') (.slice e k f) (.slice e' j f') ∧ C4 w11 b3 (.int .i64 l) (.int .i64 0) (.slice p3 n3 c3) (.slice q3 m3 d3) ∧ X8 w11 p3 n3 c3 q3 m3 d3 ∧ C4 w11 b4 (.int .i64 l) (.int .i64 0) (.slice p4 n4 c4) (.slice q4 m4 d4) ∧ X14 w11 p4 n4 c4 q4 m4 d4 ∧ C4 w11 b5 (.int .i64 l) (.int .i64 0) (.slice p5 n5 c5) (.slice q5 m5 d5) ∧ X1 w11 p5 n5 c5 q5 m5 d5 ∧ C4 w11 b6 (.int .i64 l) (.int .i64 0) (.slice p6 n6 c6) (.slice q6 m6 d6) ∧ XL w11 p6 n6 c6 q6 m6 d6) := ⟨N7.out.1.kept GG11.out, N7.out.2.1.kept GG11.out, N7.out.2.2.1.kept GG11.out, hX8.out _ _ _ _ _ _ _ _ (N7.out.2.2.2.1) GG11.out, N7.out.2.2.2.2.1.kept GG11.out, hX14.out _ _ _ _ _ _ _ _ (N7.out.2.2.2.2.2.1) GG11.out, N7.out.2.2.2.2.2.2.1.kept GG11.out, hX1.out _ _ _ _ _ _ _ _ (N7.out.2.2.2.2.2.2.2.1) GG11.out, N7.out.2.2.2.2.2.2.2.2.1.kept GG11.out, hXL.out _ _ _ _ _ _ _ _ (N7.out.2.2.2.2.2.2.2.2.2) GG11.out⟩
      obtain ⟨l0, l1, l2, l3⟩ := (show C4 _ _ _ _ _ _ from N11.out.2.2.2.2.2.2.2.2.1).get
      go_wp2_with fail
      refine (HG.out _ _ _ _ _ _ _ (N11.out.2.2.2.2.2.2.2.2.2)).mono ?_
      rintro E w12 ⟨pE, nE, cE, qE, mE, dE, rfl, hPE, hg12⟩
      obtain ⟨W12, hW12, g12, s12, CC12⟩ := c4_new w12 (.int .i64 l) (.int .i64 0) (.slice pE nE cE) (.slice qE mE dE)
      have HW12 : Hid (W12 = w12.alloc (.cells #[.int .i64 l, .int .i64 0, .slice pE nE cE, .slice qE mE dE] 25)) := hW12
      have HPE : Hid _ := hPE
      have G12 : Hid (w12.grownBy W12 none) := g12
      have GG12 : Hid (w7.grownBy W12 none) := grown_trans GG11.out (grown_trans hg12 g12)
      clear l0 l1 l2 l3
      have N12 : Hid (C4 W12 w.heap.size (.int .i64 L) (.int .i64 S) (.slice a n c) (.slice a' m c') ∧ C4 W12 (w.heap.size + 1) (.int .i64 L') (.int .i64 S') (.slice e k f) (.slice e' j f') ∧ C4 W12 b3 (.int .i64 l) (.int .i64 0) (.slice p3 n3 c3) (.slice q3 m3 d3) ∧ X8 W12 p3 n3 c3 q3 m3 d3 ∧ C4 W12 b4 (.int .i64 l) (.int .i64 0) (.slice p4 n4 c4) (.slice q4 m4 d4) ∧ X14 W12 p4 n4 c4 q4 m4 d4 ∧ C4 W12 b5 (.int .i64 l) (.int .i64 0) (.slice p5 n5 c5) (.slice q5 m5 d5) ∧ X1 W12 p5 n5 c5 q5 m5 d5 ∧ C4 W12 b6 (.int .i64 l) (.int .i64 0) (.slice p6 n6 c6) (.slice q6 m6 d6) ∧ XL W12 p6 n6 c6 q6 m6 d6) := ⟨N7.out.1.kept GG12.out, N7.out.2.1.kept GG12.out, N7.out.2.2.1.kept GG12.out, hX8.out _ _ _ _ _ _ _ _ (N7.out.2.2.2.1) GG12.out, N7.out.2.2.2.2.1.kept GG12.out, hX14.out _ _ _ _ _ _ _ _ (N7.out.2.2.2.2.2.1) GG12.out, N7.out.2.2.2.2.2.2.1.kept GG12.out, hX1.out _ _ _ _ _ _ _ _ (N7.out.2.2.2.2.2.2.2.1) GG12.out, N7.out.2.2.2.2.2.2.2.2.1.kept GG12.out, hXL.out _ _ _ _ _ _ _ _ (N7.out.2.2.2.2.2.2.2.2.2) GG12.out⟩
      obtain ⟨l0, l1, l2, l3⟩ := (show C4 _ _ _ _ _ _ from N12.out.2.2.2.2.2.2.2.2.1).get
      obtain ⟨v0, v1, v2, v3⟩ := CC12.get
      rw [hW12] at l0 l1 l2 l3 v0 v1 v2 v3
      clear hW12 hg12 g12 s12 CC12 hPE
      go_wp2_with fail
      rw [← HW12.out]
      refine (HPE.out _ G12.out).mono ?_
      rintro E w13 ⟨rfl, hg13⟩
      have G13 : Hid (w.grownBy w13 none) := grown_trans G7.out (grown_trans GG12.out hg13)
      clear l0 l1 l2 l3 v0 v1 v2 v3 hg13
      go_wp2_with fail
      go_ret
      exact ⟨rfl, G13.out⟩
  · have f7 : (y7 == 0) = false := by simpa using h7
    have GG8 : Hid (w7.grownBy W7 none) := HS7.out.2
    have D8 : Hid (C4 W7 b7 (.int .i64 L7) (.int .i64 S7) (.slice p7 n7 c7) (.slice q7 m7 d7)) := D7.out
    have N8 : Hid (C4 W7 w.heap.size (.int .i64 L) (.int .i64 S) (.slice a n c) (.slice a' m c') ∧ C4 W7 (w.heap.size + 1) (.int .i64 L') (.int .i64 S') (.slice e k f) (.slice e' j f') ∧ C4 W7 b3 (.int .i64 l) (.int .i64 0) (.slice p3 n3 c3) (.slice q3 m3 d3) ∧ X8 W7 p3 n3 c3 q3 m3 d3 ∧ C4 W7 b4 (.int .i64 l) (.int .i64 0) (.slice p4 n4 c4) (.slice q4 m4 d4) ∧ X14 W7 p4 n4 c4 q4 m4 d4 ∧ C4 W7 b5 (.int .i64 l) (.int .i64 0) (.slice p5 n5 c5) (.slice q5 m5 d5) ∧ X1 W7 p5 n5 c5 q5 m5 d5 ∧ C4 W7 b6 (.int .i64 l) (.int .i64 0) (.slice p6 n6 c6) (.slice q6 m6 d6) ∧ XL W7 p6 n6 c6 q6 m6 d6) := ⟨N7.out.1.kept GG8.out, N7.out.2.1.kept GG8.out, N7.out.2.2.1.kept GG8.out, hX8.out _ _ _ _ _ _ _ _ (N7.out.2.2.2.1) GG8.out, N7.out.2.2.2.2.1.kept GG8.out, hX14.out _ _ _ _ _ _ _ _ (N7.out.2.2.2.2.2.1) GG8.out, N7.out.2.2.2.2.2.2.1.kept GG8.out, hX1.out _ _ _ _ _ _ _ _ (N7.out.2.2.2.2.2.2.2.1) GG8.out, N7.out.2.2.2.2.2.2.2.2.1.kept GG8.out, hXL.out _ _ _ _ _ _ _ _ (N7.out.2.2.2.2.2.2.2.2.2) GG8.out⟩
    obtain ⟨a0, a1, a2, a3⟩ := (show C4 _ _ _ _ _ _ from N8.out.1).get
    obtain ⟨x0, x1, x2, x3⟩ := (show C4 _ _ _ _ _ _ from N8.out.2.2.1).get
    rw [hW7] at a0 a1 a2 a3 x0 x1 x2 x3
    clear hW7
    go_wp2_with fail
    rw [← HW7.out]
    refine (HB2.out _ _ _ _ _ _ _ _ _ _ _ _ _ (grown_trans G7.out GG8.out) (N8.out.2.2.2.1) (N8.out.2.2.2.2.2.2.2.2.2)).mono ?_
    rintro E w9 ⟨L9, S9, p9, n9, c9, q9, m9, d9, y9, rfl, hP9, hg9⟩
    have HP9 : Hid _ := hP9
    have D9 := D8.out.kept hg9
    obtain ⟨z0, z1, z2, z3⟩ := D9.get
    have zf0 := D9.fz 0
    have zf1 := D9.fz 1
    have zf2 := D9.fz 2
    have zf3 := D9.fz 3
    obtain ⟨W9, hW9, hgs, t0, t1, t2, t3⟩ := det_store D9 (.int .i64 L9) (.int .i64 S9) (.slice p9 n9 c9) (.slice q9 m9 d9)
    have HW9 : Hid (W9 = _) := hW9
    have HB9 : Hid (b7 < W7.heap.size ∧ w9.grownBy W9 (some b7)) := ⟨D8.out.lt, hgs⟩
    have GW9 : Hid (w7.grownBy W9 none) := grown_new (grown_trans GG8.out hg9) hgs (by rw [HS7.out.1]; exact Nat.le_refl _)
    have N9 : Hid (C4 W9 w.heap.size (.int .i64 L) (.int .i64 S) (.slice a n c) (.slice a' m c') ∧ C4 W9 (w.heap.size + 1) (.int .i64 L') (.int .i64 S') (.slice e k f) (.slice e' j f') ∧ C4 W9 b3 (.int .i64 l) (.int .i64 0) (.slice p3 n3 c3) (.slice q3 m3 d3) ∧ X8 W9 p3 n3 c3 q3 m3 d3 ∧ C4 W9 b4 (.int .i64 l) (.int .i64 0) (.slice p4 n4 c4) (.slice q4 m4 d4) ∧ X14 W9 p4 n4 c4 q4 m4 d4 ∧ C4 W9 b5 (.int .i64 l) (.int .i64 0) (.slice p5 n5 c5) (.slice q5 m5 d5) ∧ X1 W9 p5 n5 c5 q5 m5 d5 ∧ C4 W9 b6 (.int .i64 l) (.int .i64 0) (.slice p6 n6 c6) (.slice q6 m6 d6) ∧ XL W9 p6 n6 c6 q6 m6 d6) := ⟨N7.out.1.kept GW9.out, N7.out.2.1.kept GW9.out, N7.out.2.2.1.kept GW9.out, hX8.out _ _ _ _ _ _ _ _ (N7.out.2.2.2.1) GW9.out, N7.out.2.2.2.2.1.kept GW9.out, hX14.out _ _ _ _ _ _ _ _ (N7.out.2.2.2.2.2.1) GW9.out, N7.out.2.2.2.2.2.2.1.kept GW9.out, hX1.out _ _ _ _ _ _ _ _ (N7.out.2.2.2.2.2.2.2.1) GW9.out, N7.out.2.2.2.2.2.2.2.2.1.kept GW9.out, hXL.out _ _ _ _ _ _ _ _ (N7.out.2.2.2.2.2.2.2.2.2) GW9.out⟩
    clear a0 a1 a2 a3 x0 x1 x2 x3 hP9 hg9 D9 hgs N8 D8
    by_cases h9 : y9 = 0
    · have f9 : (y9 == 0) = true := by simpa using h9
      obtain ⟨l0, l1, l2, l3⟩ := (show C4 _ _ _ _ _ _ from N9.out.2.2.2.2.2.2.2.2.1).get
      rw [hW9] at l0 l1 l2 l3 t0 t1 t2 t3
      clear hW9
      go_wp2_with fail
      rw [← HW9.out]
      refine (HP9.out h9 b7 _ HB9.out.1 HB9.out.2 (N9.out.2.2.2.2.2.2.2.2.2)).mono ?_
      rintro E w10 ⟨rfl, hg10⟩
      have GG10 : Hid (w7.grownBy w10 none) := grown_trans GW9.out hg10
      clear l0 l1 l2 l3 t0 t1 t2 t3 z0 z1 z2 z3 zf0 zf1 zf2 zf3 hg10 HW9 HP9
      have N10 : Hid (C4 w10 w.heap.size (.int .i64 L) (.int .i64 S) (.slice a n c) (.slice a' m c') ∧ C4 w10 (w.heap.size + 1) (.int .i64 L') (.int .i64 S') (.slice e k f) (.slice e' j f') ∧ C4 w10 b3 (.int .i64 l) (.int .i64 0) (.slice p3 n3 c3) (.slice q3 m3 d3) ∧ X8 w10 p3 n3 c3 q3 m3 d3 ∧ C4 w10 b4 (.int .i64 l) (.int .i64 0) (.slice p4 n4 c4) (.slice q4 m4 d4) ∧ X14 w10 p4 n4 c4 q4 m4 d4 ∧ C4 w10 b5 (.int .i64 l) (.int .i64 0) (.slice p5 n5 c5) (.slice q5 m5 d5) ∧ X1 w10 p5 n5 c5 q5 m5 d5 ∧ C4 w10 b6 (.int .i64 l) (.int .i64 0) (.slice p6 n6 c6) (.slice q6 m6 d6) ∧ XL w10 p6 n6 c6 q6 m6 d6) := ⟨N7.out.1.kept GG10.out, N7.out.2.1.kept GG10.out, N7.out.2.2.1.kept GG10.out, hX8.out _ _ _ _ _ _ _ _ (N7.out.2.2.2.1) GG10.out, N7.out.2.2.2.2.1.kept GG10.out, hX14.out _ _ _ _ _ _ _ _ (N7.out.2.2.2.2.2.1) GG10.out, N7.out.2.2.2.2.2.2.1.kept GG10.out, hX1.out _ _ _ _ _ _ _ _ (N7.out.2.2.2.2.2.2.2.1) GG10.out, N7.out.2.2.2.2.2.2.2.2.1.kept GG10.out, hXL.out _ _ _ _ _ _ _ _ (N7.out.2.2.2.2.2.2.2.2.2) GG10.out⟩
      obtain ⟨o0, o1, o2, o3⟩ := (show C4 _ _ _ _ _ _ from N10.out.2.2.2.2.1).get
      obtain ⟨r0, r1, r2, r3⟩ := (show C4 _ _ _ _ _ _ from N10.out.2.2.2.2.2.2.1).get
      go_wp2_with fail
      refine (HDf.out _ _ _ _ _ _ _ _ _ _ _ _ _ (N10.out.2.2.2.2.2.1) (N10.out.2.2.2.2.2.2.2.1)).mono ?_
      rintro E w11 ⟨az, cz, rfl, hg11⟩
      have GG11 : Hid (w7.grownBy w11 none) := grown_trans GG10.out hg11
      clear o0 o1 o2 o3 r0 r1 r2 r3 hg11
      have N11 : Hid (C4 w11 w.heap.size (.int .i64 L) (.int .i64 S) (.slice a n c) (.slice a' m c') ∧ C4 w11 (w.heap.size + 1) (.int .i64 L') (.int .i64 S') (.slice e k f) (.slice e' j f') ∧ C4 w11 b3 (.int .i64 l) (.int .i64 0) (.slice p3 n3 c3) (.slice q3 m3 d3) ∧ X8 w11 p3 n3 c3 q3 m3 d3 ∧ C4 w11 b4 (.int .i64 l) (.int .i64 0) (.slice p4 n4 c4) (.slice q4 m4 d4) ∧ X14 w11 p4 n4 c4 q4 m4 d4 ∧ C4 w11 b5 (.int .i64 l) (.int .i64 0) (.slice p5 n5 c5) (.slice q5 m5 d5) ∧ X1 w11 p5 n5 c5 q5 m5 d5 ∧ C4 w11 b6 (.int .i64 l) (.int .i64 0) (.slice p6 n6 c6) (.slice q6 m6 d6) ∧ XL w11 p6 n6 c6 q6 m6 d6) := ⟨N7.out.1.kept GG11.out, N7.out.2.1.kept GG11.out, N7.out.2.2.1.kept GG11.out, hX8.out _ _ _ _ _ _ _ _ (N7.out.2.2.2.1) GG11.out, N7.out.2.2.2.2.1.kept GG11.out, hX14.out _ _ _ _ _ _ _ _ (N7.out.2.2.2.2.2.1) GG11.out, N7.out.2.2.2.2.2.2.1.kept GG11.out, hX1.out _ _ _ _ _ _ _ _ (N7.out.2.2.2.2.2.2.2.1) GG11.out, N7.out.2.2.2.2.2.2.2.2.1.kept GG11.out, hXL.out _ _ _ _ _ _ _ _ (N7.out.2.2.2.2.2.2.2.2.2) GG11.out⟩
      obtain ⟨l0, l1, l2, l3⟩ := (show C4 _ _ _ _ _ _ from N11.out.2.2.2.2.2.2.2.2.1).get
      go_wp2_with fail
      refine (HG.out _ _ _ _ _ _ _ (N11.out.2.2.2.2.2.2.2.2.2)).mono ?_
      rintro E w12 ⟨pE, nE, cE, qE, mE, dE, rfl, hPE, hg12⟩
      obtain ⟨W12, hW12, g12, s12, CC12⟩ := c4_new w12 (.int .i64 l) (.int .i64 0) (.slice pE nE cE) (.slice qE mE dE)
      have HW12 : Hid (W12 = w12.alloc (.cells #[.int .i64 l, .int .i64 0, .slice pE nE cE, .slice qE mE dE] 25)) := hW12
      have HPE : Hid _ := hPE
      have G12 : Hid (w12.grownBy W12 none) := g12
      have GG12 : Hid (w7.grownBy W12 none) := grown_trans GG11.out (grown_trans hg12 g12)
      clear l0 l1 l2 l3
      have N12 : Hid (C4 W12 w.heap.size (.int .i64 L) (.int .i64 S) (.slice a n c) (.slice a' m c') ∧ C4 W12 (w.heap.size + 1) (.int .i64 L') (.int .i64 S') (.slice e k f) (.slice e' j f') ∧ C4 W12 b3 (.int .i64 l) (.int .i64 0) (.slice p3 n3 c3) (.slice q3 m3 d3) ∧ X8 W12 p3 n3 c3 q3 m3 d3 ∧ C4 W12 b4 (.int .i64 l) (.int .i64 0) (.slice p4 n4 c4) (.slice q4 m4 d4) ∧ X14 W12 p4 n4 c4 q4 m4 d4 ∧ C4 W12 b5 (.int .i64 l) (.int .i64 0) (.slice p5 n5 c5) (.slice q5 m5 d5) ∧ X1 W12 p5 n5 c5 q5 m5 d5 ∧ C4 W12 b6 (.int .i64 l) (.int .i64 0) (.slice p6 n6 c6) (.slice q6 m6 d6) ∧ XL W12 p6 n6 c6 q6 m6 d6) := ⟨N7.out.1.kept GG12.out, N7.out.2.1.kept GG12.out, N7.out.2.2.1.kept GG12.out, hX8.out _ _ _ _ _ _ _ _ (N7.out.2.2.2.1) GG12.out, N7.out.2.2.2.2.1.kept GG12.out, hX14.out _ _ _ _ _ _ _ _ (N7.out.2.2.2.2.2.1) GG12.out, N7.out.2.2.2.2.2.2.1.kept GG12.out, hX1.out _ _ _ _ _ _ _ _ (N7.out.2.2.2.2.2.2.2.1) GG12.out, N7.out.2.2.2.2.2.2.2.2.1.kept GG12.out, hXL.out _ _ _ _ _ _ _ _ (N7.out.2.2.2.2.2.2.2.2.2) GG12.out⟩
      obtain ⟨l0, l1, l2, l3⟩ := (show C4 _ _ _ _ _ _ from N12.out.2.2.2.2.2.2.2.2.1).get
      obtain ⟨v0, v1, v2, v3⟩ := CC12.get
      rw [hW12] at l0 l1 l2 l3 v0 v1 v2 v3
      clear hW12 hg12 g12 s12 CC12 hPE
      go_wp2_with fail
      rw [← HW12.out]
      refine (HPE.out _ G12.out).mono ?_
      rintro E w13 ⟨rfl, hg13⟩
      have G13 : Hid (w.grownBy w13 none) := grown_trans G7.out (grown_trans GG12.out hg13)
      clear l0 l1 l2 l3 v0 v1 v2 v3 hg13
      go_wp2_with fail
      go_ret
      exact ⟨rfl, G13.out⟩
    · have f9 : (y9 == 0) = false := by simpa using h9
      have GG10 : Hid (w7.grownBy W9 none) := GW9.out
      have N10 : Hid (C4 W9 w.heap.size (.int .i64 L) (.int .i64 S) (.slice a n c) (.slice a' m c') ∧ C4 W9 (w.heap.size + 1) (.int .i64 L') (.int .i64 S') (.slice e k f) (.slice e' j f') ∧ C4 W9 b3 (.int .i64 l) (.int .i64 0) (.slice p3 n3 c3) (.slice q3 m3 d3) ∧ X8 W9 p3 n3 c3 q3 m3 d3 ∧ C4 W9 b4 (.int .i64 l) (.int .i64 0) (.slice p4 n4 c4) (.slice q4 m4 d4) ∧ X14 W9 p4 n4 c4 q4 m4 d4 ∧ C4 W9 b5 (.int .i64 l) (.int .i64 0) (.slice p5 n5 c5) (.slice q5 m5 d5) ∧ X1 W9 p5 n5 c5 q5 m5 d5 ∧ C4 W9 b6 (.int .i64 l) (.int .i64 0) (.slice p6 n6 c6) (.slice q6 m6 d6) ∧ XL W9 p6 n6 c6 q6 m6 d6) := ⟨N7.out.1.kept GG10.out, N7.out.2.1.kept GG10.out, N7.out.2.2.1.kept GG10.out, hX8.out _ _ _ _ _ _ _ _ (N7.out.2.2.2.1) GG10.out, N7.out.2.2.2.2.1.kept GG10.out, hX14.out _ _ _ _ _ _ _ _ (N7.out.2.2.2.2.2.1) GG10.out, N7.out.2.2.2.2.2.2.1.kept GG10.out, hX1.out _ _ _ _ _ _ _ _ (N7.out.2.2.2.2.2.2.2.1) GG10.out, N7.out.2.2.2.2.2.2.2.2.1.kept GG10.out, hXL.out _ _ _ _ _ _ _ _ (N7.out.2.2.2.2.2.2.2.2.2) GG10.out⟩
      obtain ⟨o0, o1, o2, o3⟩ := (show C4 _ _ _ _ _ _ from N10.out.2.2.2.2.1).get
      obtain ⟨r0, r1, r2, r3⟩ := (show C4 _ _ _ _ _ _ from N10.out.2.2.2.2.2.2.1).get
      rw [hW9] at o0 o1 o2 o3 r0 r1 r2 r3
      clear hW9 t0 t1 t2 t3
      go_wp2_with fail
      rw [← HW9.out]
      refine (HDf.out _ _ _ _ _ _ _ _ _ _ _ _ _ (N10.out.2.2.2.2.2.1) (N10.out.2.2.2.2.2.2.2.1)).mono ?_
      rintro E w11 ⟨az, cz, rfl, hg11⟩
      have GG11 : Hid (w7.grownBy w11 none) := grown_trans GG10.out hg11
      clear o0 o1 o2 o3 r0 r1 r2 r3 hg11
      have N11 : Hid (C4 w11 w.heap.size (.int .i64 L) (.int .i64 S) (.slice a n c) (.slice a' m c') ∧ C4 w11 (w.heap.size + 1) (.int .i64 L') (.int .i64 S') (.slice e k f) (.slice e' j f') ∧ C4 w11 b3 (.int .i64 l) (.int .i64 0) (.slice p3 n3 c3) (.slice q3 m3 d3) ∧ X8 w11 p3 n3 c3 q3 m3 d3 ∧ C4 w11 b4 (.int .i64 l) (.int .i64 0) (.slice p4 n4 c4) (.slice q4 m4 d4) ∧ X14 w11 p4 n4 c4 q4 m4 d4 ∧ C4 w11 b5 (.int .i64 l) (.int .i64 0) (.slice p5 n5 c5) (.slice q5 m5 d5) ∧ X1 w11 p5 n5 c5 q5 m5 d5 ∧ C4 w11 b6 (.int .i64 l) (.int .i64 0) (.slice p6 n6 c6) (.slice q6 m6 d6) ∧ XL w11 p6 n6 c6 q6 m6 d6) := ⟨N7.out.1.kept GG11.out, N7.out.2.1.kept GG11.out, N7.out.2.2.1.kept GG11.out, hX8.out _ _ _ _ _ _ _ _ (N7.out.2.2.2.1) GG11.out, N7.out.2.2.2.2.1.kept GG11.out, hX14.out _ _ _ _ _ _ _ _ (N7.out.2.2.2.2.2.1) GG11.out, N7.out.2.2.2.2.2.2.1.kept GG11.out, hX1.out _ _ _ _ _ _ _ _ (N7.out.2.2.2.2.2.2.2.1) GG11.out, N7.out.2.2.2.2.2.2.2.2.1.kept GG11.out, hXL.out _ _ _ _ _ _ _ _ (N7.out.2.2.2.2.2.2.2.2.2) GG11.out⟩
      obtain ⟨l0, l1, l2, l3⟩ := (show C4 _ _ _ _ _ _ from N11.out.2.2.2.2.2.2.2.2.1).get
      go_wp2_with fail
      refine (HG.out _ _ _ _ _ _ _ (N11.out.2.2.2.2.2.2.2.2.2)).mono ?_
      rintro E w12 ⟨pE, nE, cE, qE, mE, dE, rfl, hPE, hg12⟩
      obtain ⟨W12, hW12, g12, s12, CC12⟩ := c4_new w12 (.int .i64 l) (.int .i64 0) (.slice pE nE cE) (.slice qE mE dE)
      have HW12 : Hid (W12 = w12.alloc (.cells #[.int .i64 l, .int .i64 0, .slice pE nE cE, .slice qE mE dE] 25)) := hW12
      have HPE : Hid _ := hPE
      have G12 : Hid (w12.grownBy W12 none) := g12
      have GG12 : Hid (w7.grownBy W12 none) := grown_trans GG11.out (grown_trans hg12 g12)
      clear l0 l1 l2 l3
      have N12 : Hid (C4 W12 w.heap.size (.int .i64 L) (.int .i64 S) (.slice a n c) (.slice a' m c') ∧ C4 W12 (w.heap.size + 1) (.int .i64 L') (.int .i64 S') (.slice e k f) (.slice e' j f') ∧ C4 W12 b3 (.int .i64 l) (.int .i64 0) (.slice p3 n3 c3) (.slice q3 m3 d3) ∧ X8 W12 p3 n3 c3 q3 m3 d3 ∧ C4 W12 b4 (.int .i64 l) (.int .i64 0) (.slice p4 n4 c4) (.slice q4 m4 d4) ∧ X14 W12 p4 n4 c4 q4 m4 d4 ∧ C4 W12 b5 (.int .i64 l) (.int .i64 0) (.slice p5 n5 c5) (.slice q5 m5 d5) ∧ X1 W12 p5 n5 c5 q5 m5 d5 ∧ C4 W12 b6 (.int .i64 l) (.int .i64 0) (.slice p6 n6 c6) (.slice q6 m6 d6) ∧ XL W12 p6 n6 c6 q6 m6 d6) := ⟨N7.out.1.kept GG12.out, N7.out.2.1.kept GG12.out, N7.out.2.2.1.kept GG12.out, hX8.out _ _ _ _ _ _ _ _ (N7.out.2.2.2.1) GG12.out, N7.out.2.2.2.2.1.kept GG12.out, hX14.out _ _ _ _ _ _ _ _ (N7.out.2.2.2.2.2.1) GG12.out, N7.out.2.2.2.2.2.2.1.kept GG12.out, hX1.out _ _ _ _ _ _ _ _ (N7.out.2.2.2.2.2.2.2.1) GG12.out, N7.out.2.2.2.2.2.2.2.2.1.kept GG12.out, hXL.out _ _ _ _ _ _ _ _ (N7.out.2.2.2.2.2.2.2.2.2) GG12.out⟩
      obtain ⟨l0, l1, l2, l3⟩ := (show C4 _ _ _ _ _ _ from N12.out.2.2.2.2.2.2.2.2.1).get
      obtain ⟨v0, v1, v2, v3⟩ := CC12.get
      rw [hW12] at l0 l1 l2 l3 v0 v1 v2 v3
      clear hW12 hg12 g12 s12 CC12 hPE
      go_wp2_with fail
      rw [← HW12.out]
      refine (HPE.out _ G12.out).mono ?_
      rintro E w13 ⟨rfl, hg13⟩
      have G13 : Hid (w.grownBy w13 none) := grown_trans G7.out (grown_trans GG12.out hg13)
      clear l0 l1 l2 l3 v0 v1 v2 v3 hg13
      go_wp2_with fail
      go_ret
      exact ⟨rfl, G13.out⟩

end Go.Proofs.YtmbbkjpfmmnabaaDoor
