/- Boxes of automata, and what calls leave in them. -/
/- The walk of the law RegularDet, out of the contracts of what it calls. -/
import Derived.Test.YtkkmdcnbifepjaaDoorTls
import Derived.Test.YtkkmdcnbifepjaaDoorHLeastD
import Derived.Test.YtkkmdcnbifepjaaDoorPCm
import Derived.Test.YtkkmdcnbifepjaaDoorPTab
namespace Go.Proofs.YtkkmdcnbifepjaaDoor
open Go.RowKit
set_option linter.unusedVariables false

/-- A box of four cells. -/
def C4 (W : World) (b : Nat) (v0 v1 v2 v3 : Value) : Prop := W.heap[b]? = some (.cells #[v0, v1, v2, v3] 25 (0, 0))
theorem C4.kept {W W' : World} {b : Nat} {v0 v1 v2 v3 : Value} (h : C4 W b v0 v1 v2 v3) (hg : W.grownBy W' none) : C4 W' b v0 v1 v2 v3 := (hg.block _ (Array.getElem?_eq_some_iff.1 h).1 (by simp)).trans h
theorem C4.far {W W' : World} {b g : Nat} {v0 v1 v2 v3 : Value} (h : C4 W b v0 v1 v2 v3) (hg : W.grownBy W' (some g)) (hne : b ≠ g) : C4 W' b v0 v1 v2 v3 := (hg.block _ (Array.getElem?_eq_some_iff.1 h).1 (by simpa using hne)).trans h
theorem C4.lt {W : World} {b : Nat} {v0 v1 v2 v3 : Value} (h : C4 W b v0 v1 v2 v3) : b < W.heap.size := (Array.getElem?_eq_some_iff.1 h).1
theorem C4.get {W : World} {b : Nat} {v0 v1 v2 v3 : Value} (h : C4 W b v0 v1 v2 v3) : W.cell? ⟨b, 0, none⟩ = some v0 ∧ W.cell? ⟨b, 1, none⟩ = some v1 ∧ W.cell? ⟨b, 2, none⟩ = some v2 ∧ W.cell? ⟨b, 3, none⟩ = some v3 :=
  ⟨by rw [cell_of_row _ _ _ _ _ (0, 0) h]; rfl, by rw [cell_of_row _ _ _ _ _ (0, 0) h]; rfl, by rw [cell_of_row _ _ _ _ _ (0, 0) h]; rfl, by rw [cell_of_row _ _ _ _ _ (0, 0) h]; rfl⟩
theorem C4.fz {W : World} {b : Nat} {v0 v1 v2 v3 : Value} (h : C4 W b v0 v1 v2 v3) (k : Nat) : W.frozen? ⟨b, k, none⟩ = false := frozen_of_row _ _ k _ _ h
theorem c4_new (w : World) (v0 v1 v2 v3 : Value) : ∃ W, W = w.alloc (.cells #[v0, v1, v2, v3] 25) ∧ w.grownBy W none ∧ W.heap.size = w.heap.size + 1 ∧ C4 W w.heap.size v0 v1 v2 v3 := ⟨_, rfl, grown_alloc _ _, by simp, heap_alloc_new w _⟩
/-- An automaton that is made; and one that may be. -/
def MxG (l : Int) (X : World → Option Addr → Nat → Nat → Option Addr → Nat → Nat → Prop) (w : World) (E : Ending) (w' : World) : Prop := ∃ p n c q m d, E = .returned (.tuple #[detV l 0 p n c q m d, .int .i64 0]) ∧ X w' p n c q m d ∧ w.grownBy w' none
def MxE (P : World → Value → Prop) (w : World) (E : Ending) (w' : World) : Prop := ∃ L S p n c q m d y, E = .returned (.tuple #[detV L S p n c q m d, .int .i64 y]) ∧ (y = 0 → P w' (detV L S p n c q m d)) ∧ w.grownBy w' none

/-- Four cells are written anew. -/
theorem c4_store {W : World} {b : Nat} {a0 a1 a2 a3 : Value} (h : C4 W b a0 a1 a2 a3) (v0 v1 v2 v3 : Value) :
    ∃ W', W' = (((W.setCell ⟨b, 0, none⟩ v0).setCell ⟨b, 1, none⟩ v1).setCell ⟨b, 2, none⟩ v2).setCell ⟨b, 3, none⟩ v3 ∧ W.grownBy W' (some b) ∧ C4 W' b v0 v1 v2 v3 := by
  have h0 : (W.setCell ⟨b, 0, none⟩ v0).heap[b]? = some (.cells #[v0, a1, a2, a3] 25 (0, 0)) := by rw [heap_setCell_same W b 0 _ _ _ h]; rfl
  have h1 : ((W.setCell ⟨b, 0, none⟩ v0).setCell ⟨b, 1, none⟩ v1).heap[b]? = some (.cells #[v0, v1, a2, a3] 25 (0, 0)) := by rw [heap_setCell_same _ b 1 _ _ _ h0]; rfl
  have h2 : (((W.setCell ⟨b, 0, none⟩ v0).setCell ⟨b, 1, none⟩ v1).setCell ⟨b, 2, none⟩ v2).heap[b]? = some (.cells #[v0, v1, v2, a3] 25 (0, 0)) := by rw [heap_setCell_same _ b 2 _ _ _ h1]; rfl
  have h3 : ((((W.setCell ⟨b, 0, none⟩ v0).setCell ⟨b, 1, none⟩ v1).setCell ⟨b, 2, none⟩ v2).setCell ⟨b, 3, none⟩ v3).heap[b]? = some (.cells #[v0, v1, v2, v3] 25 (0, 0)) := by rw [heap_setCell_same _ b 3 _ _ _ h2]; rfl
  exact ⟨_, rfl, grown_set2 (grown_set2 (grown_set2 (grown_set W ⟨b, 0, none⟩ v0) 1 v1) 2 v2) 3 v3, h3⟩

end Go.Proofs.YtkkmdcnbifepjaaDoor

namespace Go.Proofs.YtkkmdcnbifepjaaDoor
open Go.RowKit
set_option linter.unusedVariables false

abbrev zDet : Value := .agg #[.int .i64 0, .int .i64 0, .slice none 0 0, .slice none 0 0]

set_option maxHeartbeats 6400000 in
set_option maxRecDepth 100000 in
/-- A text that cannot be read. -/
theorem rd_syntax (L f j : Int) (s : ByteArray) (vw : Value) (w : World) (hsm : s.size ≤ maxLen) (hf : f ≠ 0)
    (HD : Hid (Calls Tryd.prog 5 #[.int .i64 L, .string s] w (Says (.tuple #[.agg #[.int .i64 0, .int .i64 0, .slice none 0 0, .slice none 0 0], .int .i64 4]) w)))
    (HN : Hid (∀ W, Calls Tryd.prog 6 #[.agg #[.int .i64 0, .int .i64 0, .slice none 0 0, .slice none 0 0]] W (Says (.bool true) W)))
    (HP : Hid (∀ W, Calls Tryd.prog 7 #[.string s] W (Says (.tuple #[.slice none 0 0, .agg #[.int .i64 f, .int .i64 j]]) W))) :
    Calls Tryd.prog 3 #[.int .i64 L, .string s, vw] w (Says (.bool true) w) := by
  unfold maxLen at hsm
  have hf1 : (f != 0) = true := by simpa using hf
  go_enter Tryd.func3, Tryd.ntmps3
  go_wp2_with fail
  refine HD.out.mono ?_
  rintro E w1 ⟨rfl, hg1⟩
  obtain ⟨W1, hW1, g1, s1, C1⟩ := c4_new w1 (.int .i64 0) (.int .i64 0) (.slice none 0 0) (.slice none 0 0)
  have HW1 : Hid (W1 = w1.alloc (.cells #[.int .i64 0, .int .i64 0, .slice none 0 0, .slice none 0 0] 25)) := hW1
  have G1 : Hid (w.grownBy W1 none) := grown_trans hg1 g1
  obtain ⟨y0, y1, y2, y3⟩ := C1.get
  rw [hW1] at y0 y1 y2 y3
  clear C1 g1 s1 hg1 hW1
  go_wp2_with fail
  rw [← HW1.out]
  clear HW1 y0 y1 y2 y3
  refine (HN.out W1).mono ?_
  rintro E w2 ⟨rfl, hg2⟩
  have G2 : Hid (w.grownBy w2 none) := grown_trans G1.out hg2
  clear hg2
  go_wp2_with fail
  refine (HP.out w2).mono ?_
  rintro E w3 ⟨rfl, hg3⟩
  obtain ⟨W3, hW3⟩ : ∃ W3, W3 = w3.alloc (.cells #[.int .i64 f, .int .i64 j] 32) := ⟨_, rfl⟩
  have HW3 : Hid (W3 = w3.alloc (.cells #[.int .i64 f, .int .i64 j] 32)) := hW3
  have G3 : Hid (w.grownBy W3 none) := by show World.grownBy _ _ _; rw [hW3]; exact grown_trans G2.out (grown_trans hg3 (grown_alloc _ _))
  have hb3 := heap_alloc_new w3 (.cells #[.int .i64 f, .int .i64 j] 32)
  have x0 : (w3.alloc (.cells #[.int .i64 f, .int .i64 j] 32)).cell? ⟨w3.heap.size, 0, none⟩ = some (.int .i64 f) := by rw [cell_of_row _ _ _ _ _ (0, 0) hb3]; rfl
  clear hb3 hg3 hW3
  go_wp2_with fail
  go_ret
  exact ⟨rfl, by rw [← HW3.out]; exact G3.out⟩

set_option maxHeartbeats 6400000 in
set_option maxRecDepth 100000 in
/-- A text of which there is no automaton. -/
theorem rd_bad (L y : Int) (s : ByteArray) (vw : Value) (w : World) (XP : World → Value → Prop) (hsm : s.size ≤ maxLen) (hy : y ≠ 0)
    (HD : Hid (Calls Tryd.prog 5 #[.int .i64 L, .string s] w (Says (.tuple #[.agg #[.int .i64 0, .int .i64 0, .slice none 0 0, .slice none 0 0], .int .i64 y]) w)))
    (HN : Hid (∀ W, Calls Tryd.prog 6 #[.agg #[.int .i64 0, .int .i64 0, .slice none 0 0, .slice none 0 0]] W (Says (.bool true) W)))
    (HP : Hid (∀ W, Calls Tryd.prog 7 #[.string s] W fun E W' => ∃ V, E = .returned (.tuple #[V, .agg #[.int .i64 0, .int .i64 0]]) ∧ (∀ W'', W'.grownBy W'' none → XP W'' V) ∧ W.grownBy W' none))
    (HR : Hid (∀ W V, XP W V → Calls Tryd.prog 8 #[.int .i64 L, V] W (Says (.tuple #[.agg #[.int .i64 0, .int .i64 0, .slice none 0 0, .slice none 0 0], .int .i64 y]) W))) :
    Calls Tryd.prog 3 #[.int .i64 L, .string s, vw] w (Says (.bool true) w) := by
  unfold maxLen at hsm
  have hf1 : (y != 0) = true := by simpa using hy
  have hf2 : (y == y) = true := by simp
  go_enter Tryd.func3, Tryd.ntmps3
  go_wp2_with fail
  refine HD.out.mono ?_
  rintro E w1 ⟨rfl, hg1⟩
  obtain ⟨W1, hW1, g1, s1, C1⟩ := c4_new w1 (.int .i64 0) (.int .i64 0) (.slice none 0 0) (.slice none 0 0)
  have HW1 : Hid (W1 = w1.alloc (.cells #[.int .i64 0, .int .i64 0, .slice none 0 0, .slice none 0 0] 25)) := hW1
  have G1 : Hid (w.grownBy W1 none) := grown_trans hg1 g1
  obtain ⟨y0, y1, y2, y3⟩ := C1.get
  rw [hW1] at y0 y1 y2 y3
  clear C1 g1 s1 hg1 hW1
  go_wp2_with fail
  rw [← HW1.out]
  clear HW1 y0 y1 y2 y3
  refine (HN.out W1).mono ?_
  rintro E w2 ⟨rfl, hg2⟩
  have G2 : Hid (w.grownBy w2 none) := grown_trans G1.out hg2
  clear hg2
  go_wp2_with fail
  refine (HP.out w2).mono ?_
  rintro E w3 ⟨V, rfl, hX, hg3⟩
  obtain ⟨W3, hW3⟩ : ∃ W3, W3 = w3.alloc (.cells #[.int .i64 0, .int .i64 0] 32) := ⟨_, rfl⟩
  have HW3 : Hid (W3 = w3.alloc (.cells #[.int .i64 0, .int .i64 0] 32)) := hW3
  have g3 : w3.grownBy W3 none := by rw [hW3]; exact grown_alloc _ _
  have G3 : Hid (w.grownBy W3 none) := grown_trans G2.out (grown_trans hg3 g3)
  have CR := HR.out W3 V (hX W3 g3)
  have hb3 := heap_alloc_new w3 (.cells #[.int .i64 0, .int .i64 0] 32)
  have x0 : (w3.alloc (.cells #[.int .i64 0, .int .i64 0] 32)).cell? ⟨w3.heap.size, 0, none⟩ = some (.int .i64 0) := by rw [cell_of_row _ _ _ _ _ (0, 0) hb3]; rfl
  have HCR : Hid (Calls Tryd.prog 8 #[.int .i64 L, V] W3 (Says (.tuple #[.agg #[.int .i64 0, .int .i64 0, .slice none 0 0, .slice none 0 0], .int .i64 y]) W3)) := CR
  clear CR hb3 hg3 g3 hW3 hX
  go_wp2_with fail
  rw [← HW3.out]
  clear HW3 x0
  refine HCR.out.mono ?_
  rintro E w4 ⟨rfl, hg4⟩
  have G4 : Hid (∀ o, w.grownBy (w4.alloc o) none) := fun o => grown_trans G3.out (grown_trans hg4 (grown_alloc _ _))
  clear HCR hg4
  go_wp2_with fail
  go_ret
  exact ⟨rfl, G4.out _⟩

set_option maxHeartbeats 12800000 in
set_option maxRecDepth 100000 in
/-- A text with its automaton. -/
theorem rd_good (L y : Int) (b : Bool) (s : ByteArray) (vw : Value) (w : World) (XP : World → Value → Prop) (XD XR : World → Option Addr → Nat → Nat → Option Addr → Nat → Nat → Prop) (hsm : s.size ≤ maxLen)
    (HD : Hid (Calls Tryd.prog 5 #[.int .i64 L, .string s] w fun E W' => ∃ p n c q m d, E = .returned (.tuple #[.agg #[.int .i64 L, .int .i64 0, .slice p n c, .slice q m d], .int .i64 0]) ∧ (∀ W'', W'.grownBy W'' none → XD W'' p n c q m d) ∧ w.grownBy W' none))
    (HN : Hid (∀ W p n c q m d, XD W p n c q m d → Calls Tryd.prog 6 #[.agg #[.int .i64 L, .int .i64 0, .slice p n c, .slice q m d]] W fun E W' => ∃ b, E = .returned (.bool b) ∧ W.grownBy W' none))
    (HP : Hid (∀ W, Calls Tryd.prog 7 #[.string s] W fun E W' => ∃ V, E = .returned (.tuple #[V, .agg #[.int .i64 0, .int .i64 0]]) ∧ (∀ W'', W'.grownBy W'' none → XP W'' V) ∧ W.grownBy W' none))
    (HR : Hid (∀ W V, XP W V → Calls Tryd.prog 8 #[.int .i64 L, V] W fun E W' => ∃ p n c q m d, E = .returned (.tuple #[.agg #[.int .i64 L, .int .i64 0, .slice p n c, .slice q m d], .int .i64 0]) ∧ (∀ W'', W'.grownBy W'' none → XR W'' p n c q m d) ∧ W.grownBy W' none))
    (HS : Hid (∀ W p n c q m d p' n' c' q' m' d', XD W p n c q m d → XR W p' n' c' q' m' d' → Calls Tryd.prog 9 #[.agg #[.int .i64 L, .int .i64 0, .slice p n c, .slice q m d], .agg #[.int .i64 L, .int .i64 0, .slice p' n' c', .slice q' m' d']] W (Says (.bool true) W)))
    (HM : Hid (∀ W, w.grownBy W none → Calls Tryd.prog 10 #[.int .i64 L, vw] W fun E W' => E = .returned (.int .i64 y) ∧ W' = W))
    (HA : Hid (y = 0 → ∀ W p n c q m d, w.grownBy W none → XD W p n c q m d → Calls Tryd.prog 11 #[.agg #[.int .i64 L, .int .i64 0, .slice p n c, .slice q m d], vw] W (Says (.bool b) W)))
    (HH : Hid (y = 0 → ∀ W V, w.grownBy W none → XP W V → Calls Tryd.prog 12 #[V, vw] W (Says (.bool b) W))) :
    Calls Tryd.prog 3 #[.int .i64 L, .string s, vw] w (Says (.bool true) w) := by
  unfold maxLen at hsm
  have hbb : (b == b) = true := by simp
  go_enter Tryd.func3, Tryd.ntmps3
  go_wp2_with fail
  refine HD.out.mono ?_
  rintro E w1 ⟨p, n, c, q, m, d, rfl, hX, hg1⟩
  obtain ⟨W1, hW1, g1, s1, C1⟩ := c4_new w1 (.int .i64 L) (.int .i64 0) (.slice p n c) (.slice q m d)
  have HW1 : Hid (W1 = w1.alloc (.cells #[.int .i64 L, .int .i64 0, .slice p n c, .slice q m d] 25)) := hW1
  have G1 : Hid (w.grownBy W1 none) := grown_trans hg1 g1
  have HX : Hid (∀ W'', W1.grownBy W'' none → XD W'' p n c q m d) := fun W'' h => hX W'' (grown_trans g1 h)
  obtain ⟨B1, hB1⟩ : ∃ B1, w1.heap.size = B1 := ⟨_, rfl⟩
  obtain ⟨y0, y1, y2, y3⟩ := C1.get
  rw [hW1] at y0 y1 y2 y3
  rw [hB1] at C1
  have HC1 : Hid (C4 W1 B1 (.int .i64 L) (.int .i64 0) (.slice p n c) (.slice q m d)) := C1
  clear C1 g1 s1 hg1 hW1 hX
  rw [hB1] at y0 y1 y2 y3
  go_wp2_with fail
  all_goals (try rw [hB1])
  go_wp2_with fail
  rw [← HW1.out]
  clear HW1 y0 y1 y2 y3
  refine (HN.out W1 p n c q m d (HX.out W1 (grown_refl _ _))).mono ?_
  rintro E w2 ⟨b2, rfl, hg2⟩
  have G12 : Hid (W1.grownBy w2 none) := hg2
  clear hg2
  go_wp2_with fail
  refine (HP.out w2).mono ?_
  rintro E w3 ⟨V, rfl, hX, hg3⟩
  obtain ⟨W3, hW3⟩ : ∃ W3, W3 = w3.alloc (.cells #[.int .i64 0, .int .i64 0] 32) := ⟨_, rfl⟩
  have HW3 : Hid (W3 = w3.alloc (.cells #[.int .i64 0, .int .i64 0] 32)) := hW3
  have g3 : w3.grownBy W3 none := by rw [hW3]; exact grown_alloc _ _
  have G13 : Hid (W1.grownBy W3 none) := grown_trans G12.out (grown_trans hg3 g3)
  have HXP : Hid (∀ W'', W3.grownBy W'' none → XP W'' V) := fun W'' h => hX W'' (grown_trans g3 h)
  have hb3 := heap_alloc_new w3 (.cells #[.int .i64 0, .int .i64 0] 32)
  have x0 : (w3.alloc (.cells #[.int .i64 0, .int .i64 0] 32)).cell? ⟨w3.heap.size, 0, none⟩ = some (.int .i64 0) := by rw [cell_of_row _ _ _ _ _ (0, 0) hb3]; rfl
  clear hb3 hg3 g3 hW3 hX G12
  go_wp2_with fail
  rw [← HW3.out]
  clear HW3 x0
  refine (HR.out W3 V (HXP.out W3 (grown_refl _ _))).mono ?_
  rintro E w4 ⟨p', n', c', q', m', d', rfl, hX, hg4⟩
  obtain ⟨W4, hW4, g4, s4, C4'⟩ := c4_new w4 (.int .i64 L) (.int .i64 0) (.slice p' n' c') (.slice q' m' d')
  have HW4 : Hid (W4 = w4.alloc (.cells #[.int .i64 L, .int .i64 0, .slice p' n' c', .slice q' m' d'] 25)) := hW4
  have G34 : Hid (W3.grownBy W4 none) := grown_trans hg4 g4
  have HXR : Hid (∀ W'', W4.grownBy W'' none → XR W'' p' n' c' q' m' d') := fun W'' h => hX W'' (grown_trans g4 h)
  obtain ⟨z0, z1, z2, z3⟩ := C4'.get
  obtain ⟨y0, y1, y2, y3⟩ := (HC1.out.kept (grown_trans G13.out G34.out)).get
  rw [hW4] at y0 y1 y2 y3 z0 z1 z2 z3
  clear hW4 g4 s4 C4' hg4 hX
  go_wp2_with fail
  rw [← HW4.out]
  clear HW4 y0 y1 y2 y3 z0 z1 z2 z3
  refine (HS.out W4 p n c q m d p' n' c' q' m' d' (HX.out W4 (grown_trans G13.out G34.out)) (HXR.out W4 (grown_refl _ _))).mono ?_
  rintro E w5 ⟨rfl, hg5⟩
  have G15 : Hid (W1.grownBy w5 none) := grown_trans G13.out (grown_trans G34.out hg5)
  have G35 : Hid (W3.grownBy w5 none) := grown_trans G34.out hg5
  clear hg5 HXR G34 G13
  go_wp2_with fail
  refine (HM.out w5 (grown_trans G1.out G15.out)).mono ?_
  rintro E w6 ⟨rfl, rfl⟩
  by_cases hy : y = 0
  · subst hy
    obtain ⟨y0, y1, y2, y3⟩ := (HC1.out.kept G15.out).get
    go_wp2_with fail
    clear y0 y1 y2 y3
    refine (HA.out (by trivial) w6 p n c q m d (grown_trans G1.out G15.out) (HX.out w6 G15.out)).mono ?_
    rintro E w7 ⟨rfl, hg7⟩
    have G7 : Hid (w6.grownBy w7 none) := hg7
    clear hg7
    go_wp2_with fail
    refine (HH.out (by trivial) w7 V (grown_trans G1.out (grown_trans G15.out G7.out)) (HXP.out w7 (grown_trans G35.out G7.out))).mono ?_
    rintro E w8 ⟨rfl, hg8⟩
    have G8 : Hid (w.grownBy w8 none) := grown_trans G1.out (grown_trans G15.out (grown_trans G7.out hg8))
    clear hg8
    go_wp2_with fail
    go_ret
    exact ⟨rfl, G8.out⟩
  · have hy1 : (y != 0) = true := by simpa using hy
    go_wp2_with fail
    go_ret
    exact ⟨rfl, grown_trans G1.out G15.out⟩

end Go.Proofs.YtkkmdcnbifepjaaDoor
