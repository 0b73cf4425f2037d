/- Boxes of automata, and what calls leave in them. -/
import Derived.Test.YtkkmdcnbifepjaaDoorTls
import Derived.Test.YtkkmdcnbifepjaaDoorHLeastD
namespace Go.Proofs.YtkkmdcnbifepjaaDoor
open Go.RowKit
set_option linter.unusedVariables false

/-- A box of four cells. -/
def C4 (W : World) (b : Nat) (v0 v1 v2 v3 : Value) : Prop := W.heap[b]? = some (.cells #[v0, v1, v2, v3] 25 (0, 0))
theorem C4.kept {W W' : World} {b : Nat} {v0 v1 v2 v3 : Value} (h : C4 W b v0 v1 v2 v3) (hg : W.grownBy W' none) : C4 W' b v0 v1 v2 v3 := (hg.block _ (Array.getElem?_eq_some_iff.1 h).1 (by simp)).trans h
theorem C4.far {W W' : World} {b g : Nat} {v0 v1 v2 v3 : Value} (h : C4 W b v0 v1 v2 v3) (hg : W.grownBy W' (some g)) (hne : b ≠ g) : C4 W' b v0 v1 v2 v3 := (hg.block _ (Array.getElem?_eq_some_iff.1 h).1 (by simpa using hne)).trans h
theorem C4.lt {W : World} {b : Nat} {v0 v1 v2 v3 : Value} (h : C4 W b v0 v1 v2 v3) : b < W.heap.size := (Array.getElem?_eq_some_iff.1 h).1
theorem C4.get {W : World} {b : Nat} {v0 v1 v2 v3 : Value} (h : C4 W b v0 v1 v2 v3) : W.cell? ⟨b, 0, none⟩ = some v0 ∧ W.cell? ⟨b, 1, none⟩ = some v1 ∧ W.cell? ⟨b, 2, none⟩ = some v2 ∧ W.cell? ⟨b, 3, none⟩ = some v3 :=
  ⟨by rw [cell_of_row _ _ _ _ _ (0, 0) h]; rfl, by rw [cell_of_row _ _ _ _ _ (0, 0) h]; rfl, by rw [cell_of_row _ _ _ _ _ (0, 0) h]; rfl, by rw [cell_of_row _ _ _ _ _ (0, 0) h]; rfl⟩
theorem C4.fz {W : World} {b : Nat} {v0 v1 v2 v3 : Value} (h : C4 W b v0 v1 v2 v3) (k : Nat) : W.frozen? ⟨b, k, none⟩ = false := frozen_of_row _ _ k _ _ h
theorem c4_new (w : World) (v0 v1 v2 v3 : Value) : ∃ W, W = w.alloc (.cells #[v0, v1, v2, v3] 25) ∧ w.grownBy W none ∧ W.heap.size = w.heap.size + 1 ∧ C4 W w.heap.size v0 v1 v2 v3 := ⟨_, rfl, grown_alloc _ _, by simp, heap_alloc_new w _⟩
/-- An automaton that is made; and one that may be. -/
def MxG (l : Int) (X : World → Option Addr → Nat → Nat → Option Addr → Nat → Nat → Prop) (w : World) (E : Ending) (w' : World) : Prop := ∃ p n c q m d, E = .returned (.tuple #[detV l 0 p n c q m d, .int .i64 0]) ∧ X w' p n c q m d ∧ w.grownBy w' none
def MxE (P : World → Value → Prop) (w : World) (E : Ending) (w' : World) : Prop := ∃ L S p n c q m d y, E = .returned (.tuple #[detV L S p n c q m d, .int .i64 y]) ∧ (y = 0 → P w' (detV L S p n c q m d)) ∧ w.grownBy w' none

/-- Four cells are written anew. -/
theorem c4_store {W : World} {b : Nat} {a0 a1 a2 a3 : Value} (h : C4 W b a0 a1 a2 a3) (v0 v1 v2 v3 : Value) :
    ∃ W', W' = (((W.setCell ⟨b, 0, none⟩ v0).setCell ⟨b, 1, none⟩ v1).setCell ⟨b, 2, none⟩ v2).setCell ⟨b, 3, none⟩ v3 ∧ W.grownBy W' (some b) ∧ C4 W' b v0 v1 v2 v3 := by
  have h0 : (W.setCell ⟨b, 0, none⟩ v0).heap[b]? = some (.cells #[v0, a1, a2, a3] 25 (0, 0)) := by rw [heap_setCell_same W b 0 _ _ _ h]; rfl
  have h1 : ((W.setCell ⟨b, 0, none⟩ v0).setCell ⟨b, 1, none⟩ v1).heap[b]? = some (.cells #[v0, v1, a2, a3] 25 (0, 0)) := by rw [heap_setCell_same _ b 1 _ _ _ h0]; rfl
  have h2 : (((W.setCell ⟨b, 0, none⟩ v0).setCell ⟨b, 1, none⟩ v1).setCell ⟨b, 2, none⟩ v2).heap[b]? = some (.cells #[v0, v1, v2, a3] 25 (0, 0)) := by rw [heap_setCell_same _ b 2 _ _ _ h1]; rfl
  have h3 : ((((W.setCell ⟨b, 0, none⟩ v0).setCell ⟨b, 1, none⟩ v1).setCell ⟨b, 2, none⟩ v2).setCell ⟨b, 3, none⟩ v3).heap[b]? = some (.cells #[v0, v1, v2, v3] 25 (0, 0)) := by rw [heap_setCell_same _ b 3 _ _ _ h2]; rfl
  exact ⟨_, rfl, grown_set2 (grown_set2 (grown_set2 (grown_set W ⟨b, 0, none⟩ v0) 1 v1) 2 v2) 3 v3, h3⟩

end Go.Proofs.YtkkmdcnbifepjaaDoor
