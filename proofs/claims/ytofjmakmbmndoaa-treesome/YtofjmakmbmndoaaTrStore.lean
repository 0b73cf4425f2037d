/- A tree's box that is written. -/
import Derived.Test.YtofjmakmbmndoaaTrSmall
namespace Go.Proofs.Ytofjmakmbmndoaa
open Go.RowKit
set_option linter.unusedVariables false

theorem two_boxT (w : World) (v0 v1 v2 v3 v4 : Value) : ∃ W, W = (w.alloc (.cells #[v0, v1, v2, v3, v4] 25)).alloc (.cells #[.slice none 0 0] 28) ∧ w.grownBy W none ∧ W.heap.size = w.heap.size + 1 + 1 ∧ W.heap[w.heap.size + 1]? = some (.cells #[.slice none 0 0] 28 (0, 0)) ∧ ∀ W', W.grownBy W' none → W'.cell? ⟨w.heap.size, 0, none⟩ = some v0 ∧ W'.cell? ⟨w.heap.size, 1, none⟩ = some v1 ∧ W'.cell? ⟨w.heap.size, 2, none⟩ = some v2 ∧ W'.cell? ⟨w.heap.size, 3, none⟩ = some v3 ∧ W'.cell? ⟨w.heap.size, 4, none⟩ = some v4 := by
  obtain ⟨W0, hW0, g0, s0, bx0⟩ := box5_new w v0 v1 v2 v3 v4 25
  obtain ⟨W1, hW1, g1, s1, _⟩ := box1_new W0 (.slice none 0 0) 28
  have hrb := heap_alloc_new W0 (.cells #[.slice none 0 0] 28)
  rw [← hW1, s0] at hrb
  exact ⟨W1, by rw [hW1, hW0], grown_trans g0 g1, by rw [s1, s0], hrb, fun W' hW' => bx0 W' (grown_trans g1 hW')⟩
/-- The box of a result is written. -/
theorem res_store {W : World} {B : Nat} (h : W.heap[B]? = some (.cells #[.slice none 0 0] 28 (0, 0))) (v : Value) : W.cell? ⟨B, 0, none⟩ = some (.slice none 0 0) ∧ W.frozen? ⟨B, 0, none⟩ = false ∧ ∃ W', W' = W.setCell ⟨B, 0, none⟩ v ∧ W.grownBy W' (some B) ∧ W'.cell? ⟨B, 0, none⟩ = some v := by
  refine ⟨by rw [cell_of_row _ _ 0 _ _ (0, 0) h]; rfl, frozen_of_row _ _ _ _ _ h, _, rfl, grown_set _ _ _, ?_⟩
  rw [cell_of_row _ _ 0 _ _ (0, 0) (heap_setCell_same W B 0 _ _ v h)]; simp
theorem NodesAt.far {W W' : World} {B : Nat} {a : Option Addr} {T : List NodeI} (hN : NodesAt W a T) (h : W.heap[B]? = some (.cells #[.slice none 0 0] 28 (0, 0))) (g : W.grownBy W' (some B)) : NodesAt W' a T := by
  rcases hN with h1 | ⟨bb, off, ha, hc⟩
  · exact .inl h1
  · refine .inr ⟨bb, off, ha, fun i hi => ?_⟩
    have hbb : bb ≠ B := fun e => by
      subst e
      have := (hc i hi).1
      have h2 : (W.cell? ⟨bb, off + i * 3, none⟩) = (#[Value.slice none 0 0] : Array Value)[off + i * 3]? := by rw [cell_of_row _ _ _ _ _ (0, 0) h]
      rw [h2] at this
      cases ho : off + i * 3 with
      | zero => rw [ho] at this; simp at this
      | succ o => rw [ho] at this; simp at this
    have k1 : ∀ o v, W.cell? ⟨bb, o, none⟩ = some v → W'.cell? ⟨bb, o, none⟩ = some v := fun o v hv => g.cell hv (by simpa using hbb)
    obtain ⟨c0, c1, c2⟩ := hc i hi
    exact ⟨k1 _ _ c0, k1 _ _ c1, k1 _ _ c2⟩

end Go.Proofs.Ytofjmakmbmndoaa
