/- Trees: small things that both sides use. -/
import Derived.Test.YtofjmakmbmndoaaTrRow
namespace Go.Proofs.Ytofjmakmbmndoaa
open Go.RowKit
set_option linter.unusedVariables false

abbrev nodeV (x : NodeI) : Value := .agg #[.int .i64 x.1, .int .i64 x.2.1, .int .i64 x.2.2]
theorem box3_new (w : World) (v0 v1 v2 : Value) (t : TypeId) : ∃ W, W = w.alloc (.cells #[v0, v1, v2] t) ∧ w.grownBy W none ∧ W.heap.size = w.heap.size + 1 ∧ ∀ row W', W.grownBy W' row → row ≠ some w.heap.size → W'.cell? ⟨w.heap.size, 0, none⟩ = some v0 ∧ W'.cell? ⟨w.heap.size, 1, none⟩ = some v1 ∧ W'.cell? ⟨w.heap.size, 2, none⟩ = some v2 := by
  refine ⟨_, rfl, grown_alloc _ _, by simp, fun row W' h hr => ?_⟩
  have hb := heap_alloc_new w (.cells #[v0, v1, v2] t)
  have hc : ∀ k v, #[v0, v1, v2][k]? = some v → W'.cell? ⟨w.heap.size, k, none⟩ = some v := fun k v hv => h.cell (by rw [cell_of_row _ _ k _ _ (0, 0) hb]; exact hv) (by simpa using fun e => hr e.symm)
  exact ⟨hc 0 _ rfl, hc 1 _ rfl, hc 2 _ rfl⟩

theorem allTaken_no {s : Nat → Bool} {n k : Nat} (hk : k < n) (h : s k = false) : allTaken s n = false := by
  unfold allTaken
  rw [decide_eq_false_iff_not]
  intro e
  rw [e k hk] at h
  cases h
theorem allTaken_yes {s : Nat → Bool} {n : Nat} (h : ∀ k, k < n → s k = true) : allTaken s n = true := decide_eq_true_iff.2 h

end Go.Proofs.Ytofjmakmbmndoaa
