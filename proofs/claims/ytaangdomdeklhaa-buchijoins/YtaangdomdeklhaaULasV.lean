/- A lasso as a value, and in a box. -/
import Derived.Test.YtaangdomdeklhaaGrow
namespace Go.Proofs.Ytaangdomdeklhaa
open Go.RowKit
set_option linter.unusedVariables false

/-- A lasso as a value. -/
abbrev lasV (ah : Option Addr) (nh ch : Nat) (al : Option Addr) (nl cl : Nat) : Value := .agg #[.slice ah nh ch, .slice al nl cl]
theorem boxL_new (w : World) (ah : Option Addr) (nh ch : Nat) (al : Option Addr) (nl cl : Nat) : ∃ W, W = w.alloc (.cells #[.slice ah nh ch, .slice al nl cl] 42) ∧ w.grownBy W none ∧ W.heap.size = w.heap.size + 1 ∧ ∀ W', W.grownBy W' none → W'.cell? ⟨w.heap.size, 0, none⟩ = some (.slice ah nh ch) ∧ W'.cell? ⟨w.heap.size, 1, none⟩ = some (.slice al nl cl) := by
  refine ⟨_, rfl, grown_alloc _ _, by simp, fun W' h => ?_⟩
  have hb := heap_alloc_new w (.cells #[.slice ah nh ch, .slice al nl cl] 42)
  have hc : ∀ k v, #[Value.slice ah nh ch, .slice al nl cl][k]? = some v → W'.cell? ⟨w.heap.size, k, none⟩ = some v := fun k v hv => h.cell (by rw [cell_of_row _ _ k _ _ (0, 0) hb]; exact hv) (by simp)
  exact ⟨hc 0 _ rfl, hc 1 _ rfl⟩

end Go.Proofs.Ytaangdomdeklhaa
