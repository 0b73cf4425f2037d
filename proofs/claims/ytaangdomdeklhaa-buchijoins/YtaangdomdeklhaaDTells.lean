/- A truth that is told. -/
import Derived.Test.YtaangdomdeklhaaDBase
import Derived.Test.YtaangdomdeklhaaTell
namespace Go.Proofs.Ytaangdomdeklhaa
open Go.RowKit
set_option linter.unusedVariables false

def Shaped (L : Int) (R : List (List Int)) (M : List Int) : Prop := M.length = R.length ∧ ∀ i, i < R.length → ((R.getD i []).length : Int) = L

theorem box4 {w wr : World} {v0 v1 v2 v3 : Value} {t : TypeId} (h : (w.alloc (.cells #[v0, v1, v2, v3] t)).grownBy wr none) :
    wr.cell? ⟨w.heap.size, 0, none⟩ = some v0 ∧ wr.cell? ⟨w.heap.size, 1, none⟩ = some v1 ∧ wr.cell? ⟨w.heap.size, 2, none⟩ = some v2 ∧ wr.cell? ⟨w.heap.size, 3, none⟩ = some v3 := by
  have hb := heap_alloc_new w (.cells #[v0, v1, v2, v3] t)
  have hc : ∀ k v, #[v0, v1, v2, v3][k]? = some v → wr.cell? ⟨w.heap.size, k, none⟩ = some v := fun k v hv => h.cell (by rw [cell_of_row _ _ k _ _ (0, 0) hb]; exact hv) (by simp)
  exact ⟨hc 0 _ rfl, hc 1 _ rfl, hc 2 _ rfl, hc 3 _ rfl⟩

end Go.Proofs.Ytaangdomdeklhaa
