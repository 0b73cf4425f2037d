/- Rows that are there, as values and as what they hold. -/
import Derived.Test.YtbkfcfhkjnfbmaaLOwn
import Derived.Test.YtbkfcfhkjnfbmaaDRows
namespace Go.Proofs.Ytbkfcfhkjnfbmaa
open Go.RowKit
set_option linter.unusedVariables false

/-- Rows that are there, as values and as what they hold. -/
abbrev rowItems (rs : List (Value × List Int)) : List Item := rs.map fun p => (3, p.1, vals p.2)
abbrev natInts (xs : List Nat) : List Int := xs.map fun (x : Nat) => (x : Int)
theorem natInts_get {xs : List Nat} {i : Nat} (h : i < xs.length) : (vals (natInts xs))[i]? = some (.int .i64 ((xs.getD i 0 : Nat) : Int)) := by simp [vals, List.getD, h]

theorem Try.info3i : (Try.prog.info? 3).map (fun i => (i.zero, i.size, i.bytes)) = some (some (.int .i64 0), 1, 8) := by kernel_rfl
theorem Try.infoS : (Try.prog.info? 25).map (fun i => (i.zero, i.size, i.bytes)) = some (some (.slice none 0 0), 1, 24) := by kernel_rfl
theorem cell_one_new (w : World) (u : Value) (t : TypeId) : ∀ j x, [u][j]? = some x → (w.alloc (.cells #[u] t)).cell? ((⟨w.heap.size, 0, none⟩ : Addr).add j) = some x := by
  intro j x hj
  have hb := heap_alloc_new w (.cells #[u] t)
  have h0 : j = 0 := by
    cases j with
    | zero => rfl
    | succ j => simp at hj
  subst h0
  rw [addr_add, cell_of_row _ _ _ _ _ (0, 0) hb]
  simpa using hj

end Go.Proofs.Ytbkfcfhkjnfbmaa
