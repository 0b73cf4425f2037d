/- An append under a name; numbers in a row. (Parted from YConcat.) -/
import Derived.Test.YtbkfcfhkjnfbmaaSay
import Derived.Lib.AppendZeros
import Derived.Laws.OwnMore
import Derived.LoopN
namespace Go.Proofs.Ytbkfcfhkjnfbmaa
open Go.RowKit
set_option linter.unusedVariables false
set_option linter.unusedSimpArgs false

/-- An append, under a name that the walk does not open. -/
def AppY (ts : Array TypeId) (ty : TypeId) (args : Array Value) : Sem Value := Builtin.append_ ts ty args
theorem appY_fold (ts : Array TypeId) (ty : TypeId) (args : Array Value) : Builtin.append_ ts ty args = AppY ts ty args := rfl
theorem info_partsY {P : Program} {t : TypeId} {z : Option Value} {a b : Nat} (h : (P.info? t).map (fun i => (i.zero, i.size, i.bytes)) = some (z, a, b)) : ∃ i, P.info? t = some i ∧ i.zero = z ∧ i.size = a ∧ i.bytes = b := by
  cases hi : P.info? t with
  | none => rw [hi] at h; cases h
  | some i => rw [hi] at h; simp only [Option.map_some, Option.some.injEq, Prod.mk.injEq] at h; exact ⟨i, rfl, h.1, h.2.1, h.2.2⟩
theorem Try.infoI64Y : (Try.prog.info? 3).map (fun i => (i.zero, i.size, i.bytes)) = some (some (.int .i64 0), 1, 8) := by kernel_rfl
def numsI (zs : List Int) : List Value := zs.map fun x => Value.int .i64 x

end Go.Proofs.Ytbkfcfhkjnfbmaa
