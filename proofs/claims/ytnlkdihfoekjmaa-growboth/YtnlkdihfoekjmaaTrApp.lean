/- An append under a name of its own; what is known of a type. -/
import Derived.Test.YtnlkdihfoekjmaaTrBase
import Derived.Lib.SmallJoins
import Derived.Below
import Derived.Laws.OwnMore
namespace Go.Proofs.Ytnlkdihfoekjmaa
open Go.RowKit
set_option linter.unusedVariables false

/-- An append, under a name that the walk does not open. -/
def AppS (ts : Array TypeId) (ty : TypeId) (args : Array Value) : Sem Value := Builtin.append_ ts ty args
theorem app_fold (ts : Array TypeId) (ty : TypeId) (args : Array Value) : Builtin.append_ ts ty args = AppS ts ty args := rfl

theorem info_partsW {P : Program} {t : TypeId} {z : Option Value} {a b : Nat} (h : (P.info? t).map (fun i => (i.zero, i.size, i.bytes)) = some (z, a, b)) : ∃ i, P.info? t = some i ∧ i.zero = z ∧ i.size = a ∧ i.bytes = b := by
  cases hi : P.info? t with
  | none => rw [hi] at h; cases h
  | some i => rw [hi] at h; simp only [Option.map_some, Option.some.injEq, Prod.mk.injEq] at h; exact ⟨i, rfl, h.1, h.2.1, h.2.2⟩

end Go.Proofs.Ytnlkdihfoekjmaa
