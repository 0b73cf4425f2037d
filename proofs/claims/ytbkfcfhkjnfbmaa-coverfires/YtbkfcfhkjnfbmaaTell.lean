/- A truth that is told. -/
import Derived.Test.YtbkfcfhkjnfbmaaDRows
namespace Go.Proofs.Ytbkfcfhkjnfbmaa
open Go.RowKit
set_option linter.unusedVariables false

/-- A truth is told, and nothing old has turned. -/
def TellsB (P : Prop) (w : World) (e : Ending) (w' : World) : Prop := ∃ b, e = .returned (.bool b) ∧ (b = true ↔ P) ∧ w.grownBy w' none
theorem tellsB {P : Prop} {w w' : World} {e : Ending} (b : Bool) (he : e = .returned (.bool b)) (hb : b = true ↔ P) (hg : w.grownBy w' none) : TellsB P w e w' := ⟨b, he, hb, hg⟩

end Go.Proofs.Ytbkfcfhkjnfbmaa
