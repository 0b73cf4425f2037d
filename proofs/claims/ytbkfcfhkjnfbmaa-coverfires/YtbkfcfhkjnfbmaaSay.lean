/- What calls answer, in a word. -/
import Derived.Test.YtbkfcfhkjnfbmaaGrow
namespace Go.Proofs.Ytbkfcfhkjnfbmaa
set_option linter.unusedVariables false

/-- A call that answers a known value and writes nothing that was there. -/
def Says (v : Value) (w : World) (e : Ending) (w' : World) : Prop := e = .returned v ∧ w.grownBy w' none

end Go.Proofs.Ytbkfcfhkjnfbmaa
