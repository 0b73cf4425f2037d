/- Numbers of all states in a row of one's own. No program is in it. (Parted from RClasses.) -/
import Derived.Test.YtcgkflddipflbaaLMath
import Derived.Test.YtcgkflddipflbaaRFval
import Derived.Test.YtcgkflddipflbaaJoins
import Derived.Test.YtcgkflddipflbaaTls
import Derived.Test.YtcgkflddipflbaaDRead
namespace Go.Proofs.Ytcgkflddipflbaa
open Go.RowKit
set_option linter.unusedVariables false

end Go.Proofs.Ytcgkflddipflbaa
