/- Numbers of all states in a row of one's own. No program is in it. (Parted from RClasses.) -/
import Derived.Test.YtaangdomdeklhaaLBf
import Derived.Test.YtaangdomdeklhaaRFval
import Derived.Test.YtaangdomdeklhaaJoin
import Derived.Test.YtaangdomdeklhaaDTells
import Derived.Test.YtaangdomdeklhaaDRead
namespace Go.Proofs.Ytaangdomdeklhaa
open Go.RowKit
set_option linter.unusedVariables false

end Go.Proofs.Ytaangdomdeklhaa
