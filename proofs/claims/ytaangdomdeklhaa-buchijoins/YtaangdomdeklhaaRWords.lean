/- Whether two words are one (RWord1), beside automata. -/
import Derived.Test.YtaangdomdeklhaaDTells
import Derived.Test.YtaangdomdeklhaaJoin
import Derived.Test.YtaangdomdeklhaaRWord1
namespace Go.Proofs.Ytaangdomdeklhaa
open Go.RowKit
set_option linter.unusedVariables false

end Go.Proofs.Ytaangdomdeklhaa
