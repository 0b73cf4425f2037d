/- Rows put together (Join1), beside the words for 'Of'. -/
import Derived.Test.YtaangdomdeklhaaLOf
import Derived.Test.YtaangdomdeklhaaJoin1
namespace Go.Proofs.Ytaangdomdeklhaa
open Go.RowKit
set_option linter.unusedVariables false

end Go.Proofs.Ytaangdomdeklhaa
