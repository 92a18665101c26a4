/- The contract of Bytes: a copy of one's own. -/
import Derived.Test.YtncoedcofgmheaaDkSureW
import Derived.Laws.AppendOwnNone
namespace Go.Proofs.Ytncoedcofgmheaa
open Go.RowKit
set_option linter.unusedVariables false

end Go.Proofs.Ytncoedcofgmheaa
