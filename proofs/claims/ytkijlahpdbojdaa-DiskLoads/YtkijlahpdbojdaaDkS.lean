/- The contract of Bytes: a copy of one's own. -/
import Derived.Test.YtkijlahpdbojdaaDkSureW
import Derived.Laws.AppendOwnNone
namespace Go.Proofs.Ytkijlahpdbojdaa
open Go.RowKit
set_option linter.unusedVariables false

end Go.Proofs.Ytkijlahpdbojdaa
