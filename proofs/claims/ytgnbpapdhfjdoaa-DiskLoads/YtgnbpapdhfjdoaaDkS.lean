/- The contract of Bytes: a copy of one's own. -/
import Derived.Test.YtgnbpapdhfjdoaaDkSureW
import Derived.Laws.AppendOwnNone
namespace Go.Proofs.Ytgnbpapdhfjdoaa
open Go.RowKit
set_option linter.unusedVariables false

end Go.Proofs.Ytgnbpapdhfjdoaa
