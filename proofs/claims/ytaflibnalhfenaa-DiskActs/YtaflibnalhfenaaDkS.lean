/- The contract of Bytes: a copy of one's own. -/
import Derived.Test.YtaflibnalhfenaaDkSureW
import Derived.Laws.AppendOwnNone
namespace Go.Proofs.Ytaflibnalhfenaa
open Go.RowKit
set_option linter.unusedVariables false

end Go.Proofs.Ytaflibnalhfenaa
