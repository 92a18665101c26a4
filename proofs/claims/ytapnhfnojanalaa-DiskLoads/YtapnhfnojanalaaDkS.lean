/- The contract of Bytes: a copy of one's own. -/
import Derived.Test.YtapnhfnojanalaaDkSureW
import Derived.Laws.AppendOwnNone
namespace Go.Proofs.Ytapnhfnojanalaa
open Go.RowKit
set_option linter.unusedVariables false

end Go.Proofs.Ytapnhfnojanalaa
