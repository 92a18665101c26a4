/- The contract of Bytes: a copy of one's own. -/
import Derived.Test.YtdejlghphepbaaaDkSureW
import Derived.Laws.AppendOwnNone
namespace Go.Proofs.Ytdejlghphepbaaa
open Go.RowKit
set_option linter.unusedVariables false

end Go.Proofs.Ytdejlghphepbaaa
