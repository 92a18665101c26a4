/- The contract of Bytes: a copy of one's own. -/
import Derived.Test.YtnmjihgddlflkaaDkSureW
import Derived.Laws.AppendOwnNone
namespace Go.Proofs.Ytnmjihgddlflkaa
open Go.RowKit
set_option linter.unusedVariables false

end Go.Proofs.Ytnmjihgddlflkaa
