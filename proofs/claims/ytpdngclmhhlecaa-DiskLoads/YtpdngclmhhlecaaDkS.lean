/- The contract of Bytes: a copy of one's own. -/
import Derived.Test.YtpdngclmhhlecaaDkSureW
import Derived.Laws.AppendOwnNone
namespace Go.Proofs.Ytpdngclmhhlecaa
open Go.RowKit
set_option linter.unusedVariables false

end Go.Proofs.Ytpdngclmhhlecaa
