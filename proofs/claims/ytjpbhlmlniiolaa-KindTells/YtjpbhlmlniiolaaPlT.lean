/- SameEntries. -/
import Derived.Test.YtjpbhlmlniiolaaPlO
namespace Go.Proofs.Ytjpbhlmlniiolaa
open Go.RowKit
set_option linter.unusedVariables false

end Go.Proofs.Ytjpbhlmlniiolaa
