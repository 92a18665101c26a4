/- SameEntries. -/
import Derived.Test.YtjpbhlmlniiolaaJB

namespace Go.Proofs.Ytjpbhlmlniiolaa
open Go.RowKit
set_option linter.unusedVariables false

end Go.Proofs.Ytjpbhlmlniiolaa
