/- SameEntries. -/
import Derived.Test.YtjhiflhmefhogaaJB

namespace Go.Proofs.Ytjhiflhmefhogaa
open Go.RowKit
set_option linter.unusedVariables false

end Go.Proofs.Ytjhiflhmefhogaa
