/- SameEntries. -/
import Derived.Test.YtjhiflhmefhogaaPlO
namespace Go.Proofs.Ytjhiflhmefhogaa
open Go.RowKit
set_option linter.unusedVariables false

end Go.Proofs.Ytjhiflhmefhogaa
