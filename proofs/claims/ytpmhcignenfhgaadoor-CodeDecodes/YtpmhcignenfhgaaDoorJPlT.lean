/- SameEntries. -/
import Derived.Test.YtpmhcignenfhgaaDoorJB

namespace Go.Proofs.YtpmhcignenfhgaaDoor
open Go.RowKit
set_option linter.unusedVariables false

end Go.Proofs.YtpmhcignenfhgaaDoor
