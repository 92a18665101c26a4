/- Classes held against one another: SameMaps, SameClass. -/
import Derived.Test.YtpmhcignenfhgaaDoorJClD
import Derived.Test.YtpmhcignenfhgaaDoorJB

namespace Go.Proofs.YtpmhcignenfhgaaDoor
open Go.RowKit
set_option linter.unusedVariables false
set_option maxRecDepth 100000

end Go.Proofs.YtpmhcignenfhgaaDoor
