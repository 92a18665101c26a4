/- Classes held against one another: SameMaps, SameClass. -/
import Derived.Test.YtafipngdhgokeaaDoorJClD
import Derived.Test.YtafipngdhgokeaaDoorJB

namespace Go.Proofs.YtafipngdhgokeaaDoor
open Go.RowKit
set_option linter.unusedVariables false
set_option maxRecDepth 100000

end Go.Proofs.YtafipngdhgokeaaDoor
