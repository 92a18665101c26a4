/- SameEntries. -/
import Derived.Test.YtafipngdhgokeaaDoorJB

namespace Go.Proofs.YtafipngdhgokeaaDoor
open Go.RowKit
set_option linter.unusedVariables false

end Go.Proofs.YtafipngdhgokeaaDoor
