/- Layer 15, the document's side: Set (written by mk/mkhqc.py). -/
import Derived.Test.YtnnanlniffjnkaaJX3
import Derived.Test.YtnnanlniffjnkaaJHqD
import Derived.Test.YtnnanlniffjnkaaJHpS

namespace Go.Proofs.Ytnnanlniffjnkaa
open Go.RowKit
set_option linter.unusedVariables false
set_option maxRecDepth 100000

end Go.Proofs.Ytnnanlniffjnkaa
