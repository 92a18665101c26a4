/- Joined: PkK PkL PkM PkN. -/
import Derived.Test.YtdcoknnjgpdigaaGreatDoorJP17
import Derived.Test.YtdcoknnjgpdigaaGreatDoorJP3
import Derived.Test.YtdcoknnjgpdigaaGreatDoorJP2

/- The landed pool: a pool that grows: number, of a class, of a name, of a number. -/
namespace Go.Proofs.YtdcoknnjgpdigaaGreatDoor
open Go.RowKit Go.Maps
set_option linter.unusedVariables false

end Go.Proofs.YtdcoknnjgpdigaaGreatDoor

/- The landed pool: a pool that grows: number, of a field, of a method. -/
namespace Go.Proofs.YtdcoknnjgpdigaaGreatDoor
open Go.RowKit Go.Maps
set_option linter.unusedVariables false

end Go.Proofs.YtdcoknnjgpdigaaGreatDoor

/- The landed pool: growingFrom. -/
namespace Go.Proofs.YtdcoknnjgpdigaaGreatDoor
open Go.RowKit Go.Maps
set_option linter.unusedVariables false

end Go.Proofs.YtdcoknnjgpdigaaGreatDoor

/- The landed pool: Put. -/
namespace Go.Proofs.YtdcoknnjgpdigaaGreatDoor
open Go.RowKit Go.Maps
set_option linter.unusedVariables false

end Go.Proofs.YtdcoknnjgpdigaaGreatDoor
