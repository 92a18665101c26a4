/- Joined: PkG PkH PkI PkJ PkK. -/
import Derived.Test.YtlabllgifkklhaaGreatDoorJP14
import Derived.Test.YtlabllgifkklhaaGreatDoorJP10
import Derived.Maps.OwnSet
set_option linter.unusedVariables false
set_option maxRecDepth 100000
namespace Go.Proofs.YtlabllgifkklhaaGreatDoor
open Go.RowKit
end Go.Proofs.YtlabllgifkklhaaGreatDoor
namespace Go.Proofs.YtlabllgifkklhaaGreatDoor
open Go.RowKit Go.Maps
end Go.Proofs.YtlabllgifkklhaaGreatDoor
namespace Go.Proofs.YtlabllgifkklhaaGreatDoor
open Go.RowKit Go.Maps
end Go.Proofs.YtlabllgifkklhaaGreatDoor
namespace Go.Proofs.YtlabllgifkklhaaGreatDoor
open Go.RowKit Go.Maps
end Go.Proofs.YtlabllgifkklhaaGreatDoor
