/- For all numbers of sectors, places, sizes and acts the law WalPlays returns true and changes nothing that was there: a log on any disk is formatted, opened, appended to, flushed and reset, whenever the power goes and whatever a crash keeps, just as the document says, sector by sector. Its one listed variable, the program's table of sums, starts as the program's text lays it. -/
import Derived.Test.YtkllnfnjgjlaeaaGreatDoorJs
import Derived.Test.YtkllnfnjgjlaeaaGreatDoorCards
import Derived.Test.YtkllnfnjgjlaeaaGreatDoorTie

namespace Go.Proofs.YtkllnfnjgjlaeaaGreatDoor
open Go.ChangeShapes Go.WideShapes Go.ChangeAt Go.RowKit
set_option linter.unusedVariables false

end Go.Proofs.YtkllnfnjgjlaeaaGreatDoor
#print axioms Go.Proofs.YtkllnfnjgjlaeaaGreatDoor.walPlays_holds
