/- The document's Print, whole. -/
import Derived.Test.YtlabllgifkklhaaGreatDoorJGrJ
import Derived.Test.YtlabllgifkklhaaGreatDoorJP27
set_option linter.unusedVariables false
set_option maxRecDepth 100000
namespace Go.Proofs.YtlabllgifkklhaaGreatDoor
open Go.RowKit
theorem gPrintOk:GPrintOk:=fun w r hC hl=>by
 by_cases h:checkP r.c.pool=true∧r.c.fields.length≤256∧r.c.methods.length≤256
 · exact gPrint_yes w r r.c rfl _ (hide rfl) hC hl h.1 h.2.1 h.2.2
 · exact gPrint_no w r hC h
end Go.Proofs.YtlabllgifkklhaaGreatDoor
