/- The chapter's examples as plain values. -/
import Derived.Test.YtpmhcignenfhgaaDoorJV

namespace Go.Proofs.YtpmhcignenfhgaaDoor
open Go.RowKit
set_option linter.unusedVariables false
set_option maxRecDepth 100000

def ex1 : List Ins := [⟨0, 4, 0, 0, []⟩, ⟨1, 172, 0, 0, []⟩]
def ex2 : List Ins := [⟨0, 167, 0, 0, []⟩]
theorem code_ex1 : codeP [4, 172] = some ex1 := by decide +kernel
theorem code_ex2 : codeP [167, 0, 0] = some ex2 := by decide +kernel
theorem all_ex1 : allW ex1 [] = [4, 172] := by decide +kernel
end Go.Proofs.YtpmhcignenfhgaaDoor
