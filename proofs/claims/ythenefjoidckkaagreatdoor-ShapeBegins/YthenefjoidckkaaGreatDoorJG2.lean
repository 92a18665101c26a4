/- Joined: CgJp CgI CgJ. -/
import Derived.Test.YthenefjoidckkaaGreatDoorJU1
import Derived.Test.YthenefjoidckkaaGreatDoorJS8

/- The chapter's examples as plain values. -/
namespace Go.Proofs.YthenefjoidckkaaGreatDoor
open Go.RowKit
set_option linter.unusedVariables false
set_option maxRecDepth 100000

end Go.Proofs.YthenefjoidckkaaGreatDoor

/- Two lists of instructions, of numbers, held against one another by the laws: the same. -/
namespace Go.Proofs.YthenefjoidckkaaGreatDoor
open Go.RowKit
set_option linter.unusedVariables false
set_option maxRecDepth 100000

end Go.Proofs.YthenefjoidckkaaGreatDoor

/- The chapter's examples work. -/
namespace Go.Proofs.YthenefjoidckkaaGreatDoor
open Go.RowKit
set_option linter.unusedVariables false
set_option maxRecDepth 100000

theorem InsOk.few {w : World} {base : Nat} {rs : List InR} (h : ∀ r ∈ rs, InsOk w base r) : sizesR rs ≤ rs.length * 2064 := by
  induction rs with
  | nil => exact Nat.zero_le _
  | cons r rs ih =>
    have h1 := ih fun r' hr' => h r' (List.mem_cons_of_mem _ hr')
    have h2 := h r (List.mem_cons_self ..)
    have h3 := h2.ls.1.1
    have h4 := h2.fit.2.2.2.2.2
    unfold sizesR at *
    simp only [List.map_cons, List.sum_cons, List.length_cons]
    omega
end Go.Proofs.YthenefjoidckkaaGreatDoor
