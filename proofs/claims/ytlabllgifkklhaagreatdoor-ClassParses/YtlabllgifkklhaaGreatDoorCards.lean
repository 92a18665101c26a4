/-
  DERIVED. GIVEN WITH THE SEED: THE CARDS: each row of YtlabllgifkklhaaGreatDoorRows.lean that lists a variable, with what it lists TIED to the program's text (the seventh form; the later family's looks); each row that meets fmt, with fmt's text TOLD by the authors' own Lean function (tested against real Go, not proved from fmt's source: count such statements apart). THE CARD IS WHAT COUNTS. Prove the row's statement (the work); the ties are given (YtlabllgifkklhaaGreatDoorTie.lean); close each card by the builder's one call (the guide's Derived/Test/ToyasCard.lean, 'card_holds'). Laid BY PROGRAM, IN A SANDBOX (cutbox-door.mjs). By AI agents, Wed Nov 11 2026. No macro, syntax, notation, axiom, sorry.
-/
import Derived.Test.YtlabllgifkklhaaGreatDoorRows
import GoSem.ClaimSeven
namespace Go.Proofs.YtlabllgifkklhaaGreatDoor
namespace Rows

/-- THE TIED CARD OF 'larchlaw08.ClassPrints'. -/
def classPrintsCard : Claim7 := { stood := { row := classPrintsRow, standIns := [], harness := (true, "41b7d89a2887c73f52c06db8e0016344d7b09b5999fc60a8b4200c2188f2907a"), looks := false }, kinds := [], alts := [], laidByText := true, laidKinds := [.data], laidTests := true, laidLooks := .later }
def ClassPrintsCardSaid : Prop := Claim7.holds Tryz.pinned (.plain (OpenSpec.ofChange classPrintsSpec)) classPrintsCard

/-- THE TIED CARD OF 'larchlaw08.ClassParses'. -/
def classParsesCard : Claim7 := { stood := { row := classParsesRow, standIns := [], harness := (true, "41b7d89a2887c73f52c06db8e0016344d7b09b5999fc60a8b4200c2188f2907a"), looks := false }, kinds := [], alts := [], laidByText := true, laidKinds := [.data], laidTests := true, laidLooks := .later }
def ClassParsesCardSaid : Prop := Claim7.holds Tryz.pinned (.plain (OpenSpec.ofChange classParsesSpec)) classParsesCard

/-- THE TIED CARD OF 'larchlaw08.ClassBack'. -/
def classBackCard : Claim7 := { stood := { row := classBackRow, standIns := [], harness := (true, "41b7d89a2887c73f52c06db8e0016344d7b09b5999fc60a8b4200c2188f2907a"), looks := false }, kinds := [], alts := [], laidByText := true, laidKinds := [.data], laidTests := true, laidLooks := .later }
def ClassBackCardSaid : Prop := Claim7.holds Tryz.pinned (.plain (OpenSpec.ofChange classBackSpec)) classBackCard

/-- THE TIED CARD OF 'larchlaw08.ClassCuts'. -/
def classCutsCard : Claim7 := { stood := { row := classCutsRow, standIns := [], harness := (true, "41b7d89a2887c73f52c06db8e0016344d7b09b5999fc60a8b4200c2188f2907a"), looks := false }, kinds := [], alts := [], laidByText := true, laidKinds := [.data], laidTests := true, laidLooks := .later }
def ClassCutsCardSaid : Prop := Claim7.holds Tryz.pinned (.plain (OpenSpec.ofChange classCutsSpec)) classCutsCard

/-- THE SECOND FORM's CARD OF 'larchlaw08.ClassPrints'. -/
def classPrintsUptoCard : Claim7 := { stood := { row := classPrintsUptoRow, standIns := [], harness := (true, "41b7d89a2887c73f52c06db8e0016344d7b09b5999fc60a8b4200c2188f2907a"), looks := false }, kinds := [], alts := [], laidByText := true, laidKinds := [.data], laidTests := true, laidLooks := .later }
def ClassPrintsUptoCardSaid : Prop := Claim7.holds Tryz.pinned (.plain (OpenSpec.upto classPrintsSpec)) classPrintsUptoCard

/-- THE SECOND FORM's CARD OF 'larchlaw08.ClassParses'. -/
def classParsesUptoCard : Claim7 := { stood := { row := classParsesUptoRow, standIns := [], harness := (true, "41b7d89a2887c73f52c06db8e0016344d7b09b5999fc60a8b4200c2188f2907a"), looks := false }, kinds := [], alts := [], laidByText := true, laidKinds := [.data], laidTests := true, laidLooks := .later }
def ClassParsesUptoCardSaid : Prop := Claim7.holds Tryz.pinned (.plain (OpenSpec.upto classParsesSpec)) classParsesUptoCard

/-- THE SECOND FORM's CARD OF 'larchlaw08.ClassBack'. -/
def classBackUptoCard : Claim7 := { stood := { row := classBackUptoRow, standIns := [], harness := (true, "41b7d89a2887c73f52c06db8e0016344d7b09b5999fc60a8b4200c2188f2907a"), looks := false }, kinds := [], alts := [], laidByText := true, laidKinds := [.data], laidTests := true, laidLooks := .later }
def ClassBackUptoCardSaid : Prop := Claim7.holds Tryz.pinned (.plain (OpenSpec.upto classBackSpec)) classBackUptoCard

/-- THE SECOND FORM's CARD OF 'larchlaw08.ClassCuts'. -/
def classCutsUptoCard : Claim7 := { stood := { row := classCutsUptoRow, standIns := [], harness := (true, "41b7d89a2887c73f52c06db8e0016344d7b09b5999fc60a8b4200c2188f2907a"), looks := false }, kinds := [], alts := [], laidByText := true, laidKinds := [.data], laidTests := true, laidLooks := .later }
def ClassCutsUptoCardSaid : Prop := Claim7.holds Tryz.pinned (.plain (OpenSpec.upto classCutsSpec)) classCutsUptoCard
end Rows
end Go.Proofs.YtlabllgifkklhaaGreatDoor
