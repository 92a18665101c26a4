/-
  DERIVED. GIVEN WITH THE SEED: THE CARDS: each row of YthhdfokcciibmaaDoorRows.lean that lists a variable, with what it lists TIED to the program's text (the seventh form; the later family's looks); each row that meets fmt, with fmt's text TOLD by the authors' own Lean function (tested against real Go, not proved from fmt's source: count such statements apart). THE CARD IS WHAT COUNTS. Prove the row's statement (the work); the ties are given (YthhdfokcciibmaaDoorTie.lean); close each card by the builder's one call (the guide's Derived/Test/ToyasCard.lean, 'card_holds'). Laid BY PROGRAM, IN A SANDBOX (cutbox-door.mjs). By AI agents, Wed Nov 11 2026. No macro, syntax, notation, axiom, sorry.
-/
import Derived.Test.YthhdfokcciibmaaDoorRows
import GoSem.ClaimSeven
namespace Go.Proofs.YthhdfokcciibmaaDoor
namespace Rows

/-- THE TIED CARD OF 'larchlaw08.ClassFinds'. -/
def classFindsCard : Claim7 := { stood := { row := classFindsRow, standIns := [], harness := (true, "4dfd0e72b49afef491600398b60ccf10ba8cda87389b54077401716554d8e66c"), looks := false }, kinds := [], alts := [], laidByText := true, laidKinds := [.data], laidTests := true, laidLooks := .later }
def ClassFindsCardSaid : Prop := Claim7.holds Tryd.pinned (.plain (OpenSpec.ofChange classFindsSpec)) classFindsCard

/-- THE TIED CARD OF 'larchlaw08.ClassCopies'. -/
def classCopiesCard : Claim7 := { stood := { row := classCopiesRow, standIns := [], harness := (true, "4dfd0e72b49afef491600398b60ccf10ba8cda87389b54077401716554d8e66c"), looks := false }, kinds := [], alts := [], laidByText := true, laidKinds := [.data], laidTests := true, laidLooks := .later }
def ClassCopiesCardSaid : Prop := Claim7.holds Tryd.pinned (.plain (OpenSpec.ofChange classCopiesSpec)) classCopiesCard

/-- THE SECOND FORM's CARD OF 'larchlaw08.ClassFinds'. -/
def classFindsUptoCard : Claim7 := { stood := { row := classFindsUptoRow, standIns := [], harness := (true, "4dfd0e72b49afef491600398b60ccf10ba8cda87389b54077401716554d8e66c"), looks := false }, kinds := [], alts := [], laidByText := true, laidKinds := [.data], laidTests := true, laidLooks := .later }
def ClassFindsUptoCardSaid : Prop := Claim7.holds Tryd.pinned (.plain (OpenSpec.upto classFindsSpec)) classFindsUptoCard

/-- THE SECOND FORM's CARD OF 'larchlaw08.ClassCopies'. -/
def classCopiesUptoCard : Claim7 := { stood := { row := classCopiesUptoRow, standIns := [], harness := (true, "4dfd0e72b49afef491600398b60ccf10ba8cda87389b54077401716554d8e66c"), looks := false }, kinds := [], alts := [], laidByText := true, laidKinds := [.data], laidTests := true, laidLooks := .later }
def ClassCopiesUptoCardSaid : Prop := Claim7.holds Tryd.pinned (.plain (OpenSpec.upto classCopiesSpec)) classCopiesUptoCard
end Rows
end Go.Proofs.YthhdfokcciibmaaDoor
