/-
  DERIVED. GIVEN WITH THE SEED: THE CARDS: each row of YtfggahkimconfaaDoorRows.lean that lists a variable, with what it lists TIED to the program's text (the seventh form; the later family's looks); each row that meets fmt, with fmt's text TOLD by the authors' own Lean function (tested against real Go, not proved from fmt's source: count such statements apart). THE CARD IS WHAT COUNTS. Prove the row's statement (the work); the ties are given (YtfggahkimconfaaDoorTie.lean); close each card by the builder's one call (the guide's Derived/Test/ToyasCard.lean, 'card_holds'). Laid BY PROGRAM, IN A SANDBOX (cutbox-door.mjs). By AI agents, Wed Nov 11 2026. No macro, syntax, notation, axiom, sorry.
-/
import Derived.Test.YtfggahkimconfaaDoorRows
import GoSem.ClaimSeven
namespace Go.Proofs.YtfggahkimconfaaDoor
namespace Rows

/-- THE TIED CARD OF 'larchlaw04.WalResets'. -/
def walResetsCard : Claim7 := { stood := { row := walResetsRow, standIns := [], harness := (true, "1cda245ececa57049be4a486db6c66326a215ed846947cc12be01de041904965"), looks := false }, kinds := [], alts := [], laidByText := true, laidKinds := [.data], laidTests := true, laidLooks := .later }
def WalResetsCardSaid : Prop := Claim7.holds Tryd.pinned (.plain (OpenSpec.ofChange walResetsSpec)) walResetsCard

/-- THE TIED CARD OF 'larchlaw04.WalRooms'. -/
def walRoomsCard : Claim7 := { stood := { row := walRoomsRow, standIns := [], harness := (true, "1cda245ececa57049be4a486db6c66326a215ed846947cc12be01de041904965"), looks := false }, kinds := [], alts := [], laidByText := true, laidKinds := [.data], laidTests := true, laidLooks := .later }
def WalRoomsCardSaid : Prop := Claim7.holds Tryd.pinned (.plain (OpenSpec.ofChange walRoomsSpec)) walRoomsCard

/-- THE TIED CARD OF 'larchlaw04.WalVoid'. -/
def walVoidCard : Claim7 := { stood := { row := walVoidRow, standIns := [], harness := (true, "1cda245ececa57049be4a486db6c66326a215ed846947cc12be01de041904965"), looks := false }, kinds := [], alts := [], laidByText := true, laidKinds := [.data], laidTests := true, laidLooks := .later }
def WalVoidCardSaid : Prop := Claim7.holds Tryd.pinned (.plain (OpenSpec.ofChange walVoidSpec)) walVoidCard

/-- THE SECOND FORM's CARD OF 'larchlaw04.WalResets'. -/
def walResetsUptoCard : Claim7 := { stood := { row := walResetsUptoRow, standIns := [], harness := (true, "1cda245ececa57049be4a486db6c66326a215ed846947cc12be01de041904965"), looks := false }, kinds := [], alts := [], laidByText := true, laidKinds := [.data], laidTests := true, laidLooks := .later }
def WalResetsUptoCardSaid : Prop := Claim7.holds Tryd.pinned (.plain (OpenSpec.upto walResetsSpec)) walResetsUptoCard

/-- THE SECOND FORM's CARD OF 'larchlaw04.WalRooms'. -/
def walRoomsUptoCard : Claim7 := { stood := { row := walRoomsUptoRow, standIns := [], harness := (true, "1cda245ececa57049be4a486db6c66326a215ed846947cc12be01de041904965"), looks := false }, kinds := [], alts := [], laidByText := true, laidKinds := [.data], laidTests := true, laidLooks := .later }
def WalRoomsUptoCardSaid : Prop := Claim7.holds Tryd.pinned (.plain (OpenSpec.upto walRoomsSpec)) walRoomsUptoCard

/-- THE SECOND FORM's CARD OF 'larchlaw04.WalVoid'. -/
def walVoidUptoCard : Claim7 := { stood := { row := walVoidUptoRow, standIns := [], harness := (true, "1cda245ececa57049be4a486db6c66326a215ed846947cc12be01de041904965"), looks := false }, kinds := [], alts := [], laidByText := true, laidKinds := [.data], laidTests := true, laidLooks := .later }
def WalVoidUptoCardSaid : Prop := Claim7.holds Tryd.pinned (.plain (OpenSpec.upto walVoidSpec)) walVoidUptoCard
end Rows
end Go.Proofs.YtfggahkimconfaaDoor
