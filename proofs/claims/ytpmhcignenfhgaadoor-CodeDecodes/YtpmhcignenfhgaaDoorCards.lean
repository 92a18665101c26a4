/-
  DERIVED. GIVEN WITH THE SEED: THE CARDS: each row of YtpmhcignenfhgaaDoorRows.lean that lists a variable, with what it lists TIED to the program's text (the seventh form; the later family's looks); each row that meets fmt, with fmt's text TOLD by the authors' own Lean function (tested against real Go, not proved from fmt's source: count such statements apart). THE CARD IS WHAT COUNTS. Prove the row's statement (the work); the ties are given (YtpmhcignenfhgaaDoorTie.lean); close each card by the builder's one call (the guide's Derived/Test/ToyasCard.lean, 'card_holds'). Laid BY PROGRAM, IN A SANDBOX (cutbox-door.mjs). By AI agents, Wed Nov 11 2026. No macro, syntax, notation, axiom, sorry.
-/
import Derived.Test.YtpmhcignenfhgaaDoorRows
import GoSem.ClaimSeven
namespace Go.Proofs.YtpmhcignenfhgaaDoor
namespace Rows

/-- THE TIED CARD OF 'larchlaw09.CodeDecodes'. -/
def codeDecodesCard : Claim7 := { stood := { row := codeDecodesRow, standIns := [], harness := (true, "67701110c99e631cbe6f23d25b676815189c8acc1a3072ac956db74c8959d42a"), looks := false }, kinds := [], alts := [], laidByText := true, laidKinds := [.data, .data], laidTests := true, laidLooks := .later }
def CodeDecodesCardSaid : Prop := Claim7.holds Tryd.pinned (.plain (OpenSpec.ofChange codeDecodesSpec)) codeDecodesCard

/-- THE TIED CARD OF 'larchlaw09.CodeEncodes'. -/
def codeEncodesCard : Claim7 := { stood := { row := codeEncodesRow, standIns := [], harness := (true, "67701110c99e631cbe6f23d25b676815189c8acc1a3072ac956db74c8959d42a"), looks := false }, kinds := [], alts := [], laidByText := true, laidKinds := [.data, .data], laidTests := true, laidLooks := .later }
def CodeEncodesCardSaid : Prop := Claim7.holds Tryd.pinned (.plain (OpenSpec.ofChange codeEncodesSpec)) codeEncodesCard

/-- THE TIED CARD OF 'larchlaw09.CodeTells'. -/
def codeTellsCard : Claim7 := { stood := { row := codeTellsRow, standIns := [], harness := (true, "67701110c99e631cbe6f23d25b676815189c8acc1a3072ac956db74c8959d42a"), looks := false }, kinds := [], alts := [], laidByText := true, laidKinds := [.data, .data], laidTests := true, laidLooks := .later }
def CodeTellsCardSaid : Prop := Claim7.holds Tryd.pinned (.plain (OpenSpec.ofChange codeTellsSpec)) codeTellsCard

/-- THE TIED CARD OF 'larchlaw09.CodeBack'. -/
def codeBackCard : Claim7 := { stood := { row := codeBackRow, standIns := [], harness := (true, "67701110c99e631cbe6f23d25b676815189c8acc1a3072ac956db74c8959d42a"), looks := false }, kinds := [], alts := [], laidByText := true, laidKinds := [.data, .data], laidTests := true, laidLooks := .later }
def CodeBackCardSaid : Prop := Claim7.holds Tryd.pinned (.plain (OpenSpec.ofChange codeBackSpec)) codeBackCard

/-- THE TIED CARD OF 'larchlaw09.CodeFronts'. -/
def codeFrontsCard : Claim7 := { stood := { row := codeFrontsRow, standIns := [], harness := (true, "67701110c99e631cbe6f23d25b676815189c8acc1a3072ac956db74c8959d42a"), looks := false }, kinds := [], alts := [], laidByText := true, laidKinds := [.data, .data], laidTests := true, laidLooks := .later }
def CodeFrontsCardSaid : Prop := Claim7.holds Tryd.pinned (.plain (OpenSpec.ofChange codeFrontsSpec)) codeFrontsCard

/-- THE TIED CARD OF 'larchlaw09.CodePlain'. -/
def codePlainCard : Claim7 := { stood := { row := codePlainRow, standIns := [], harness := (true, "67701110c99e631cbe6f23d25b676815189c8acc1a3072ac956db74c8959d42a"), looks := false }, kinds := [], alts := [], laidByText := true, laidKinds := [.data, .data], laidTests := true, laidLooks := .later }
def CodePlainCardSaid : Prop := Claim7.holds Tryd.pinned (.plain (OpenSpec.ofChange codePlainSpec)) codePlainCard

/-- THE SECOND FORM's CARD OF 'larchlaw09.CodeDecodes'. -/
def codeDecodesUptoCard : Claim7 := { stood := { row := codeDecodesUptoRow, standIns := [], harness := (true, "67701110c99e631cbe6f23d25b676815189c8acc1a3072ac956db74c8959d42a"), looks := false }, kinds := [], alts := [], laidByText := true, laidKinds := [.data, .data], laidTests := true, laidLooks := .later }
def CodeDecodesUptoCardSaid : Prop := Claim7.holds Tryd.pinned (.plain (OpenSpec.upto codeDecodesSpec)) codeDecodesUptoCard

/-- THE SECOND FORM's CARD OF 'larchlaw09.CodeEncodes'. -/
def codeEncodesUptoCard : Claim7 := { stood := { row := codeEncodesUptoRow, standIns := [], harness := (true, "67701110c99e631cbe6f23d25b676815189c8acc1a3072ac956db74c8959d42a"), looks := false }, kinds := [], alts := [], laidByText := true, laidKinds := [.data, .data], laidTests := true, laidLooks := .later }
def CodeEncodesUptoCardSaid : Prop := Claim7.holds Tryd.pinned (.plain (OpenSpec.upto codeEncodesSpec)) codeEncodesUptoCard

/-- THE SECOND FORM's CARD OF 'larchlaw09.CodeTells'. -/
def codeTellsUptoCard : Claim7 := { stood := { row := codeTellsUptoRow, standIns := [], harness := (true, "67701110c99e631cbe6f23d25b676815189c8acc1a3072ac956db74c8959d42a"), looks := false }, kinds := [], alts := [], laidByText := true, laidKinds := [.data, .data], laidTests := true, laidLooks := .later }
def CodeTellsUptoCardSaid : Prop := Claim7.holds Tryd.pinned (.plain (OpenSpec.upto codeTellsSpec)) codeTellsUptoCard

/-- THE SECOND FORM's CARD OF 'larchlaw09.CodeBack'. -/
def codeBackUptoCard : Claim7 := { stood := { row := codeBackUptoRow, standIns := [], harness := (true, "67701110c99e631cbe6f23d25b676815189c8acc1a3072ac956db74c8959d42a"), looks := false }, kinds := [], alts := [], laidByText := true, laidKinds := [.data, .data], laidTests := true, laidLooks := .later }
def CodeBackUptoCardSaid : Prop := Claim7.holds Tryd.pinned (.plain (OpenSpec.upto codeBackSpec)) codeBackUptoCard

/-- THE SECOND FORM's CARD OF 'larchlaw09.CodeFronts'. -/
def codeFrontsUptoCard : Claim7 := { stood := { row := codeFrontsUptoRow, standIns := [], harness := (true, "67701110c99e631cbe6f23d25b676815189c8acc1a3072ac956db74c8959d42a"), looks := false }, kinds := [], alts := [], laidByText := true, laidKinds := [.data, .data], laidTests := true, laidLooks := .later }
def CodeFrontsUptoCardSaid : Prop := Claim7.holds Tryd.pinned (.plain (OpenSpec.upto codeFrontsSpec)) codeFrontsUptoCard

/-- THE SECOND FORM's CARD OF 'larchlaw09.CodePlain'. -/
def codePlainUptoCard : Claim7 := { stood := { row := codePlainUptoRow, standIns := [], harness := (true, "67701110c99e631cbe6f23d25b676815189c8acc1a3072ac956db74c8959d42a"), looks := false }, kinds := [], alts := [], laidByText := true, laidKinds := [.data, .data], laidTests := true, laidLooks := .later }
def CodePlainUptoCardSaid : Prop := Claim7.holds Tryd.pinned (.plain (OpenSpec.upto codePlainSpec)) codePlainUptoCard
end Rows
end Go.Proofs.YtpmhcignenfhgaaDoor
