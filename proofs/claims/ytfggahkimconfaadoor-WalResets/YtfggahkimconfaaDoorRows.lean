/-
  NARROWER THAN 'FOR EVERY INPUT', by the rows' own cells (each row's printed sentence says how): WalResets: laid · WalRooms: laid · WalVoid: laid.
  DERIVED. THE GIVEN ROWS OF THIS SEAT. 3 by the template 'for every input the law returns true; each argument reads behind the call as it read before'; 0 by the template 'total and deterministic' (their statements: YtfggahkimconfaaDoorTotals.lean).
  GIVEN WITH THE SEED: the statements are not yours to turn. If you find one false, say at which input.
  Laid BY PROGRAM, IN A SANDBOX (cutbox-rows.mjs): the forced cells as the released guide's own fill.sh prints them over the translation dbe9d300b7d7be42… (all of the seat's roots in one cut). By AI agents, Wed Nov 11 2026. No macro, syntax, notation, axiom, sorry.
-/
import Derived.Test.YtfggahkimconfaaDoorChecked
import GoSem.Claim
import GoSem.ClaimJoined
import GoSem.ClaimMapViews
import Derived.JoinedTies
import Derived.KernelRfl
namespace Go.Proofs.YtfggahkimconfaaDoor
/- THE CELL 'sum', in the pinned program and in every row, IS THE sha256 OF THE DUMP (.gsa) THAT YtfggahkimconfaaDoorProg.lean LOADS. Nothing in Lean hashes anything: it is a label: what it is worth is what the hold of that sum in a sandbox is worth. -/
noncomputable def Tryd.pinned : Pinned := { name := "ytfggahkimconfaadoor", sum := "dbe9d300b7d7be42fa834dfd0a712a6ceed86846ed4417da947ed82fb0f0b474", checked := Tryd.checked }
namespace Rows
def none {H : Type} : Left H := { results := [], args := [] }

/- WHAT THE LISTED PACKAGE-LEVEL VARIABLES READ AS WHEN THE CALL BEGINS. Each datum BY PROGRAM (the guide's laid-datum.mjs) off the statement by which the dump's own 'gosem.cut.vars' lays the variable. In a bare row this is a premise. The card (YtfggahkimconfaaDoorCards.lean) ties it to the program's text. -/
def laid_larch_sum_halves {H : Type} : DataW H := .agg [.lit (.int .u32 0), .lit (.int .u32 274646895), .lit (.int .u32 549293790), .lit (.int .u32 820201905), .lit (.int .u32 1098587580), .lit (.int .u32 1361435347), .lit (.int .u32 1640403810), .lit (.int .u32 1905808397), .lit (.int .u32 2197175160), .lit (.int .u32 2460548119), .lit (.int .u32 2722870694), .lit (.int .u32 2987750089), .lit (.int .u32 3280807620), .lit (.int .u32 3553878443), .lit (.int .u32 3811616794), .lit (.int .u32 4084100981)]

/-- 'larchlaw04.WalResets': WHATEVER THE INPUT: true; the input reads as it did. -/
def walResetsSpec : ChangeSpec := { name := "walResets", fn := fun _ => fun
  | [d1, d2, d3, d4] => { results := [.lit (.bool true)], args := [d1, d2, d3, d4] }
  | _ => none }
def walResetsRow : OpenClaim := { program := "ytfggahkimconfaadoor", sum := "dbe9d300b7d7be42fa834dfd0a712a6ceed86846ed4417da947ed82fb0f0b474", func := "larch/larchlaw04.WalResets", spec := "walResets", inPlace := ["internal/abi.NoEscape"], named := ["larch/sum.halves"], apart := false, laid := [("larch/sum.halves", laid_larch_sum_halves)] }
def WalResetsSaid : Prop := walResetsRow.holds Tryd.pinned (OpenSpec.ofChange walResetsSpec)

/-- ITS FALSE NEIGHBOUR: 'it returns false'. Refute it at one input. -/
def walResetsWrong : ChangeSpec := { name := "walResets", fn := fun _ => fun
  | [d1, d2, d3, d4] => { results := [.lit (.bool false)], args := [d1, d2, d3, d4] }
  | _ => none }
def WalResetsWrongFalsely : Prop := walResetsRow.holds Tryd.pinned (OpenSpec.ofChange walResetsWrong)

/-- 'larchlaw04.WalRooms': WHATEVER THE INPUT: true; the input reads as it did. -/
def walRoomsSpec : ChangeSpec := { name := "walRooms", fn := fun _ => fun
  | [d1, d2] => { results := [.lit (.bool true)], args := [d1, d2] }
  | _ => none }
def walRoomsRow : OpenClaim := { program := "ytfggahkimconfaadoor", sum := "dbe9d300b7d7be42fa834dfd0a712a6ceed86846ed4417da947ed82fb0f0b474", func := "larch/larchlaw04.WalRooms", spec := "walRooms", inPlace := ["internal/abi.NoEscape"], named := ["larch/sum.halves"], apart := false, laid := [("larch/sum.halves", laid_larch_sum_halves)] }
def WalRoomsSaid : Prop := walRoomsRow.holds Tryd.pinned (OpenSpec.ofChange walRoomsSpec)

/-- ITS FALSE NEIGHBOUR: 'it returns false'. Refute it at one input. -/
def walRoomsWrong : ChangeSpec := { name := "walRooms", fn := fun _ => fun
  | [d1, d2] => { results := [.lit (.bool false)], args := [d1, d2] }
  | _ => none }
def WalRoomsWrongFalsely : Prop := walRoomsRow.holds Tryd.pinned (OpenSpec.ofChange walRoomsWrong)

/-- 'larchlaw04.WalVoid': WHATEVER THE INPUT: true; the input reads as it did. -/
def walVoidSpec : ChangeSpec := { name := "walVoid", fn := fun _ => fun
  | [d] => { results := [.lit (.bool true)], args := [d] }
  | _ => none }
def walVoidRow : OpenClaim := { program := "ytfggahkimconfaadoor", sum := "dbe9d300b7d7be42fa834dfd0a712a6ceed86846ed4417da947ed82fb0f0b474", func := "larch/larchlaw04.WalVoid", spec := "walVoid", inPlace := ["internal/abi.NoEscape"], named := ["larch/sum.halves"], apart := false, laid := [("larch/sum.halves", laid_larch_sum_halves)] }
def WalVoidSaid : Prop := walVoidRow.holds Tryd.pinned (OpenSpec.ofChange walVoidSpec)

/-- ITS FALSE NEIGHBOUR: 'it returns false'. Refute it at one input. -/
def walVoidWrong : ChangeSpec := { name := "walVoid", fn := fun _ => fun
  | [d] => { results := [.lit (.bool false)], args := [d] }
  | _ => none }
def WalVoidWrongFalsely : Prop := walVoidRow.holds Tryd.pinned (OpenSpec.ofChange walVoidWrong)

/- THE SECOND FORM. 'bulk': how many values and letters a reading holds, each counted each time it is reached (what is shared counts as often as it is met; a slice's spare places count too). A statement '..UptoSaid' is the law's where the arguments, and the package variables that the reading takes, are together of bulk at most 1048576: NARROWER than '..Said'. Prove '..Said' where nothing that the law and all that it calls make is longer than what came in: it says more and counts as full. Else prove '..UptoSaid'. A law counts once. -/
mutual
def uptoBulk {H : Type} : DataW H → Nat
  | .lit (.string bytes) => bytes.length + 1
  | .lit _ => 1
  | .nil => 1
  | .ptr d => uptoBulk d + 1
  | .slice elems spare => uptoBulkAll elems + uptoBulkAll spare + 1
  | .agg parts => uptoBulkAll parts + 1
  | .iface _ d => uptoBulk d + 1
  | .map entries => uptoBulkEntries entries + 1
  | .held _ => 1
def uptoBulkAll {H : Type} : List (DataW H) → Nat
  | [] => 0
  | d :: r => uptoBulk d + uptoBulkAll r
def uptoBulkEntries {H : Type} : List (Lit × DataW H) → Nat
  | [] => 0
  | x :: r => uptoBulkEntry x + uptoBulkEntries r
def uptoBulkEntry {H : Type} : Lit × DataW H → Nat
  | (.string bytes, d) => bytes.length + uptoBulk d + 1
  | (_, d) => uptoBulk d + 1
 end
def uptoSmall : (H : Type) → List (DataW H) → Bool := fun _ ds => decide (uptoBulkAll ds ≤ 1048576)
def OpenSpec.upto (s : _root_.Go.ChangeSpec) : _root_.Go.OpenSpec := { _root_.Go.OpenSpec.ofChange s with cond := some uptoSmall }

/-- 'larchlaw04.WalResets', WHERE WHAT IT READS IS OF BULK AT MOST 1048576: true; the input reads as it did. -/
def walResetsUptoRow : OpenClaim := { program := "ytfggahkimconfaadoor", sum := "dbe9d300b7d7be42fa834dfd0a712a6ceed86846ed4417da947ed82fb0f0b474", func := "larch/larchlaw04.WalResets", spec := "walResets", inPlace := ["internal/abi.NoEscape"], named := ["larch/sum.halves"], apart := false, laid := [("larch/sum.halves", laid_larch_sum_halves)], narrowed := true }
def WalResetsUptoSaid : Prop := walResetsUptoRow.holds Tryd.pinned (OpenSpec.upto walResetsSpec)

/-- 'larchlaw04.WalRooms', WHERE WHAT IT READS IS OF BULK AT MOST 1048576: true; the input reads as it did. -/
def walRoomsUptoRow : OpenClaim := { program := "ytfggahkimconfaadoor", sum := "dbe9d300b7d7be42fa834dfd0a712a6ceed86846ed4417da947ed82fb0f0b474", func := "larch/larchlaw04.WalRooms", spec := "walRooms", inPlace := ["internal/abi.NoEscape"], named := ["larch/sum.halves"], apart := false, laid := [("larch/sum.halves", laid_larch_sum_halves)], narrowed := true }
def WalRoomsUptoSaid : Prop := walRoomsUptoRow.holds Tryd.pinned (OpenSpec.upto walRoomsSpec)

/-- 'larchlaw04.WalVoid', WHERE WHAT IT READS IS OF BULK AT MOST 1048576: true; the input reads as it did. -/
def walVoidUptoRow : OpenClaim := { program := "ytfggahkimconfaadoor", sum := "dbe9d300b7d7be42fa834dfd0a712a6ceed86846ed4417da947ed82fb0f0b474", func := "larch/larchlaw04.WalVoid", spec := "walVoid", inPlace := ["internal/abi.NoEscape"], named := ["larch/sum.halves"], apart := false, laid := [("larch/sum.halves", laid_larch_sum_halves)], narrowed := true }
def WalVoidUptoSaid : Prop := walVoidUptoRow.holds Tryd.pinned (OpenSpec.upto walVoidSpec)

end Rows
end Go.Proofs.YtfggahkimconfaaDoor
