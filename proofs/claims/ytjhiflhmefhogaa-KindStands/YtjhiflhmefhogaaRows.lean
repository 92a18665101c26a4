/-
  No cell of these rows narrows 'for every input' (looked for: loops, veiled, ifaces, maps, wideKeys, modest, calm, conditions, laid).
  DERIVED. THE GIVEN ROWS OF THIS SEAT. 6 by the template 'for every input the law returns true; each argument reads behind the call as it read before'; 0 by the template 'total and deterministic' (their statements: YtjhiflhmefhogaaTotals.lean).
  GIVEN WITH THE SEED: the statements are not yours to turn. If you find one false, say at which input.
  Laid BY PROGRAM, IN A SANDBOX (cutbox-rows.mjs): the forced cells as the released guide's own fill.sh prints them over the translation 7e45d8a63cb5e298… (all of the seat's roots in one cut). By AI agents, Wed Nov 11 2026. No macro, syntax, notation, axiom, sorry.
-/
import Derived.Test.YtjhiflhmefhogaaChecked
import GoSem.Claim
import GoSem.ClaimJoined
import GoSem.ClaimMapViews
import Derived.JoinedTies
import Derived.KernelRfl
namespace Go.Proofs.Ytjhiflhmefhogaa
/- THE CELL 'sum', in the pinned program and in every row, IS THE sha256 OF THE DUMP (.gsa) THAT YtjhiflhmefhogaaProg.lean LOADS. Nothing in Lean hashes anything: it is a label: what it is worth is what the hold of that sum in a sandbox is worth. -/
noncomputable def Try.pinned : Pinned := { name := "ytjhiflhmefhogaa", sum := "7e45d8a63cb5e29892cb8c0ab05d91a820875459213d193b7a15b66c28045b45", checked := Try.checked }
namespace Rows
def none {H : Type} : Left H := { results := [], args := [] }

/-- 'larchlaw10.KindReads': WHATEVER THE INPUT: true; the input reads as it did. -/
def kindReadsSpec : ChangeSpec := { name := "kindReads", fn := fun _ => fun
  | [d] => { results := [.lit (.bool true)], args := [d] }
  | _ => none }
def kindReadsRow : OpenClaim := { program := "ytjhiflhmefhogaa", sum := "7e45d8a63cb5e29892cb8c0ab05d91a820875459213d193b7a15b66c28045b45", func := "larch/larchlaw10.KindReads", spec := "kindReads", inPlace := ["internal/bytealg.IndexByteString"], recurses := true, apart := false }
def KindReadsSaid : Prop := kindReadsRow.holds Try.pinned (OpenSpec.ofChange kindReadsSpec)

/-- ITS FALSE NEIGHBOUR: 'it returns false'. Refute it at one input. -/
def kindReadsWrong : ChangeSpec := { name := "kindReads", fn := fun _ => fun
  | [d] => { results := [.lit (.bool false)], args := [d] }
  | _ => none }
def KindReadsWrongFalsely : Prop := kindReadsRow.holds Try.pinned (OpenSpec.ofChange kindReadsWrong)

/-- 'larchlaw10.KindTells': WHATEVER THE INPUT: true; the input reads as it did. -/
def kindTellsSpec : ChangeSpec := { name := "kindTells", fn := fun _ => fun
  | [d1, d2] => { results := [.lit (.bool true)], args := [d1, d2] }
  | _ => none }
def kindTellsRow : OpenClaim := { program := "ytjhiflhmefhogaa", sum := "7e45d8a63cb5e29892cb8c0ab05d91a820875459213d193b7a15b66c28045b45", func := "larch/larchlaw10.KindTells", spec := "kindTells", inPlace := ["internal/bytealg.IndexByteString"], recurses := true, apart := false }
def KindTellsSaid : Prop := kindTellsRow.holds Try.pinned (OpenSpec.ofChange kindTellsSpec)

/-- ITS FALSE NEIGHBOUR: 'it returns false'. Refute it at one input. -/
def kindTellsWrong : ChangeSpec := { name := "kindTells", fn := fun _ => fun
  | [d1, d2] => { results := [.lit (.bool false)], args := [d1, d2] }
  | _ => none }
def KindTellsWrongFalsely : Prop := kindTellsRow.holds Try.pinned (OpenSpec.ofChange kindTellsWrong)

/-- 'larchlaw10.KindStands': WHATEVER THE INPUT: true; the input reads as it did. -/
def kindStandsSpec : ChangeSpec := { name := "kindStands", fn := fun _ => fun
  | [d1, d2, d3] => { results := [.lit (.bool true)], args := [d1, d2, d3] }
  | _ => none }
def kindStandsRow : OpenClaim := { program := "ytjhiflhmefhogaa", sum := "7e45d8a63cb5e29892cb8c0ab05d91a820875459213d193b7a15b66c28045b45", func := "larch/larchlaw10.KindStands", spec := "kindStands", inPlace := ["internal/bytealg.IndexByteString"], unfollowed := true, recurses := true, apart := false }
def KindStandsSaid : Prop := kindStandsRow.holds Try.pinned (OpenSpec.ofChange kindStandsSpec)

/-- ITS FALSE NEIGHBOUR: 'it returns false'. Refute it at one input. -/
def kindStandsWrong : ChangeSpec := { name := "kindStands", fn := fun _ => fun
  | [d1, d2, d3] => { results := [.lit (.bool false)], args := [d1, d2, d3] }
  | _ => none }
def KindStandsWrongFalsely : Prop := kindStandsRow.holds Try.pinned (OpenSpec.ofChange kindStandsWrong)

/-- 'larchlaw10.KindBack': WHATEVER THE INPUT: true; the input reads as it did. -/
def kindBackSpec : ChangeSpec := { name := "kindBack", fn := fun _ => fun
  | [d1, d2] => { results := [.lit (.bool true)], args := [d1, d2] }
  | _ => none }
def kindBackRow : OpenClaim := { program := "ytjhiflhmefhogaa", sum := "7e45d8a63cb5e29892cb8c0ab05d91a820875459213d193b7a15b66c28045b45", func := "larch/larchlaw10.KindBack", spec := "kindBack", inPlace := ["internal/bytealg.IndexByteString"], apart := false }
def KindBackSaid : Prop := kindBackRow.holds Try.pinned (OpenSpec.ofChange kindBackSpec)

/-- ITS FALSE NEIGHBOUR: 'it returns false'. Refute it at one input. -/
def kindBackWrong : ChangeSpec := { name := "kindBack", fn := fun _ => fun
  | [d1, d2] => { results := [.lit (.bool false)], args := [d1, d2] }
  | _ => none }
def KindBackWrongFalsely : Prop := kindBackRow.holds Try.pinned (OpenSpec.ofChange kindBackWrong)

/-- 'larchlaw10.KindOrder': WHATEVER THE INPUT: true; the input reads as it did. -/
def kindOrderSpec : ChangeSpec := { name := "kindOrder", fn := fun _ => fun
  | [d1, d2, d3, d4] => { results := [.lit (.bool true)], args := [d1, d2, d3, d4] }
  | _ => none }
def kindOrderRow : OpenClaim := { program := "ytjhiflhmefhogaa", sum := "7e45d8a63cb5e29892cb8c0ab05d91a820875459213d193b7a15b66c28045b45", func := "larch/larchlaw10.KindOrder", spec := "kindOrder", inPlace := ["internal/bytealg.IndexByteString"], unfollowed := true, recurses := true, apart := false }
def KindOrderSaid : Prop := kindOrderRow.holds Try.pinned (OpenSpec.ofChange kindOrderSpec)

/-- ITS FALSE NEIGHBOUR: 'it returns false'. Refute it at one input. -/
def kindOrderWrong : ChangeSpec := { name := "kindOrder", fn := fun _ => fun
  | [d1, d2, d3, d4] => { results := [.lit (.bool false)], args := [d1, d2, d3, d4] }
  | _ => none }
def KindOrderWrongFalsely : Prop := kindOrderRow.holds Try.pinned (OpenSpec.ofChange kindOrderWrong)

/-- 'larchlaw10.KindElems': WHATEVER THE INPUT: true; the input reads as it did. -/
def kindElemsSpec : ChangeSpec := { name := "kindElems", fn := fun _ => fun
  | [d] => { results := [.lit (.bool true)], args := [d] }
  | _ => none }
def kindElemsRow : OpenClaim := { program := "ytjhiflhmefhogaa", sum := "7e45d8a63cb5e29892cb8c0ab05d91a820875459213d193b7a15b66c28045b45", func := "larch/larchlaw10.KindElems", spec := "kindElems", inPlace := ["internal/bytealg.IndexByteString"], apart := false }
def KindElemsSaid : Prop := kindElemsRow.holds Try.pinned (OpenSpec.ofChange kindElemsSpec)

/-- ITS FALSE NEIGHBOUR: 'it returns false'. Refute it at one input. -/
def kindElemsWrong : ChangeSpec := { name := "kindElems", fn := fun _ => fun
  | [d] => { results := [.lit (.bool false)], args := [d] }
  | _ => none }
def KindElemsWrongFalsely : Prop := kindElemsRow.holds Try.pinned (OpenSpec.ofChange kindElemsWrong)

/- THE SECOND FORM. 'bulk': how many values and letters a reading holds, each counted each time it is reached (what is shared counts as often as it is met; a slice's spare places count too). A statement '..UptoSaid' is the law's where the arguments, and the package variables that the reading takes, are together of bulk at most 1048576: NARROWER than '..Said'. Prove '..Said' where nothing that the law and all that it calls make is longer than what came in: it says more and counts as full. Else prove '..UptoSaid'. A law counts once. -/
mutual
def uptoBulk {H : Type} : DataW H → Nat
  | .lit (.string bytes) => bytes.length + 1
  | .lit _ => 1
  | .nil => 1
  | .ptr d => uptoBulk d + 1
  | .slice elems spare => uptoBulkAll elems + uptoBulkAll spare + 1
  | .agg parts => uptoBulkAll parts + 1
  | .iface _ d => uptoBulk d + 1
  | .map entries => uptoBulkEntries entries + 1
  | .held _ => 1
def uptoBulkAll {H : Type} : List (DataW H) → Nat
  | [] => 0
  | d :: r => uptoBulk d + uptoBulkAll r
def uptoBulkEntries {H : Type} : List (Lit × DataW H) → Nat
  | [] => 0
  | x :: r => uptoBulkEntry x + uptoBulkEntries r
def uptoBulkEntry {H : Type} : Lit × DataW H → Nat
  | (.string bytes, d) => bytes.length + uptoBulk d + 1
  | (_, d) => uptoBulk d + 1
 end
def uptoSmall : (H : Type) → List (DataW H) → Bool := fun _ ds => decide (uptoBulkAll ds ≤ 1048576)
def OpenSpec.upto (s : _root_.Go.ChangeSpec) : _root_.Go.OpenSpec := { _root_.Go.OpenSpec.ofChange s with cond := some uptoSmall }

/-- 'larchlaw10.KindReads', WHERE WHAT IT READS IS OF BULK AT MOST 1048576: true; the input reads as it did. -/
def kindReadsUptoRow : OpenClaim := { program := "ytjhiflhmefhogaa", sum := "7e45d8a63cb5e29892cb8c0ab05d91a820875459213d193b7a15b66c28045b45", func := "larch/larchlaw10.KindReads", spec := "kindReads", inPlace := ["internal/bytealg.IndexByteString"], recurses := true, apart := false, narrowed := true }
def KindReadsUptoSaid : Prop := kindReadsUptoRow.holds Try.pinned (OpenSpec.upto kindReadsSpec)

/-- 'larchlaw10.KindTells', WHERE WHAT IT READS IS OF BULK AT MOST 1048576: true; the input reads as it did. -/
def kindTellsUptoRow : OpenClaim := { program := "ytjhiflhmefhogaa", sum := "7e45d8a63cb5e29892cb8c0ab05d91a820875459213d193b7a15b66c28045b45", func := "larch/larchlaw10.KindTells", spec := "kindTells", inPlace := ["internal/bytealg.IndexByteString"], recurses := true, apart := false, narrowed := true }
def KindTellsUptoSaid : Prop := kindTellsUptoRow.holds Try.pinned (OpenSpec.upto kindTellsSpec)

/-- 'larchlaw10.KindStands', WHERE WHAT IT READS IS OF BULK AT MOST 1048576: true; the input reads as it did. -/
def kindStandsUptoRow : OpenClaim := { program := "ytjhiflhmefhogaa", sum := "7e45d8a63cb5e29892cb8c0ab05d91a820875459213d193b7a15b66c28045b45", func := "larch/larchlaw10.KindStands", spec := "kindStands", inPlace := ["internal/bytealg.IndexByteString"], unfollowed := true, recurses := true, apart := false, narrowed := true }
def KindStandsUptoSaid : Prop := kindStandsUptoRow.holds Try.pinned (OpenSpec.upto kindStandsSpec)

/-- 'larchlaw10.KindBack', WHERE WHAT IT READS IS OF BULK AT MOST 1048576: true; the input reads as it did. -/
def kindBackUptoRow : OpenClaim := { program := "ytjhiflhmefhogaa", sum := "7e45d8a63cb5e29892cb8c0ab05d91a820875459213d193b7a15b66c28045b45", func := "larch/larchlaw10.KindBack", spec := "kindBack", inPlace := ["internal/bytealg.IndexByteString"], apart := false, narrowed := true }
def KindBackUptoSaid : Prop := kindBackUptoRow.holds Try.pinned (OpenSpec.upto kindBackSpec)

/-- 'larchlaw10.KindOrder', WHERE WHAT IT READS IS OF BULK AT MOST 1048576: true; the input reads as it did. -/
def kindOrderUptoRow : OpenClaim := { program := "ytjhiflhmefhogaa", sum := "7e45d8a63cb5e29892cb8c0ab05d91a820875459213d193b7a15b66c28045b45", func := "larch/larchlaw10.KindOrder", spec := "kindOrder", inPlace := ["internal/bytealg.IndexByteString"], unfollowed := true, recurses := true, apart := false, narrowed := true }
def KindOrderUptoSaid : Prop := kindOrderUptoRow.holds Try.pinned (OpenSpec.upto kindOrderSpec)

/-- 'larchlaw10.KindElems', WHERE WHAT IT READS IS OF BULK AT MOST 1048576: true; the input reads as it did. -/
def kindElemsUptoRow : OpenClaim := { program := "ytjhiflhmefhogaa", sum := "7e45d8a63cb5e29892cb8c0ab05d91a820875459213d193b7a15b66c28045b45", func := "larch/larchlaw10.KindElems", spec := "kindElems", inPlace := ["internal/bytealg.IndexByteString"], apart := false, narrowed := true }
def KindElemsUptoSaid : Prop := kindElemsUptoRow.holds Try.pinned (OpenSpec.upto kindElemsSpec)

end Rows
end Go.Proofs.Ytjhiflhmefhogaa
