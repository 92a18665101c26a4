/- The walk of WalPlays. -/
import Derived.Test.YtkllnfnjgjlaeaaGreatDoorJq
import Derived.Deep.CutBlock
import Derived.Deep.LoopGhost
import Derived.Deep.RegionHeld3

namespace Go.Proofs.YtkllnfnjgjlaeaaGreatDoor
open Go.RowKit
set_option linter.unusedVariables false

structure FullP (w : World) (b o : Nat) (x : PAct) : Prop where
  c0 : w.cell? ⟨b, o, none⟩ = some (.int .i64 x.kind)
  c1 : w.cell? ⟨b, o + 1, none⟩ = some (.int .i64 x.at_)
  c2 : w.cell? ⟨b, o + 2, none⟩ = some (.int .i64 x.n)
  c3 : w.cell? ⟨b, o + 3, none⟩ = some (.int .u8 (x.byte.toNat : Int))
  c4 : w.cell? ⟨b, o + 4, none⟩ = some (str x.data)
  c5 : w.cell? ⟨b, o + 5, none⟩ = some (.slice x.ka x.kept.length x.kc)
theorem FullP.below {w w' : World} {B b o : Nat} {x : PAct} (h : FullP w b o x) (hb : b < B) (f : Below B w w') : FullP w' b o x :=
  ⟨(f.cell (p := ⟨b, o, none⟩) hb).trans h.c0, (f.cell (p := ⟨b, o + 1, none⟩) hb).trans h.c1, (f.cell (p := ⟨b, o + 2, none⟩) hb).trans h.c2, (f.cell (p := ⟨b, o + 3, none⟩) hb).trans h.c3, (f.cell (p := ⟨b, o + 4, none⟩) hb).trans h.c4, (f.cell (p := ⟨b, o + 5, none⟩) hb).trans h.c5⟩
theorem pact_block (wr : World) (x : PAct) (st : ByteArray) (hst : str x.data = .string st) : ActP (wr.alloc (.cells #[.int .i64 x.kind, .int .i64 x.at_, .int .i64 x.n, .int .u8 (x.byte.toNat : Int), .string st, .slice x.ka x.kept.length x.kc] 41)) wr.heap.size x := by
  rw [← hst]
  exact heap_alloc_last wr (.cells x.cells 41)
theorem take_text (d : List UInt8) : ∃ M, M = min d.length 5000 ∧ (⟨d.toArray⟩ : ByteArray).extract 0 M = ⟨(d.take 5000).toArray⟩ ∧ (d.take 5000).length ≤ 5000 := by
  refine ⟨_, rfl, ?_, by rw [List.length_take]; omega⟩
  apply ByteArray.ext
  simp
  exact Nat.min_comm _ _

end Go.Proofs.YtkllnfnjgjlaeaaGreatDoor
