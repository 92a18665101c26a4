/- Joined: WdR WdG WdB WdP WdQ WdU. -/
import Derived.Test.YthenefjoidckkaaGreatDoorJA
import Derived.Test.YthenefjoidckkaaGreatDoorJB
import Derived.Deep.CutBlock
import Derived.Deep.LoopGhost
import Derived.Deep.RegionHeld3
import Derived.Deep.RegionHeldLaw
import Derived.Laws.AppendOwnNone
import Derived.Deep.AppendLies

/- The document's own reading of numbers: wide, full, Number. -/
namespace Go.Proofs.YthenefjoidckkaaGreatDoor
open Go.RowKit
set_option linter.unusedVariables false

end Go.Proofs.YthenefjoidckkaaGreatDoor

/- The document's own reader. -/
namespace Go.Proofs.YthenefjoidckkaaGreatDoor
open Go.RowKit
set_option linter.unusedVariables false

end Go.Proofs.YthenefjoidckkaaGreatDoor

/- An append of bytes within a region that draws; the document's reader: Bytes. -/
namespace Go.Proofs.YthenefjoidckkaaGreatDoor
open Go.RowKit
set_option linter.unusedVariables false

end Go.Proofs.YthenefjoidckkaaGreatDoor

/- The document's own writing of numbers: Bytes. -/
namespace Go.Proofs.YthenefjoidckkaaGreatDoor
open Go.RowKit
set_option linter.unusedVariables false

theorem beK_cons (j : Nat) : ∀ x, beK (j + 1) x = UInt8.ofNat (x / 256 ^ j) :: beK j x := by
  induction j with
  | zero => intro x; simp [beK]
  | succ j ih =>
    intro x
    rw [beK, ih, beK, List.cons_append, Nat.div_div_eq_div_mul, Nat.pow_succ, Nat.mul_comm]
def zer (n : Nat) : List UInt8 := List.replicate n 0
/-- Between the rounds: j bytes are laid. -/
structure Bp (w : World) (m X j : Nat) (wr : World) : Prop where
  blk : wr.heap[w.heap.size]? = some (.cells (bv (zer (m - j) ++ beK j X)).toArray 5 (0, 0))
  bel : Below w.heap.size w wr
theorem Bp.next {w wr : World} {m X j : Nat} (h : Bp w m X j wr) (hj : j < m) (u : Int) (hu : u = ((X / 256 ^ j % 256 : Nat) : Int)) : Bp w m X (j + 1) (wr.setCell ⟨w.heap.size, m - j - 1, none⟩ (.int .u8 u)) := by
  refine ⟨?_, h.bel.setCell (Nat.le_refl _) _⟩
  rw [heap_setCell_same wr _ (m - j - 1) _ _ _ h.blk]
  congr 2
  apply Array.toList_inj.1
  rw [Array.toList_setIfInBounds]
  have hz : zer (m - j) = zer (m - (j + 1)) ++ [0] := by
    unfold zer
    rw [show m - j = m - (j + 1) + 1 by omega, List.replicate_succ']
  have hlz : (bv (zer (m - (j + 1)))).length = m - j - 1 := by rw [bv_length]; unfold zer; rw [List.length_replicate]; omega
  rw [beK_cons, hz, List.append_assoc, bv_append, bv_append, List.set_append_right _ _ (by omega), hlz, Nat.sub_self]
  have hb : (Value.int .u8 u) = Value.int .u8 ((UInt8.ofNat (X / 256 ^ j)).toNat : Int) := by
    rw [hu]
    simp
  rw [hb]
  simp [bv]
theorem Bp.cell {w wr : World} {m X j : Nat} (h : Bp w m X j wr) (hj : j < m) : (∃ u, wr.cell? ⟨w.heap.size, m - j - 1, none⟩ = some u) ∧ wr.frozen? ⟨w.heap.size, m - j - 1, none⟩ = false := by
  refine ⟨?_, frozen_of_row _ _ _ _ _ h.blk⟩
  have hl : (bv (zer (m - j) ++ beK j X)).length = m := by rw [bv_length, List.length_append, beK_len]; unfold zer; rw [List.length_replicate]; omega
  exact ⟨_, by rw [cell_of_row _ _ _ _ _ _ h.blk, List.getElem?_toArray, List.getElem?_eq_getElem (by omega)]⟩
theorem Bp.own {w wr : World} {m X : Nat} (h : Bp w m X m wr) (hm : m ≤ 100000) : wr.ownsRow w.heap.size 5 1 (.slice (some ⟨w.heap.size, 0, none⟩) m m) m (bv (beK m X)) := by
  have hb := h.blk
  rw [Nat.sub_self] at hb
  have hz : zer 0 ++ beK m X = beK m X := rfl
  rw [hz] at hb
  refine ⟨by rw [bv_length, beK_len]; omega, .inr ⟨_, m, _, rfl, Nat.le_refl _, hb, Nat.le_refl _, by unfold maxLen; omega, by rw [List.size_toArray, bv_length, beK_len]; omega, ?_⟩⟩
  rw [List.toList_toArray]
  exact List.take_of_length_le (by rw [bv_length, beK_len]; omega)

end Go.Proofs.YthenefjoidckkaaGreatDoor

/- What the walks of stage 6's laws ask of the program's reader and writer, whatever their inner functions and their memory are. -/
namespace Go.Proofs.YthenefjoidckkaaGreatDoor
open Go.RowKit
set_option linter.unusedVariables false

/-- Numbers in memory. -/
def Nums (w : World) (a : Option Addr) (n : Nat) (zs : List Int) : Prop := zs.length = n ∧ (n = 0 ∨ ∃ b o, a = some ⟨b, o, none⟩ ∧ ∀ (j : Nat) (z : Int), zs[j]? = some z → w.cell? ⟨b, o + j, none⟩ = some (.int .i64 z))
theorem Nums.below {w w' : World} {a : Option Addr} {n : Nat} {zs : List Int} (h : Nums w a n zs) (f : Below w.heap.size w w') : Nums w' a n zs := by
  rcases h with ⟨h1, h2 | ⟨b, o, e, h2⟩⟩
  · exact ⟨h1, .inl h2⟩
  · exact ⟨h1, .inr ⟨b, o, e, fun j z hz => by
      have h3 := h2 j z hz
      exact (f.cell (World.block_lt_of_cell? w _ h3)).trans h3⟩⟩
theorem Nums.lt {w : World} {a : Option Addr} {n : Nat} {zs : List Int} (h : Nums w a n zs) {b o : Nat} (e : a = some ⟨b, o, none⟩) (hn : 0 < n) : b < w.heap.size := by
  obtain ⟨b', o', e', hc⟩ := h.2.resolve_left (by omega)
  have hl := h.1
  rw [e] at e'
  injection e' with e'
  injection e' with e1 e2
  subst e1
  exact World.block_lt_of_cell? w _ (hc 0 _ (List.getElem?_eq_getElem (by omega)))
/-- What a step on a reader or a writer (its blocks: F) may turn. -/
structure Fr6 (F : Nat → Prop) (B : Nat) (w w' : World) : Prop where
  below : Below B w w'
  other : ∀ k, k < w.heap.size → ¬ F k → w'.heap[k]? = w.heap[k]?
theorem Fr6.of_below {F : Nat → Prop} {B : Nat} {w w' : World} (f : Below w.heap.size w w') (hB : B ≤ w.heap.size) : Fr6 F B w w' := ⟨f.mono hB, fun k hk _ => f.block k hk⟩

section
variable {RD : (Nat → Prop) → World → Nat → Nat → List UInt8 → Nat → Prop} {WR : (Nat → Prop) → World → Nat → Nat → List UInt8 → Prop}
theorem Arg.len {w : World} {a : Option Addr} {n c : Nat} {bs : List UInt8} (h : Arg w a n c bs) : bs.length = n := h.bs.1

end

end Go.Proofs.YthenefjoidckkaaGreatDoor

/- The document's own writing of numbers: Put. -/
namespace Go.Proofs.YthenefjoidckkaaGreatDoor
open Go.RowKit
set_option linter.unusedVariables false

/-- Between the rounds of Put. -/
structure PU (w : World) (bs : List UInt8) (k : Int) (sg : Bool) (zs : List Int) (i : Nat) (u : Value) (wr : World) : Prop where
  own : wr.ownsRow w.heap.size 5 1 u (bs.length + i * k.toNat) (bv (bs ++ (zs.take i).flatMap (bytesW k)))
  fit : ∀ z ∈ zs.take i, fitsW k z sg
  bel : Below w.heap.size w wr
theorem PU.next {w wr w1 w2 : World} {bs : List UInt8} {k : Int} {sg : Bool} {zs : List Int} {i : Nat} {u u' : Value} {z : Int} (h : PU w bs k sg zs i u wr) (hz : zs[i]? = some z) (hf : fitsW k z sg) (f1 : Below wr.heap.size wr w1) (m : Nat) (hm : m = k.toNat) (ho : w2.ownsRow w.heap.size 5 1 u' (bs.length + i * k.toNat + m) (bv (bs ++ (zs.take i).flatMap (bytesW k) ++ bytesW k z))) (hg : w1.grownBy w2 u.ownBlock) : PU w bs k sg zs (i + 1) u' w2 := by
  have ht : zs.take (i + 1) = zs.take i ++ [z] := by rw [List.take_add_one, hz]; rfl
  refine ⟨?_, ?_, ?_⟩
  · rw [ht, List.flatMap_append, ← List.append_assoc, List.flatMap_singleton, Nat.add_mul, Nat.one_mul, ← Nat.add_assoc, ← hm]
    rw [← hm] at ho
    exact ho
  · intro y hy
    rw [ht, List.mem_append] at hy
    rcases hy with hy | hy
    · exact h.fit y hy
    · simp at hy
      subst hy
      exact hf
  · exact (h.bel.trans (f1.mono h.bel.size)).grown hg (Nat.le_trans h.bel.size f1.size) (fun x hx => (h.own.lt x hx).1)

end Go.Proofs.YthenefjoidckkaaGreatDoor
