/- Joined: WdL1 WdL2 WdL3 WdL4 WdL5 WdL6 WdL7 WdL8. -/
import Derived.Test.YthenefjoidckkaaGreatDoorJD
import Derived.Laws.CopyOwn
import Derived.Laws.BitsAllLaws

/- The landed word: spans in memory; made, isSize, fitsU, fitsS, left, next. -/
namespace Go.Proofs.YthenefjoidckkaaGreatDoor
open Go.RowKit
set_option linter.unusedVariables false

/-- A span at block x, its bytes in block y. -/
structure Sp (T : TypeId) (w : World) (B x y c : Nat) (bs : List UInt8) (i : Nat) : Prop where
  hx : B ≤ x
  ne : x ≠ y
  blk : w.heap[x]? = some (.cells #[.slice (some ⟨y, 0, none⟩) bs.length c, .int .i64 (i : Int)] T (0, 0))
  row : w.ownsRow B 5 1 (.slice (some ⟨y, 0, none⟩) bs.length c) bs.length (bv bs)
theorem Sp.c0 {T : TypeId} {w : World} {B x y c : Nat} {bs : List UInt8} {i : Nat} (h : Sp T w B x y c bs i) : w.cell? ⟨x, 0, none⟩ = some (.slice (some ⟨y, 0, none⟩) bs.length c) := by rw [cell_of_row _ _ _ _ _ _ h.blk]; rfl
theorem Sp.c1 {T : TypeId} {w : World} {B x y c : Nat} {bs : List UInt8} {i : Nat} (h : Sp T w B x y c bs i) : w.cell? ⟨x, 1, none⟩ = some (.int .i64 (i : Int)) := by rw [cell_of_row _ _ _ _ _ _ h.blk]; rfl
theorem Sp.fz {T : TypeId} {w : World} {B x y c : Nat} {bs : List UInt8} {i : Nat} (h : Sp T w B x y c bs i) (j : Nat) : w.frozen? ⟨x, j, none⟩ = false := frozen_of_row _ _ _ _ _ h.blk
theorem Sp.xlt {T : TypeId} {w : World} {B x y c : Nat} {bs : List UInt8} {i : Nat} (h : Sp T w B x y c bs i) : x < w.heap.size := lt_of_heap h.blk
theorem Sp.y {T : TypeId} {w : World} {B x y c : Nat} {bs : List UInt8} {i : Nat} (h : Sp T w B x y c bs i) : B ≤ y ∧ y < w.heap.size := h.row.lt y rfl
theorem Sp.keep {T : TypeId} {w w' : World} {B x y c : Nat} {bs : List UInt8} {i : Nat} (h : Sp T w B x y c bs i) (hx : w'.heap[x]? = w.heap[x]?) (hy : w'.heap[y]? = w.heap[y]?) : Sp T w' B x y c bs i :=
  ⟨h.hx, h.ne, hx.trans h.blk, own_of_block h.row (fun k hk => by
    simp [Value.ownBlock] at hk
    subst hk
    exact hy)⟩
theorem Sp.below {T : TypeId} {w w' : World} {B x y c : Nat} {bs : List UInt8} {i : Nat} (h : Sp T w B x y c bs i) (f : Below w.heap.size w w') : Sp T w' B x y c bs i := h.keep (f.block x h.xlt) (f.block y h.y.2)
theorem Sp.base {T : TypeId} {w : World} {B B' x y c : Nat} {bs : List UInt8} {i : Nat} (h : Sp T w B x y c bs i) (hB : B' ≤ B) : Sp T w B' x y c bs i := ⟨Nat.le_trans hB h.hx, h.ne, h.blk, own_base h.row hB⟩
end Go.Proofs.YthenefjoidckkaaGreatDoor

/- The landed word: fitsS, left, next, joined, withSign, spanOf. -/
namespace Go.Proofs.YthenefjoidckkaaGreatDoor
open Go.RowKit
set_option linter.unusedVariables false

end Go.Proofs.YthenefjoidckkaaGreatDoor

/- The landed word: joined, spanOf; the reader's calls. -/
namespace Go.Proofs.YthenefjoidckkaaGreatDoor
open Go.RowKit
set_option linter.unusedVariables false

end Go.Proofs.YthenefjoidckkaaGreatDoor

/- The landed word: the reader's calls. -/
namespace Go.Proofs.YthenefjoidckkaaGreatDoor
open Go.RowKit
set_option linter.unusedVariables false

/-- All blocks but x are as they were. -/
def Kx (x : Nat) (w w' : World) : Prop := ∀ k, k < w.heap.size → k ≠ x → w'.heap[k]? = w.heap[k]?
theorem Kx.of_below {x : Nat} {w w' : World} (f : Below w.heap.size w w') : Kx x w w' := fun k hk _ => f.block k hk
theorem Kx.trans {x : Nat} {w w1 w2 : World} (h : Kx x w w1) (hs : w.heap.size ≤ w1.heap.size) (g : Kx x w1 w2) : Kx x w w2 := fun k hk hx => (g k (Nat.lt_of_lt_of_le hk hs) hx).trans (h k hk hx)
end Go.Proofs.YthenefjoidckkaaGreatDoor

/- The landed word: the writer's calls. -/
namespace Go.Proofs.YthenefjoidckkaaGreatDoor
open Go.RowKit
set_option linter.unusedVariables false

/-- What put leaves: a span of the new bytes, its place behind them. -/
structure PutOk (T : TypeId) (w : World) (B x y : Nat) (bs : List UInt8) (K : Nat) (W : World) : Prop where
  sp : ∃ y' c', Sp T W B x y' c' bs K ∧ (y' = y ∨ w.heap.size ≤ y')
  bel : Below B w W
  oth : ∀ k, k < w.heap.size → k ≠ x → k ≠ y → W.heap[k]? = w.heap[k]?

structure PutIn (T : TypeId) (w : World) (B x y c : Nat) (bs : List UInt8) (K : Nat) (W : World) : Prop where
  sp : Sp T W B x y c bs K
  bel : Below B w W
  oth : ∀ k, k < w.heap.size → k ≠ x → k ≠ y → W.heap[k]? = w.heap[k]?

end Go.Proofs.YthenefjoidckkaaGreatDoor

/- The landed word: putNumber. -/
namespace Go.Proofs.YthenefjoidckkaaGreatDoor
open Go.RowKit
set_option linter.unusedVariables false

/-- Bytes laid over others, from a place on. -/
def ovr (bs : List UInt8) (i : Nat) (l : List UInt8) : List UInt8 := bs.take i ++ l ++ bs.drop (i + l.length)
theorem ovr_nil (bs : List UInt8) (i : Nat) : ovr bs i [] = bs := by simp [ovr]
structure PutB (T : TypeId) (w : World) (B x y c i n : Nat) (bs : List UInt8) (W : World) : Prop where
  sp : ∃ y' c', Sp T W B x y' c' bs (i + 1) ∧ (y' = y ∨ w.heap.size ≤ y') ∧ (i < n → y' = y ∧ c' = c)
  bel : Below B w W
  oth : ∀ k, k < w.heap.size → k ≠ x → k ≠ y → W.heap[k]? = w.heap[k]?
/-- Between the rounds of putNumber. -/
structure PN (T : TypeId) (w : World) (B x y c i m : Nat) (bs : List UInt8) (n : Int) (k : Nat) (W : World) : Prop where
  sp : ∃ y' c', Sp T W B x y' c' (ovr bs i ((bytesW m n).take k)) (i + k) ∧ (y' = y ∨ w.heap.size ≤ y') ∧ (i + m ≤ bs.length → y' = y ∧ c' = c)
  bel : Below B w W
  oth : ∀ q, q < w.heap.size → q ≠ x → q ≠ y → W.heap[q]? = w.heap[q]?
theorem PN.start {T : TypeId} {w : World} {B x y c i : Nat} {bs : List UInt8} (h : Sp T w B x y c bs i) (m : Nat) (n : Int) : PN T w B x y c i m bs n 0 w :=
  ⟨⟨y, c, by rw [List.take_zero, ovr_nil]; exact h, .inl rfl, fun _ => ⟨rfl, rfl⟩⟩, Below.refl _ _, fun _ _ _ _ => rfl⟩
end Go.Proofs.YthenefjoidckkaaGreatDoor

/- The landed word: the writer's calls. -/
namespace Go.Proofs.YthenefjoidckkaaGreatDoor
open Go.RowKit
set_option linter.unusedVariables false

end Go.Proofs.YthenefjoidckkaaGreatDoor

/- The landed word: the writer's U, S, Patch (written by mk/mkword8.py); words. -/
namespace Go.Proofs.YthenefjoidckkaaGreatDoor
open Go.RowKit
set_option linter.unusedVariables false

end Go.Proofs.YthenefjoidckkaaGreatDoor
