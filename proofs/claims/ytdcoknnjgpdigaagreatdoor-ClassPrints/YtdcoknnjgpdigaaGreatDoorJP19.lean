/- Joined: PkO PkV CrA CrB. -/
import Derived.Test.YtdcoknnjgpdigaaGreatDoorJP18
import Derived.Test.YtdcoknnjgpdigaaGreatDoorJP5
import Derived.Test.YtdcoknnjgpdigaaGreatDoorJP14
import Derived.Test.YtdcoknnjgpdigaaGreatDoorJP16
import Derived.Test.YtdcoknnjgpdigaaGreatDoorJP12

/- The landed pool keeps its contracts. -/
namespace Go.Proofs.YtdcoknnjgpdigaaGreatDoor
open Go.ChangeShapes Go.WideShapes Go.ChangeAt Go.RowKit
set_option linter.unusedVariables false
set_option maxRecDepth 100000

end Go.Proofs.YtdcoknnjgpdigaaGreatDoor

/- The landed pool: Read; its reader and its writer keep their contracts. -/
namespace Go.Proofs.YtdcoknnjgpdigaaGreatDoor
open Go.RowKit
set_option linter.unusedVariables false

/-- A pool that was read, as it lies in memory. -/
def PB (w : World) (a : Option Addr) (c : Nat) (l : List Ent) : Prop := (a = none ∧ c = 0 ∧ l = []) ∨ ∃ q, a = some ⟨q, 0, none⟩ ∧ c = l.length ∧ w.heap[q]? = some (.cells (ev l).toArray 55 (0, 0))
end Go.Proofs.YtdcoknnjgpdigaaGreatDoor

/- The landed class: its reader while a class is read; number, pass. -/
namespace Go.Proofs.YtdcoknnjgpdigaaGreatDoor
open Go.RowKit
set_option linter.unusedVariables false
set_option maxRecDepth 100000

/-- What was read: if nothing had ended and it can be read, it is that. -/
def Got {α : Type} (o : List UInt8 → Option (α × List UInt8)) (bs : List UInt8) (i : Nat) (en : Bool) (v : α) (i' : Nat) (en' : Bool) : Prop :=
  (en = true → en' = true) ∧ (en = false → ∀ v0 r, o (bs.drop i) = some (v0, r) → v = v0 ∧ en' = false ∧ bs.drop i' = r)
/-- The reader's object, what it reads with, the bytes, the pool. -/
structure Cr where
  X : Nat
  x : Nat
  B : Nat
  bs : List UInt8
  l : List Ent
def Cr.v (C : Cr) : Value := .pointer (some ⟨C.X, 0, none⟩)
structure Rd8 (C : Cr) (i : Nat) (en : Bool) (W : World) : Prop where
  ne : C.X ≠ C.x
  hX : C.B ≤ C.X
  rd : ∃ F, RD F W C.B C.x C.bs i
  hi : i ≤ C.bs.length
  len : C.bs.length ≤ 1000000
  pl : ∃ a c, W.heap[C.X]? = some (.cells #[.pointer (some ⟨C.x, 0, none⟩), .slice a C.l.length c, .bool en] 127 (0, 0)) ∧ PB W a c C.l
  few : C.l.length ≤ 1024
  cl : ∀ i : Int, tagE C.l i = 7 → tagE C.l (atE C.l i).a = 1
  z0 : tagE C.l 0 ≠ 7
  one : 1 ≤ C.B
def FX (C : Cr) (w w' : World) : Prop := Fr6 (fun k => k = C.X ∨ k = C.x) C.B w w'
theorem FX.refl (C : Cr) (w : World) : FX C w w := ⟨Below.refl _ _, fun _ _ _ => rfl⟩
theorem FX.trans {C : Cr} {w w1 w2 : World} (f : FX C w w1) (g : FX C w1 w2) : FX C w w2 := kfr2_trans f g (fun k hk => .inl hk)
theorem FX.size {C : Cr} {w w' : World} (f : FX C w w') : w.heap.size ≤ w'.heap.size := f.below.size
theorem FX.on {C : Cr} {w w1 w2 : World} (f : FX C w w1) (g : Below w1.heap.size w1 w2) (hB : C.B ≤ w.heap.size) : FX C w w2 := kfr2_trans (F1 := fun _ => False) f (Fr6.of_below g (Nat.le_trans hB f.size)) (fun k hk => hk.elim)
theorem Rd8.X_lt {C : Cr} {i : Nat} {en : Bool} {W : World} (h : Rd8 C i en W) : C.X < W.heap.size := by
  obtain ⟨a, c, h1, _⟩ := h.pl
  exact lt_of_heap h1
theorem Rd8.x_blk {C : Cr} {i : Nat} {en : Bool} {W : World} (h : Rd8 C i en W) : ∃ Z, W.heap[C.x]? = some (.cells Z 159 (0, 0)) := by
  obtain ⟨F, y, c, _, h1⟩ := h.rd
  exact ⟨_, h1.blk⟩
theorem Rd8.hB {C : Cr} {i : Nat} {en : Bool} {W : World} (h : Rd8 C i en W) : C.B ≤ W.heap.size := Nat.le_trans h.hX (Nat.le_of_lt h.X_lt)
/-- Whatever has another type than the reader's blocks may be written. -/
theorem Rd8.keep {C : Cr} {i : Nat} {en : Bool} {W W' : World} (h : Rd8 C i en W) (f : ∀ (k : Nat) (Z : Array Value) (T : TypeId), W.heap[k]? = some (.cells Z T (0, 0)) → T = 127 ∨ T = 159 ∨ T = 5 ∨ T = 55 → W'.heap[k]? = W.heap[k]?) : Rd8 C i en W' := by
  obtain ⟨F, y, c, hF, h1⟩ := h.rd
  refine ⟨h.ne, h.hX, ⟨F, y, c, hF, h1.keep (f _ _ _ h1.blk (.inr (.inl rfl))) ?_⟩, h.hi, h.len, ?_, h.few, h.cl, h.z0, h.one⟩
  · rcases h1.row.2 with ⟨hv, _⟩ | ⟨g, cap, cur, hv, _, hh, _⟩
    · cases hv
    · injection hv with hv
      injection hv with hv
      injection hv with hv
      subst hv
      exact f _ _ _ hh (.inr (.inr (.inl rfl)))
  · obtain ⟨a, c, h2, h3⟩ := h.pl
    refine ⟨a, c, (f _ _ _ h2 (.inl rfl)).trans h2, ?_⟩
    rcases h3 with h3 | ⟨q, e1, e2, h3⟩
    · exact .inl h3
    · exact .inr ⟨q, e1, e2, (f _ _ _ h3 (.inr (.inr (.inr rfl)))).trans h3⟩
theorem Rd8.below {C : Cr} {i : Nat} {en : Bool} {W W' : World} (h : Rd8 C i en W) (f : Below W.heap.size W W') : Rd8 C i en W' := h.keep fun k Z T hk _ => f.block k (lt_of_heap hk)
theorem Rd8.set {C : Cr} {i : Nat} {en : Bool} {W : World} (h : Rd8 C i en W) {R : Nat} {Z : Array Value} {T : TypeId} (hR : W.heap[R]? = some (.cells Z T (0, 0))) (hT : ¬ (T = 127 ∨ T = 159 ∨ T = 5 ∨ T = 55)) (j : Nat) (v : Value) : Rd8 C i en (W.setCell ⟨R, j, none⟩ v) :=
  h.keep fun k Z' T' hk hT' => Below.heap_setCell _ _ _ _ fun e => by
    simp only at e
    subst e
    rw [hR] at hk
    injection hk with hk
    injection hk with _ hk
    subst hk
    exact hT hT'
theorem Rd8.blk {C : Cr} {i : Nat} {en : Bool} {W W' : World} (h : Rd8 C i en W) (f : FX C W W') {k : Nat} {Z : Array Value} {T : TypeId} (hk : W.heap[k]? = some (.cells Z T (0, 0))) (h1 : T ≠ 127) (h2 : T ≠ 159) : W'.heap[k]? = some (.cells Z T (0, 0)) :=
  (f.other k (lt_of_heap hk) fun hF => by
    rcases hF with rfl | rfl
    · obtain ⟨a, c, h3, _⟩ := h.pl
      rw [h3] at hk
      injection hk with hk
      injection hk with _ hk
      exact h1 hk.symm
    · obtain ⟨Y, h3⟩ := h.x_blk
      rw [h3] at hk
      injection hk with hk
      injection hk with _ hk
      exact h2 hk.symm).trans hk
/-- The mark written. -/
theorem Rd8.mark {C : Cr} {i : Nat} {en : Bool} {W : World} (h : Rd8 C i en W) (en' : Bool) : Rd8 C i en' (W.setCell ⟨C.X, 2, none⟩ (.bool en')) ∧ FX C W (W.setCell ⟨C.X, 2, none⟩ (.bool en')) := by
  obtain ⟨a, c, h1, h2⟩ := h.pl
  have hs : ∀ k, k ≠ C.X → (W.setCell ⟨C.X, 2, none⟩ (.bool en')).heap[k]? = W.heap[k]? := fun k hk => Below.heap_setCell _ _ _ _ hk
  have hne : ∀ (k : Nat) (Z : Array Value) (T : TypeId), W.heap[k]? = some (.cells Z T (0, 0)) → T ≠ 127 → k ≠ C.X := fun k Z T hk hT e => by
    subst e
    rw [h1] at hk
    injection hk with hk
    injection hk with _ hk
    exact hT hk.symm
  obtain ⟨F, y, d, hF, h3⟩ := h.rd
  refine ⟨⟨h.ne, h.hX, ⟨F, y, d, hF, h3.keep (hs _ (fun e => h.ne e.symm)) ?_⟩, h.hi, h.len, ⟨a, c, heap_setCell_same W _ 2 _ _ _ h1, ?_⟩, h.few, h.cl, h.z0, h.one⟩, (Below.refl _ _).setCell (p := ⟨C.X, 2, none⟩) h.hX _, fun k _ hk => hs k (fun e => hk (.inl e))⟩
  · rcases h3.row.2 with ⟨hv, _⟩ | ⟨g, cap, cur, hv, _, hh, _⟩
    · cases hv
    · injection hv with hv
      injection hv with hv
      injection hv with hv
      subst hv
      exact hs _ (hne _ _ _ hh (by decide))
  · rcases h2 with h2 | ⟨q, e1, e2, h2⟩
    · exact .inl h2
    · exact .inr ⟨q, e1, e2, (hs _ (hne _ _ _ h2 (by decide))).trans h2⟩

end Go.Proofs.YtdcoknnjgpdigaaGreatDoor

/- The landed class: its reader: pass, text, className. -/
namespace Go.Proofs.YtdcoknnjgpdigaaGreatDoor
open Go.RowKit
set_option linter.unusedVariables false
set_option maxRecDepth 100000

theorem Rd8.es {C : Cr} {i : Nat} {en : Bool} {W : World} (h : Rd8 C i en W) : ∃ a c, W.heap[C.X]? = some (.cells #[.pointer (some ⟨C.x, 0, none⟩), .slice a C.l.length c, .bool en] 127 (0, 0)) ∧ Es W a C.l.length C.l := by
  obtain ⟨a, c, h1, h2⟩ := h.pl
  refine ⟨a, c, h1, rfl, ?_⟩
  rcases h2 with ⟨_, _, h2⟩ | ⟨q, e1, e2, h2⟩
  · exact .inl (by rw [h2]; rfl)
  · exact .inr ⟨q, 0, e1, es_of_block h2⟩

end Go.Proofs.YtdcoknnjgpdigaaGreatDoor
