/- Joined: CfG CfH. -/
import Derived.Test.YteooppjbpekepaaGreatDoorJR
import Derived.Test.YteooppjbpekepaaGreatDoorJQ
import Derived.Test.YteooppjbpekepaaGreatDoorJP
import Derived.Deep.RegionWith

/- The landed code: an instruction read. -/
namespace Go.Proofs.YteooppjbpekepaaGreatDoor
open Go.RowKit
set_option linter.unusedVariables false
set_option maxRecDepth 100000

def inc0 : Array Value := #[.int .i64 0, .int .i64 0, .int .i64 0, .int .i64 0, .slice none 0 0]
theorem cells9_other (g : Nat) : ∀ (vs : List Value) (o : Nat) (w : World) (k : Nat), k ≠ g → (w.setCells g o vs).heap[k]? = w.heap[k]?
  | [], _, _, _, _ => rfl
  | u :: us, o, w, k, h => (cells9_other g us (o + 1) _ k h).trans (Below.heap_setCell _ _ _ _ h)
theorem cells9_below {B b : Nat} : ∀ (vs : List Value) (o : Nat) {w0 w : World}, Below B w0 w → B ≤ b → Below B w0 (w.setCells b o vs)
  | [], _, _, _, h, _ => h
  | v :: r, o, _, _, h, hb => cells9_below r (o + 1) (h.setCell (p := ⟨b, o, none⟩) hb v) hb
theorem cells9_in {R : Nat} {T : TypeId} : ∀ (vs A P : List Value) (W : World), W.heap[R]? = some (.cells (A ++ P).toArray T (0, 0)) → P.length = vs.length → (W.setCells R A.length vs).heap[R]? = some (.cells (A ++ vs).toArray T (0, 0))
  | [], A, P, W, h, hl => by
    obtain rfl := List.eq_nil_of_length_eq_zero hl
    exact h
  | v :: vs, A, [], W, h, hl => by simp at hl
  | v :: vs, A, p :: P, W, h, hl => by
    have h1 := heap_setCell_same W R A.length _ _ v h
    have e1 : (A ++ p :: P).toArray.setIfInBounds A.length v = ((A ++ [v]) ++ P).toArray := by
      apply Array.ext'
      simp
    rw [e1] at h1
    have h2 := cells9_in vs (A ++ [v]) P _ h1 (by simpa using hl)
    rw [List.length_append, List.length_cons, List.length_nil, List.append_assoc] at h2
    exact h2
theorem FX9.setc {C : Cr9} {w W : World} (f : FX9 C w W) {R : Nat} (hR : w.heap.size ≤ R) (hB : C.B ≤ w.heap.size) (o : Nat) (vs : List Value) : FX9 C w (W.setCells R o vs) :=
  ⟨cells9_below vs o f.below (Nat.le_trans hB hR), fun k hk hn => (cells9_other R vs o W k (by omega)).trans (f.other k hk hn)⟩
theorem Tab9.fx {C : Cr9} {w w' : World} (h : Tab9 w) (f : FX9 C w w') (hB : 2 ≤ C.B) : Tab9 w' := by
  obtain ⟨t, fr, h⟩ := h
  exact ⟨t, fr, (f.below.block 1 (by omega)).trans h⟩
end Go.Proofs.YteooppjbpekepaaGreatDoor

/- The landed code: readerOf. -/
namespace Go.Proofs.YteooppjbpekepaaGreatDoor
open Go.RowKit
set_option linter.unusedVariables false
set_option maxRecDepth 100000

def zero9 (x : Nat) : Array Value := (([.pointer (some ⟨x, 0, none⟩)] : List Value) ++ (List.replicate 40 Value.nilFunc : List Value) ++ ([.int .i64 0, .bool false] : List Value)).toArray
theorem mid9_in {R : Nat} {T : TypeId} : ∀ (vs A P Z : List Value) (W : World), W.heap[R]? = some (.cells (A ++ P ++ Z).toArray T (0, 0)) → P.length = vs.length → (W.setCells R A.length vs).heap[R]? = some (.cells (A ++ vs ++ Z).toArray T (0, 0))
  | [], A, P, Z, W, h, hl => by
    obtain rfl := List.eq_nil_of_length_eq_zero hl
    exact h
  | v :: vs, A, [], Z, W, h, hl => by simp at hl
  | v :: vs, A, p :: P, Z, W, h, hl => by
    have h1 := heap_setCell_same W R A.length _ _ v h
    have e1 : (A ++ p :: P ++ Z).toArray.setIfInBounds A.length v = ((A ++ [v]) ++ P ++ Z).toArray := by
      apply Array.ext'
      simp
    rw [e1] at h1
    have h2 := mid9_in vs (A ++ [v]) P Z _ h1 (by simpa using hl)
    rw [List.length_append, List.length_cons, List.length_nil, show A ++ [v] ++ vs ++ Z = A ++ (v :: vs) ++ Z by simp] at h2
    exact h2
theorem below9 {B b : Nat} : ∀ (vs : List Value) (o : Nat) {w0 w : World}, Below B w0 w → B ≤ b → Below B w0 (w.setCells b o vs)
  | [], _, _, _, h, _ => h
  | v :: r, o, _, _, h, hb => below9 r (o + 1) (h.setCell (p := ⟨b, o, none⟩) hb v) hb
end Go.Proofs.YteooppjbpekepaaGreatDoor
