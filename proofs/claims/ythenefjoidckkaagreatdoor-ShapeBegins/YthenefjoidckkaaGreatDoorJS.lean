/- Joined: CfG CfH. -/
import Derived.Test.YthenefjoidckkaaGreatDoorJR
import Derived.Test.YthenefjoidckkaaGreatDoorJQ
import Derived.Test.YthenefjoidckkaaGreatDoorJP
import Derived.Deep.RegionWith

/- The landed code: an instruction read. -/
namespace Go.Proofs.YthenefjoidckkaaGreatDoor
open Go.RowKit
set_option linter.unusedVariables false
set_option maxRecDepth 100000

def inc0 : Array Value := #[.int .i64 0, .int .i64 0, .int .i64 0, .int .i64 0, .slice none 0 0]
theorem cells9_other (g : Nat) : ∀ (vs : List Value) (o : Nat) (w : World) (k : Nat), k ≠ g → (w.setCells g o vs).heap[k]? = w.heap[k]?
  | [], _, _, _, _ => rfl
  | u :: us, o, w, k, h => (cells9_other g us (o + 1) _ k h).trans (Below.heap_setCell _ _ _ _ h)
theorem cells9_below {B b : Nat} : ∀ (vs : List Value) (o : Nat) {w0 w : World}, Below B w0 w → B ≤ b → Below B w0 (w.setCells b o vs)
  | [], _, _, _, h, _ => h
  | v :: r, o, _, _, h, hb => cells9_below r (o + 1) (h.setCell (p := ⟨b, o, none⟩) hb v) hb
theorem cells9_in {R : Nat} {T : TypeId} : ∀ (vs A P : List Value) (W : World), W.heap[R]? = some (.cells (A ++ P).toArray T (0, 0)) → P.length = vs.length → (W.setCells R A.length vs).heap[R]? = some (.cells (A ++ vs).toArray T (0, 0))
  | [], A, P, W, h, hl => by
    obtain rfl := List.eq_nil_of_length_eq_zero hl
    exact h
  | v :: vs, A, [], W, h, hl => by simp at hl
  | v :: vs, A, p :: P, W, h, hl => by
    have h1 := heap_setCell_same W R A.length _ _ v h
    have e1 : (A ++ p :: P).toArray.setIfInBounds A.length v = ((A ++ [v]) ++ P).toArray := by
      apply Array.ext'
      simp
    rw [e1] at h1
    have h2 := cells9_in vs (A ++ [v]) P _ h1 (by simpa using hl)
    rw [List.length_append, List.length_cons, List.length_nil, List.append_assoc] at h2
    exact h2
end Go.Proofs.YthenefjoidckkaaGreatDoor

/- The landed code: readerOf. -/
namespace Go.Proofs.YthenefjoidckkaaGreatDoor
open Go.RowKit
set_option linter.unusedVariables false
set_option maxRecDepth 100000

end Go.Proofs.YthenefjoidckkaaGreatDoor
