/- Layer 15: the walk of HeapFrees. -/
import Derived.Test.YtnnanlniffjnkaaJHpR
import Derived.Test.YtnnanlniffjnkaaJHpS

namespace Go.Proofs.Ytnnanlniffjnkaa
open Go.RowKit
set_option linter.unusedVariables false
set_option maxRecDepth 100000

theorem hIn_one {w : World} {ty : List UInt8} {s : Sl} {ws : List Vl} (h : WsIn w s ws) : HIn (w.alloc (.cells #[.string ⟨ty.toArray⟩, s.v] 43)) ⟨some ⟨w.heap.size, 0, none⟩, 1, 1⟩ [⟨ty, s, ws⟩] :=
  ⟨ls_one (cs := obc) (sz := 2) w _ _ (ObR.mk ty s ws) rfl, Nat.le_refl _, by simp, (fun e => by cases e), by simp, fun x hx => by
    simp at hx
    subst hx
    exact h.below ((Below.refl _ _).alloc (Nat.le_refl _) _)⟩
theorem getPost.none {w : World} {l : List Ob} {n : Int} {e : Ending} {w' : World} (h : getPost w l n e w') (h0 : getH l n = none) : Below w.heap.size w w' ∧ e = .returned (.tuple #[.agg #[.string ⟨#[]⟩, .slice none 0 0], .int .i64 150]) := by
  obtain ⟨f, ⟨_, h1⟩ | ⟨o, s, h1, _⟩⟩ := h
  · exact ⟨f, h1⟩
  · rw [h0] at h1; cases h1
theorem getPost.ok {w : World} {l : List Ob} {n : Int} {o : Ob} {e : Ending} {w' : World} (h : getPost w l n e w') (h0 : getH l n = some o) : Below w.heap.size w w' ∧ ∃ s, WsIn w' s o.ws ∧ e = .returned (.tuple #[.agg #[.string ⟨o.ty.toArray⟩, s.v], .int .i64 0]) := by
  obtain ⟨f, ⟨h1, _⟩ | ⟨o2, s, h1, h2, h3⟩⟩ := h
  · rw [h0] at h1; cases h1
  · rw [h0] at h1
    injection h1 with h1
    subst h1
    exact ⟨f, s, h2, h3⟩
theorem freePost.none {w : World} {l : List Ob} {n : Int} {e : Ending} {w' : World} (h : freePost w l n e w') (h0 : freeH l n = none) : Below w.heap.size w w' ∧ e = .returned (.tuple #[.slice none 0 0, .int .i64 150]) := by
  obtain ⟨f, ⟨_, h1⟩ | ⟨l2, s, rs, h1, _⟩⟩ := h
  · exact ⟨f, h1⟩
  · rw [h0] at h1; cases h1
end Go.Proofs.Ytnnanlniffjnkaa
