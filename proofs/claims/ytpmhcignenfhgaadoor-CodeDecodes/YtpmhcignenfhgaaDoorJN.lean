/- Joined: CkR CkS. -/
import Derived.Test.YtpmhcignenfhgaaDoorJLsA
import Derived.Test.YtpmhcignenfhgaaDoorJCkB
import Derived.Test.YtpmhcignenfhgaaDoorJD
import Derived.Test.YtpmhcignenfhgaaDoorJClF

/- The landed class: its lists cloned. -/
namespace Go.Proofs.YtpmhcignenfhgaaDoor
open Go.RowKit
set_option linter.unusedVariables false
set_option maxRecDepth 100000

theorem ls_of_es {w : World} {a : Option Addr} {n : Nat} {l : List Ent} (h : Es w a n l) : Ls 5 ec w a n l := by
  refine ⟨h.1, ?_⟩
  rcases h.2 with h0 | ⟨b, o, e, hE⟩
  · exact .inl h0
  · by_cases hn : n = 0
    · exact .inl hn
    · have key : ∀ (k : Nat) (x : Ent), l[k]? = some x → ∀ (q : Nat) (u : Value), (ec x)[q]? = some u → w.cell? ⟨b, o + k * 5 + q, none⟩ = some u := fun k x hx q u hu => by
        have := hE ⟨b, o, none⟩ rfl (k * 5 + q) u (flatR_at (cs := ec) (fun _ => rfl) l k x hx q u hu)
        rw [Addr.add_mid, ← Nat.add_assoc] at this
        exact this
      obtain ⟨x, hx⟩ : ∃ x, l[0]? = some x := ⟨_, List.getElem?_eq_getElem (by have := h.1; omega)⟩
      have hlt := World.block_lt_of_cell? _ _ (key 0 x hx 0 _ rfl)
      exact .inr ⟨b, o, e, hlt, key⟩
theorem es_of_ls {w : World} {a : Option Addr} {n : Nat} {l : List Ent} (h : Ls 5 ec w a n l) : Es w a n l := by
  refine ⟨h.1, ?_⟩
  rcases h.2 with h0 | ⟨b, o, e, _, hE⟩
  · exact .inl h0
  · refine .inr ⟨b, o, e, fun ad ead j u hu => ?_⟩
    injection ead with ead
    subst ead
    obtain ⟨k, x, q, h1, h2, rfl⟩ := flatR_of (cs := ec) (sz := 5) (fun _ => rfl) (by decide) l j u hu
    rw [Addr.add_mid, ← Nat.add_assoc]
    exact hE k x h1 q u h2

end Go.Proofs.YtpmhcignenfhgaaDoor

/- The landed class: copyOfMap. -/
namespace Go.Proofs.YtpmhcignenfhgaaDoor
open Go.RowKit
set_option linter.unusedVariables false
set_option maxRecDepth 100000

theorem bx_cell {W : World} {p : Nat} {X : Array Value} {t : TypeId} (h : W.heap[p]? = some (.cells X t)) : ∀ (q : Nat) (v : Value), X[q]? = some v → W.cell? ⟨p, q, none⟩ = some v := fun q v hv => by unfold World.cell?; simp [h, hv]
theorem bx_set3 {W : World} {A : Nat} {T : TypeId} {a0 a1 a2 : Value} (c0 c1 c2 : Value) (h : W.heap[A]? = some (.cells #[a0, a1, a2] T)) : (((W.setCell ⟨A, 0, none⟩ c0).setCell ⟨A, 1, none⟩ c1).setCell ⟨A, 2, none⟩ c2).heap[A]? = some (.cells #[c0, c1, c2] T) := by
  have h0 := heap_setCell_same W A 0 _ _ c0 h
  have h1 := heap_setCell_same _ A 1 _ _ c1 h0
  exact heap_setCell_same _ A 2 _ _ c2 h1
theorem bx_thaw {W : World} {p : Nat} {X : Array Value} {t : TypeId} (h : W.heap[p]? = some (.cells X t)) (q : Nat) : W.frozen? ⟨p, q, none⟩ = false := frozen_of_row _ _ _ _ _ h
end Go.Proofs.YtpmhcignenfhgaaDoor
