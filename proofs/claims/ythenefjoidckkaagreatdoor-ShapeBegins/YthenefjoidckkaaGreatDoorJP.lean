/- Joined: CfD CfE CfF. -/
import Derived.Test.YthenefjoidckkaaGreatDoorJO
import Derived.Test.YthenefjoidckkaaGreatDoorJCeH

/- The landed code: cases. -/
namespace Go.Proofs.YthenefjoidckkaaGreatDoor
open Go.RowKit
set_option linter.unusedVariables false
set_option maxRecDepth 100000

/-- So many, one behind the other, by their numbers. -/
def many9 {α : Type} (one : Nat → Nat → Option (α × Nat)) : Nat → Nat → Nat → Option (List α × Nat)
  | 0, _, i => some ([], i)
  | n + 1, k, i => (one k i).bind fun x => (many9 one n (k + 1) x.2).bind fun r => some (x.1 :: r.1, r.2)
theorem many9_succ {α : Type} (one : Nat → Nat → Option (α × Nat)) (n k i : Nat) : many9 one (n + 1) k i = (one k i).bind fun x => (many9 one n (k + 1) x.2).bind fun r => some (x.1 :: r.1, r.2) := rfl
/-- Between two of them. -/
structure Mid9 {α : Type} (one : Nat → Nat → Option (α × Nat)) (N i : Nat) (wr : Bool) (xs : List α) (j : Nat) (wj : Bool) : Prop where
  tru : wr = true → wj = true
  no : wr = false → wj = true → many9 one N 0 i = none
  yes : wr = false → wj = false → many9 one N 0 i = (many9 one (N - xs.length) xs.length j).bind fun r => some (xs ++ r.1, r.2)
  le : i ≤ j
theorem Mid9.start {α : Type} (one : Nat → Nat → Option (α × Nat)) (N i : Nat) (wr : Bool) : Mid9 one N i wr [] i wr :=
  ⟨fun e => e, (fun e1 e2 => by rw [e1] at e2; cases e2), (fun _ _ => by cases h : many9 one N 0 i <;> simp), Nat.le_refl _⟩
theorem Mid9.next {α : Type} {one : Nat → Nat → Option (α × Nat)} {N i : Nat} {wr : Bool} {xs : List α} {j : Nat} (h : Mid9 one N i wr xs j false) (hl : xs.length < N) {x : α} {j' : Nat} {w' : Bool} (g : G9 (one xs.length j) false x j' w') (hle : j ≤ j') : Mid9 one N i wr (xs ++ [x]) j' w' := by
  have hwr : wr = false := by cases wr; rfl; have := h.tru rfl; cases this
  have h2 := h.yes hwr rfl
  obtain ⟨m, hm⟩ : ∃ m, N - xs.length = m + 1 := ⟨N - xs.length - 1, by omega⟩
  rw [hm, many9_succ] at h2
  refine ⟨(fun e => by rw [hwr] at e; cases e), fun _ e => ?_, fun _ e => ?_, by have := h.le; omega⟩
  · rcases g.2 rfl with ⟨_, g2⟩ | ⟨g1, g2⟩
    · rw [g2] at e; cases e
    · rw [h2, g1]; rfl
  · rcases g.2 rfl with ⟨g1, g2⟩ | ⟨g1, g2⟩
    · rw [h2, g1, List.length_append, List.length_cons, List.length_nil, show N - (xs.length + (0 + 1)) = m by omega, Nat.zero_add]
      simp only [Option.bind_some]
      cases many9 one m (xs.length + 1) j' with
      | none => rfl
      | some r => simp
    · rw [g2] at e; cases e
theorem Mid9.done {α : Type} {one : Nat → Nat → Option (α × Nat)} {N i : Nat} {wr : Bool} {xs : List α} {j : Nat} {wj : Bool} (h : Mid9 one N i wr xs j wj) (hx : ¬ xs.length < N ∨ wj = true) (hl : xs.length ≤ N) : G9 (many9 one N 0 i) wr xs j wj := by
  refine ⟨h.tru, fun e => ?_⟩
  cases wj with
  | true => exact .inr ⟨h.no e rfl, rfl⟩
  | false =>
    refine .inl ⟨?_, rfl⟩
    rw [h.yes e rfl, show N - xs.length = 0 by have := hx.resolve_right (by simp); omega]
    simp [many9]
def CasFit (x : Cas) : Prop := (-9000000000000000000 ≤ x.key ∧ x.key ≤ 9000000000000000000) ∧ (-9000000000000000000 ≤ x.to_ ∧ x.to_ ≤ 9000000000000000000)
theorem orw_blk0 {α : Type} {cs : α → List Value} {e : TypeId} {sz : Nat} {w : World} {base : Nat} {v : Value} {l : List α} (h : Orw cs e sz w base v l) {k : Nat} (hk : v.ownBlock = some k) : ∃ X fr, w.heap[k]? = some (.cells X e fr) ∧ fr = (0, 0) := by
  rcases h.2 with ⟨hv, _⟩ | ⟨g, cap, cur, hv, hb, hh, r⟩
  · rw [hv] at hk; cases hk
  · rw [hv] at hk
    injection hk with hk
    subst hk
    exact ⟨_, _, hh, rfl⟩
theorem FX9.grown {C : Cr9} {w W W' : World} (f : FX9 C w W) (hB : C.B ≤ w.heap.size) {α : Type} {cs : α → List Value} {e : TypeId} {sz : Nat} {v : Value} {l : List α} (o : Orw cs e sz W w.heap.size v l) (g : W.grownBy W' v.ownBlock) : FX9 C w W' :=
  ⟨f.below.grown g (Nat.le_trans hB f.size) (fun k hk => Nat.le_trans hB (o.lt k hk).1), fun k hk hn => (g.block k (Nat.lt_of_lt_of_le hk f.size) (fun ek => by have := (o.lt k ek.symm).1; omega)).trans (f.other k hk hn)⟩
end Go.Proofs.YthenefjoidckkaaGreatDoor

/- The landed code: rise, table, search. -/
namespace Go.Proofs.YthenefjoidckkaaGreatDoor
open Go.RowKit
set_option linter.unusedVariables false
set_option maxRecDepth 100000

end Go.Proofs.YthenefjoidckkaaGreatDoor

/- The landed code: table, search. -/
namespace Go.Proofs.YthenefjoidckkaaGreatDoor
open Go.RowKit
set_option linter.unusedVariables false
set_option maxRecDepth 100000

end Go.Proofs.YthenefjoidckkaaGreatDoor
