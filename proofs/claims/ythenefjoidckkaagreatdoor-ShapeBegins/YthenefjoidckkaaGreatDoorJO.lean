/- Joined: CfA CfB CfC. -/
import Derived.Test.YthenefjoidckkaaGreatDoorJG1
import Derived.Test.YthenefjoidckkaaGreatDoorJI
import Derived.Test.YthenefjoidckkaaGreatDoorJN
import Derived.Test.YthenefjoidckkaaGreatDoorJB
import Derived.Test.YthenefjoidckkaaGreatDoorJTxA

/- The landed code: its reader while instructions are read; refuseIf, number. -/
namespace Go.Proofs.YthenefjoidckkaaGreatDoor
open Go.RowKit
set_option linter.unusedVariables false
set_option maxRecDepth 100000

/-- What was read, by what can be read: if nothing was wrong it is that, and if it can't be read that is marked. -/
def G9 {α : Type} (o : Option (α × Nat)) (wr : Bool) (v : α) (i' : Nat) (wr' : Bool) : Prop :=
  (wr = true → wr' = true) ∧ (wr = false → (o = some (v, i') ∧ wr' = false) ∨ (o = none ∧ wr' = true))
theorem G9.bind {α β : Type} {o : Option (α × Nat)} {f : α × Nat → Option (β × Nat)} {w0 w1 w2 : Bool} {u : α} {i1 : Nat} {v : β} {i2 : Nat} (h1 : G9 o w0 u i1 w1) (h2 : G9 (f (u, i1)) w1 v i2 w2) : G9 (o.bind f) w0 v i2 w2 := by
  refine ⟨fun e => h2.1 (h1.1 e), fun e => ?_⟩
  rcases h1.2 e with ⟨e1, e2⟩ | ⟨e1, e2⟩
  · rw [e1]
    exact h2.2 e2
  · rw [e1]
    exact .inr ⟨rfl, h2.1 e2⟩
theorem G9.pure {α : Type} (v : α) (i : Nat) (wr : Bool) : G9 (some (v, i)) wr v i wr := ⟨fun e => e, fun e => .inl ⟨rfl, e⟩⟩
theorem G9.map {α β : Type} {o : Option (α × Nat)} {g : α → Nat → β} {w0 w1 : Bool} {u : α} {i1 : Nat} (h : G9 o w0 u i1 w1) : G9 (o.bind fun x => some (g x.1 x.2, x.2)) w0 (g u i1) i1 w1 := h.bind (G9.pure _ _ _)
/-- The reader's object, what it reads with, the bytes. -/
structure Cr9 where
  X : Nat
  x : Nat
  B : Nat
  bs : List UInt8
def FX9 (C : Cr9) (w w' : World) : Prop := Fr6 (fun k => k = C.X ∨ k = C.x) C.B w w'
theorem FX9.refl (C : Cr9) (w : World) : FX9 C w w := ⟨Below.refl _ _, fun _ _ _ => rfl⟩
theorem FX9.trans {C : Cr9} {w w1 w2 : World} (f : FX9 C w w1) (g : FX9 C w1 w2) : FX9 C w w2 := kfr2_trans f g (fun k hk => .inl hk)
theorem FX9.size {C : Cr9} {w w' : World} (f : FX9 C w w') : w.heap.size ≤ w'.heap.size := f.below.size
theorem FX9.on {C : Cr9} {w w1 w2 : World} (f : FX9 C w w1) (g : Below w1.heap.size w1 w2) (hB : C.B ≤ w.heap.size) : FX9 C w w2 := kfr2_trans (F1 := fun _ => False) f (Fr6.of_below g (Nat.le_trans hB f.size)) (fun k hk => hk.elim)
end Go.Proofs.YthenefjoidckkaaGreatDoor

/- The landed code: numbers that its reader reads; near, far. -/
namespace Go.Proofs.YthenefjoidckkaaGreatDoor
open Go.RowKit
set_option linter.unusedVariables false
set_option maxRecDepth 100000

end Go.Proofs.YthenefjoidckkaaGreatDoor

/- The landed code: noughts. -/
namespace Go.Proofs.YthenefjoidckkaaGreatDoor
open Go.RowKit
set_option linter.unusedVariables false
set_option maxRecDepth 100000

/-- Between two noughts. -/
structure PD (bs : List UInt8) (i : Nat) (wr : Bool) (k : Nat) (wk : Bool) : Prop where
  tru : wr = true → wk = true
  no : wr = false → wk = true → padR bs 3 i = none
  yes : wr = false → wk = false → ∃ f, (4 - k % 4) % 4 ≤ f ∧ padR bs 3 i = padR bs f k
  le : i ≤ k
theorem PD.start (bs : List UInt8) (i : Nat) (wr : Bool) : PD bs i wr i wr := ⟨fun e => e, (fun e1 e2 => by rw [e1] at e2; cases e2), fun _ _ => ⟨3, by omega, rfl⟩, Nat.le_refl _⟩
def padG (bs : List UInt8) (i : Nat) : Option (Unit × Nat) := (padR bs 3 i).bind fun j => some ((), j)
theorem PD.stop {bs : List UInt8} {i : Nat} {wr : Bool} {k : Nat} {wk : Bool} (h : PD bs i wr k wk) (hk : k % 4 = 0 ∨ wk = true) : G9 (padG bs i) wr () k wk := by
  refine ⟨h.tru, fun e => ?_⟩
  cases wk with
  | true => exact .inr ⟨by unfold padG; rw [h.no e rfl]; rfl, rfl⟩
  | false =>
    obtain ⟨f, _, h2⟩ := h.yes e rfl
    have h0 : k % 4 = 0 := hk.resolve_right (by simp)
    refine .inl ⟨?_, rfl⟩
    unfold padG
    rw [h2]
    cases f <;> simp [padR, h0]
theorem PD.next {bs : List UInt8} {i : Nat} {wr : Bool} {k : Nat} (h : PD bs i wr k false) (hk : k % 4 ≠ 0) {n : Int} {k' : Nat} {w' : Bool} (g : G9 (gR bs k 1 false) false n k' w') (hk' : w' = false → k' = k + 1) (hle : k ≤ k') : PD bs i wr k' (w' || decide (n ≠ 0)) := by
  have hwr : wr = false := by cases wr; rfl; have := h.tru rfl; cases this
  obtain ⟨f, hf, h2⟩ := h.yes hwr rfl
  obtain ⟨f, rfl⟩ : ∃ f', f = f' + 1 := ⟨f - 1, by omega⟩
  have h3 : padR bs (f + 1) k = (gR bs k 1 false).bind fun x => if x.1 = 0 then padR bs f x.2 else none := by
    conv => lhs; unfold padR
    rw [if_neg hk]
  rw [h3] at h2
  refine ⟨(fun e => by rw [hwr] at e; cases e), fun _ e => ?_, fun _ e => ?_, by have := h.le; omega⟩
  · rw [h2]
    rcases g.2 rfl with ⟨g1, g2⟩ | ⟨g1, g2⟩
    · rw [g1]
      rw [g2] at e
      have : n ≠ 0 := by simpa using e
      simp [this]
    · rw [g1]; rfl
  · rcases g.2 rfl with ⟨g1, g2⟩ | ⟨g1, g2⟩
    · rw [g2] at e
      have : n = 0 := by simpa using e
      subst this
      have := hk' g2
      refine ⟨f, by omega, ?_⟩
      rw [h2, g1]
      simp
    · rw [g2] at e; cases e
end Go.Proofs.YthenefjoidckkaaGreatDoor
