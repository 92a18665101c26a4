/- Joined: CfL CfM. -/
import Derived.Test.YthenefjoidckkaaGreatDoorJR
import Derived.Test.YthenefjoidckkaaGreatDoorJS
import Derived.Test.YthenefjoidckkaaGreatDoorJG1

/- The landed code: instrsOf. -/
namespace Go.Proofs.YthenefjoidckkaaGreatDoor
open Go.RowKit
set_option linter.unusedVariables false
set_option maxRecDepth 100000

theorem insL_fuel {bs : List UInt8} {i f g : Nat} (hi : i ≤ bs.length) (hf : bs.length - i ≤ f) (hg : bs.length - i ≤ g) : insL bs f i = insL bs g i := by
  cases h1 : insL bs f i with
  | some l => exact (insL_fit f i l h1 hi g hg).symm
  | none =>
    cases h2 : insL bs g i with
    | none => rfl
    | some l => rw [insL_fit g i l h2 hi f hf] at h1; cases h1
/-- Between two instructions. -/
structure ML (bs : List UInt8) (xs : List Ins) (j : Nat) (wj : Bool) : Prop where
  no : wj = true → insL bs bs.length 0 = none
  yes : wj = false → insL bs bs.length 0 = (insL bs (bs.length - j) j).bind fun r => some (xs ++ r)
  lenf : wj = false → xs.length ≤ j
  len : xs.length ≤ j + 1
  hj : j ≤ bs.length
theorem ML.start (bs : List UInt8) : ML bs [] 0 false := ⟨(fun e => by cases e), (fun _ => by cases h : insL bs bs.length 0 <;> simp), fun _ => Nat.le_refl _, by simp, Nat.zero_le _⟩
theorem ML.next {bs : List UInt8} {xs : List Ins} {j : Nat} (h : ML bs xs j false) (hlt : j < bs.length) {x : Ins} {j' : Nat} {w' : Bool} (g : G9 (insR bs j) false x j' w') (hle : j ≤ j') (h1 : w' = false → j < j') (hj' : j' ≤ bs.length) : ML bs (xs ++ [x]) j' w' := by
  have h2 := h.yes rfl
  obtain ⟨m, hm⟩ : ∃ m, bs.length - j = m + 1 := ⟨bs.length - j - 1, by omega⟩
  have h3 : insL bs (m + 1) j = (insR bs j).bind fun x => (insL bs m x.2).bind fun r => some (x.1 :: r) := by
    conv => lhs; unfold insL
    rw [if_neg (by omega)]
  rw [hm, h3] at h2
  have hl := h.lenf rfl
  refine ⟨fun e => ?_, fun e => ?_, fun e => by simp; have := h1 e; omega, by simp; omega, hj'⟩
  · rcases g.2 rfl with ⟨_, g2⟩ | ⟨g1, g2⟩
    · rw [g2] at e; cases e
    · rw [h2, g1]; rfl
  · rcases g.2 rfl with ⟨g1, g2⟩ | ⟨g1, g2⟩
    · rw [h2, g1]
      simp only [Option.bind_some]
      have := h1 e
      rw [insL_fuel (i := j') (f := m) (g := bs.length - j') hj' (by omega) (Nat.le_refl _)]
      cases insL bs (bs.length - j') j' with
      | none => rfl
      | some r => simp
    · rw [g2] at e; cases e
theorem ML.code {bs : List UInt8} {xs : List Ins} {j : Nat} {wj : Bool} (h : ML bs xs j wj) (hd : ¬ j < bs.length ∨ wj = true) :
    (wj = false → insL bs bs.length 0 = some xs) ∧ codeP bs = if wj = false ∧ xs ≠ [] ∧ leadsP xs = true then some xs else none := by
  have h1 : wj = false → insL bs bs.length 0 = some xs := fun e => by
    have hj : j = bs.length := by have := hd.resolve_right (by rw [e]; simp); have := h.hj; omega
    rw [h.yes e, hj, Nat.sub_self]
    simp [insL]
  refine ⟨h1, ?_⟩
  unfold codeP
  cases wj with
  | true => rw [h.no rfl]; simp
  | false => rw [h1 rfl]; simp
structure InsOk (w : World) (base : Nat) (r : InR) : Prop where
  own : Orw cac 99 2 w base r.s.v r.x.cs
  fit : InsFit r.x
theorem InsOk.keep {w w' : World} {base : Nat} {r : InR} (h : InsOk w base r) (f : ∀ (k : Nat) (Z : Array Value), w.heap[k]? = some (.cells Z 99 (0, 0)) → w'.heap[k]? = w.heap[k]?) : InsOk w' base r :=
  ⟨h.own.below fun k hk => by
    obtain ⟨X, fr, hX, hfr⟩ := orw_blk0 h.own hk
    subst hfr
    exact f k X hX, h.fit⟩
theorem InsOk.base {w : World} {base base' : Nat} {r : InR} (h : InsOk w base r) (hb : base' ≤ base) : InsOk w base' r := ⟨h.own.base hb, h.fit⟩
theorem InsOk.ls {w : World} {base : Nat} {r : InR} (h : InsOk w base r) : Ls 2 cac w r.s.a r.s.n r.x.cs ∧ r.s.n ≤ 100000000000 := by
  have h1 : Ls 2 cac w r.s.a r.s.n r.x.cs := Orw.ls rkC h.own
  exact ⟨h1, by have := h1.1; have := h.fit.2.2.2.2.2; omega⟩
end Go.Proofs.YthenefjoidckkaaGreatDoor

/- The landed code: Decode. -/
namespace Go.Proofs.YthenefjoidckkaaGreatDoor
open Go.RowKit
set_option linter.unusedVariables false
set_option maxRecDepth 100000

end Go.Proofs.YthenefjoidckkaaGreatDoor
