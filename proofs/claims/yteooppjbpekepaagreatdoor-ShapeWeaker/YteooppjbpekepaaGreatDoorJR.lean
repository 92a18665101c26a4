/- Joined: CfI CfJ CfK CfGp. -/
import Derived.Test.YteooppjbpekepaaGreatDoorJP
import Derived.Test.YteooppjbpekepaaGreatDoorJQ

/- The landed code: Targets. -/
namespace Go.Proofs.YteooppjbpekepaaGreatDoor
open Go.RowKit
set_option linter.unusedVariables false
set_option maxRecDepth 100000

def ic (n : Int) : List Value := [.int .i64 n]
theorem orw_al9 {α : Type} {cs : α → List Value} {e : TypeId} {sz : Nat} {w : World} {base : Nat} {v : Value} {l : List α} (h : Orw cs e sz w base v l) (o : Obj) : Orw cs e sz (w.alloc o) base v l := h.below fun k hk => ((Below.refl _ _).alloc (Nat.le_refl _) _).block k (h.lt k hk).2
end Go.Proofs.YteooppjbpekepaaGreatDoor

/- The landed code: a search in instructions that stand in order. -/
namespace Go.Proofs.YteooppjbpekepaaGreatDoor
open Go.RowKit
set_option linter.unusedVariables false
set_option maxRecDepth 100000

/-- An instruction, and where its cases lie. -/
structure InR where
  x : Ins
  s : Sl
def inc (r : InR) : List Value := [.int .i64 r.x.at_, .int .i64 r.x.op, .int .i64 r.x.a, .int .i64 r.x.b, r.s.v]
def cmpI (a b : Int) : Int := if a < b then -1 else if b < a then 1 else 0
/-- In order. -/
def Rising (l : List Ins) : Prop := ∀ (p q : Nat) (x y : Ins), p < q → l[p]? = some x → l[q]? = some y → x.at_ < y.at_
end Go.Proofs.YteooppjbpekepaaGreatDoor

/- The landed code: staysWithin. -/
namespace Go.Proofs.YteooppjbpekepaaGreatDoor
open Go.RowKit
set_option linter.unusedVariables false
set_option maxRecDepth 100000

end Go.Proofs.YteooppjbpekepaaGreatDoor

/- The landed code: an instruction read, as plain values by its form. -/
namespace Go.Proofs.YteooppjbpekepaaGreatDoor
open Go.RowKit
set_option linter.unusedVariables false
set_option maxRecDepth 100000

/-- What comes behind the Op, by its form. -/
def insK (bs : List UInt8) (i : Nat) (f : Nat) (op : Int) (j : Nat) : Option (Ins × Nat) :=
  if f = 1 then some (⟨i, op, 0, 0, []⟩, j)
  else if f = 2 then (gR bs j 1 true).bind fun x => some (⟨i, op, x.1, 0, []⟩, x.2)
  else if f = 3 then (gR bs j 2 true).bind fun x => some (⟨i, op, x.1, 0, []⟩, x.2)
  else if f = 4 then (gR bs j 1 false).bind fun x => some (⟨i, op, x.1, 0, []⟩, x.2)
  else if f = 5 then (gR bs j 2 false).bind fun x => some (⟨i, op, x.1, 0, []⟩, x.2)
  else if f = 6 then (gR bs j 1 false).bind fun x => (gR bs x.2 1 true).bind fun y => some (⟨i, op, x.1, y.1, []⟩, y.2)
  else if f = 7 then (gR bs j 2 true).bind fun x => some (⟨i, op, i + x.1, 0, []⟩, x.2)
  else if f = 8 then (padG bs j).bind fun q => (gR bs q.2 4 true).bind fun x => (gR bs x.2 4 true).bind fun y => (tabG bs i y.1 y.2).bind fun r => some (⟨i, op, i + x.1, y.1, r.1⟩, r.2)
  else if f = 9 then (padG bs j).bind fun q => (gR bs q.2 4 true).bind fun x => (seaG bs i x.2).bind fun r => some (⟨i, op, i + x.1, 0, r.1⟩, r.2)
  else none
theorem insR_K (bs : List UInt8) (i : Nat) : insR bs i = (gR bs i 1 false).bind fun o => insK bs i (formP o.1) o.1 o.2 := by
  unfold insR
  cases gR bs i 1 false with
  | none => rfl
  | some o =>
    simp only [Option.bind_some]
    unfold insK padG tabG seaG
    generalize formP o.1 = f
    by_cases h8 : f = 8
    · subst h8
      simp only [show ¬ (8 = 1) by decide, show ¬ (8 = 2) by decide, show ¬ (8 = 3) by decide, show ¬ (8 = 4) by decide, show ¬ (8 = 5) by decide, show ¬ (8 = 6) by decide, show ¬ (8 = 7) by decide, if_true, if_false]
      cases padR bs 3 o.2 with
      | none => rfl
      | some q =>
        simp only [Option.bind_some]
        cases gR bs q 4 true with
        | none => rfl
        | some x =>
          simp only [Option.bind_some]
          cases gR bs x.2 4 true with
          | none => rfl
          | some y =>
            simp only [Option.bind_some]
            cases gR bs y.2 4 true with
            | none => rfl
            | some z =>
              simp only [Option.bind_some]
              split <;> rfl
    by_cases h9 : f = 9
    · subst h9
      simp only [show ¬ (9 = 1) by decide, show ¬ (9 = 2) by decide, show ¬ (9 = 3) by decide, show ¬ (9 = 4) by decide, show ¬ (9 = 5) by decide, show ¬ (9 = 6) by decide, show ¬ (9 = 7) by decide, show ¬ (9 = 8) by decide, if_true, if_false]
      cases padR bs 3 o.2 with
      | none => rfl
      | some q =>
        simp only [Option.bind_some]
        cases gR bs q 4 true with
        | none => rfl
        | some x =>
          simp only [Option.bind_some]
          cases gR bs x.2 4 false with
          | none => rfl
          | some y =>
            simp only [Option.bind_some]
            split
            · cases seaR bs i y.1.toNat y.2 with
              | none => rfl
              | some r =>
                simp only [Option.bind_some]
                split <;> rfl
            · rfl
    rw [if_neg h8, if_neg h9]
    simp only [if_neg h8, if_neg h9]
theorem formP_le (op : Int) : formP op ≤ 9 := by
  unfold formP
  repeat' split
  all_goals omega
def InsFit (x : Ins) : Prop := (-9000000000000000000 ≤ x.at_ ∧ x.at_ ≤ 9000000000000000000) ∧ (-9000000000000000000 ≤ x.op ∧ x.op ≤ 9000000000000000000) ∧ (-9000000000000000000 ≤ x.a ∧ x.a ≤ 9000000000000000000) ∧ (-9000000000000000000 ≤ x.b ∧ x.b ≤ 9000000000000000000) ∧ (∀ c ∈ x.cs, CasFit c) ∧ x.cs.length ≤ 256
end Go.Proofs.YteooppjbpekepaaGreatDoor
