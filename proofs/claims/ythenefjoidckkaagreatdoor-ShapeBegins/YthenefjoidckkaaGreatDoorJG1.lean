/- Joined: CdA CdB CdC CdD. -/
import Derived.Test.YthenefjoidckkaaGreatDoorJA

/- Codes as plain values: instructions read from bytes; a beginning of them; the plain form. -/
namespace Go.Proofs.YthenefjoidckkaaGreatDoor
open Go.RowKit
set_option linter.unusedVariables false

structure Cas where
  key : Int
  to_ : Int
deriving DecidableEq
structure Ins where
  at_ : Int
  op : Int
  a : Int
  b : Int
  cs : List Cas
deriving DecidableEq
/-- The form of an Op: 1 none, 2 byte, 3 short, 4 small, 5 wide, 6 count, 7 branch, 8 table, 9 search; 0: there is no such Op. -/
def inS (l : List (Int × Int)) (op : Int) : Bool := l.any fun r => decide (r.1 ≤ op ∧ op ≤ r.2)
def spans1 : List (Int × Int) := [(0, 10), (26, 33), (42, 47), (50, 51), (59, 66), (75, 80), (83, 84), (87, 90), (92, 92), (95, 97), (100, 101), (104, 105), (108, 109), (112, 113), (116, 117), (120, 131), (133, 133), (136, 136), (145, 148), (172, 173), (176, 177), (190, 191), (194, 195)]
def formP (op : Int) : Nat :=
  if inS spans1 op = true then 1
  else if op = 16 then 2 else if op = 17 then 3
  else if op = 18 ∨ op = 21 ∨ op = 22 ∨ op = 25 ∨ op = 54 ∨ op = 55 ∨ op = 58 ∨ op = 188 then 4
  else if op = 19 ∨ op = 20 ∨ (178 ≤ op ∧ op ≤ 184) ∨ op = 187 ∨ op = 189 ∨ op = 192 ∨ op = 193 then 5
  else if op = 132 then 6 else if op = 170 then 8 else if op = 171 then 9
  else if (153 ≤ op ∧ op ≤ 167) ∨ op = 198 ∨ op = 199 then 7 else 0
/-- The number that comes, and where the reader stands then; none: the bytes end. -/
def gR (bs : List UInt8) (i : Nat) (k : Nat) (sg : Bool) : Option (Int × Nat) := if i + k ≤ bs.length then (valW ((bs.drop i).take k) sg).bind fun n => some (n, i + k) else none
theorem gR_some {bs : List UInt8} {i k : Nat} {sg : Bool} {n : Int} {j : Nat} (h : gR bs i k sg = some (n, j)) : j = i + k ∧ j ≤ bs.length := by
  unfold gR at h
  split at h
  · rename_i hl
    obtain ⟨m, _, h1⟩ := Option.bind_eq_some_iff.1 h
    injection h1 with h1
    injection h1 with _ h1
    omega
  · cases h
/-- Noughts up to a place that 4 divides. -/
def padR (bs : List UInt8) : Nat → Nat → Option Nat
  | 0, i => if i % 4 = 0 then some i else none
  | f + 1, i => if i % 4 = 0 then some i else (gR bs i 1 false).bind fun x => if x.1 = 0 then padR bs f x.2 else none
theorem padR_some {bs : List UInt8} : ∀ (f i j : Nat), padR bs f i = some j → i ≤ j ∧ (i ≤ bs.length → j ≤ bs.length)
  | 0, i, j, h => by
    unfold padR at h
    split at h
    · injection h with h; omega
    · cases h
  | f + 1, i, j, h => by
    unfold padR at h
    split at h
    · injection h with h; omega
    · obtain ⟨⟨n, j1⟩, h1, h2⟩ := Option.bind_eq_some_iff.1 h
      simp only at h2
      split at h2
      · have := gR_some h1
        have := padR_some f j1 j h2
        omega
      · cases h2
/-- The cases of a table (their keys told by first), of a search. -/
def tabR (bs : List UInt8) (at_ : Int) : Nat → Int → Nat → Option (List Cas × Nat)
  | 0, _, i => some ([], i)
  | n + 1, key, i => (gR bs i 4 true).bind fun x => (tabR bs at_ n (key + 1) x.2).bind fun r => some (⟨key, at_ + x.1⟩ :: r.1, r.2)
def seaR (bs : List UInt8) (at_ : Int) : Nat → Nat → Option (List Cas × Nat)
  | 0, i => some ([], i)
  | n + 1, i => (gR bs i 4 true).bind fun k => (gR bs k.2 4 true).bind fun x => (seaR bs at_ n x.2).bind fun r => some (⟨k.1, at_ + x.1⟩ :: r.1, r.2)
theorem tabR_some {bs : List UInt8} {at_ : Int} : ∀ (n : Nat) (key : Int) (i : Nat) (l : List Cas) (j : Nat), tabR bs at_ n key i = some (l, j) → i ≤ j ∧ (i ≤ bs.length → j ≤ bs.length)
  | 0, _, i, l, j, h => by injection h with h; injection h with _ h; omega
  | n + 1, key, i, l, j, h => by
    unfold tabR at h
    obtain ⟨⟨x, j1⟩, h1, h⟩ := Option.bind_eq_some_iff.1 h
    obtain ⟨⟨r, j2⟩, h2, h⟩ := Option.bind_eq_some_iff.1 h
    injection h with h
    injection h with _ h
    have := gR_some h1
    have := tabR_some n _ _ _ _ h2
    simp only at *
    omega
theorem seaR_some {bs : List UInt8} {at_ : Int} : ∀ (n i : Nat) (l : List Cas) (j : Nat), seaR bs at_ n i = some (l, j) → i ≤ j ∧ (i ≤ bs.length → j ≤ bs.length)
  | 0, i, l, j, h => by injection h with h; injection h with _ h; omega
  | n + 1, i, l, j, h => by
    unfold seaR at h
    obtain ⟨⟨k, j0⟩, h0, h⟩ := Option.bind_eq_some_iff.1 h
    obtain ⟨⟨x, j1⟩, h1, h⟩ := Option.bind_eq_some_iff.1 h
    obtain ⟨⟨r, j2⟩, h2, h⟩ := Option.bind_eq_some_iff.1 h
    injection h with h
    injection h with _ h
    have := gR_some h0
    have := gR_some h1
    have := seaR_some n _ _ _ h2
    simp only at *
    omega
def riseC : List Cas → Bool
  | [] => true
  | [_] => true
  | x :: y :: r => decide (x.key < y.key) && riseC (y :: r)
/-- The instruction at a place, and where the next one stands. -/
def insR (bs : List UInt8) (i : Nat) : Option (Ins × Nat) := (gR bs i 1 false).bind fun o =>
  if formP o.1 = 1 then some (⟨i, o.1, 0, 0, []⟩, o.2)
  else if formP o.1 = 2 then (gR bs o.2 1 true).bind fun x => some (⟨i, o.1, x.1, 0, []⟩, x.2)
  else if formP o.1 = 3 then (gR bs o.2 2 true).bind fun x => some (⟨i, o.1, x.1, 0, []⟩, x.2)
  else if formP o.1 = 4 then (gR bs o.2 1 false).bind fun x => some (⟨i, o.1, x.1, 0, []⟩, x.2)
  else if formP o.1 = 5 then (gR bs o.2 2 false).bind fun x => some (⟨i, o.1, x.1, 0, []⟩, x.2)
  else if formP o.1 = 6 then (gR bs o.2 1 false).bind fun x => (gR bs x.2 1 true).bind fun y => some (⟨i, o.1, x.1, y.1, []⟩, y.2)
  else if formP o.1 = 7 then (gR bs o.2 2 true).bind fun x => some (⟨i, o.1, i + x.1, 0, []⟩, x.2)
  else if formP o.1 = 8 then (padR bs 3 o.2).bind fun q => (gR bs q 4 true).bind fun x => (gR bs x.2 4 true).bind fun y => (gR bs y.2 4 true).bind fun z =>
    if 1 ≤ z.1 - y.1 + 1 ∧ z.1 - y.1 + 1 ≤ 256 then (tabR bs i (z.1 - y.1 + 1).toNat y.1 z.2).bind fun r => some (⟨i, o.1, i + x.1, y.1, r.1⟩, r.2) else none
  else if formP o.1 = 9 then (padR bs 3 o.2).bind fun q => (gR bs q 4 true).bind fun x => (gR bs x.2 4 false).bind fun y =>
    if y.1 ≤ 256 then (seaR bs i y.1.toNat y.2).bind fun r => if riseC r.1 = true then some (⟨i, o.1, i + x.1, 0, r.1⟩, r.2) else none else none
  else none
end Go.Proofs.YthenefjoidckkaaGreatDoor

/- Codes as plain values: a code, its beginnings, the plain form. -/
namespace Go.Proofs.YthenefjoidckkaaGreatDoor
open Go.RowKit
set_option linter.unusedVariables false

theorem insR_some {bs : List UInt8} {i : Nat} {x : Ins} {j : Nat} (h : insR bs i = some (x, j)) : i < j ∧ j ≤ bs.length ∧ x.at_ = i := by
  unfold insR at h
  obtain ⟨⟨o, j0⟩, h0, h⟩ := Option.bind_eq_some_iff.1 h
  have a0 := gR_some h0
  simp only at h
  by_cases n1 : formP o = 1
  · rw [if_pos n1] at h
    injection h with h; injection h with h h'; subst h; (try simp only at *); exact ⟨by omega, by omega, by first | rfl | trivial⟩
  by_cases n2 : formP o = 2
  · rw [if_neg n1, if_pos n2] at h
    obtain ⟨⟨y, j1⟩, h1, h⟩ := Option.bind_eq_some_iff.1 h
    have a1 := gR_some h1
    injection h with h; injection h with h h'; subst h; (try simp only at *); exact ⟨by omega, by omega, by first | rfl | trivial⟩
  by_cases n3 : formP o = 3
  · rw [if_neg n1, if_neg n2, if_pos n3] at h
    obtain ⟨⟨y, j1⟩, h1, h⟩ := Option.bind_eq_some_iff.1 h
    have a1 := gR_some h1
    injection h with h; injection h with h h'; subst h; (try simp only at *); exact ⟨by omega, by omega, by first | rfl | trivial⟩
  by_cases n4 : formP o = 4
  · rw [if_neg n1, if_neg n2, if_neg n3, if_pos n4] at h
    obtain ⟨⟨y, j1⟩, h1, h⟩ := Option.bind_eq_some_iff.1 h
    have a1 := gR_some h1
    injection h with h; injection h with h h'; subst h; (try simp only at *); exact ⟨by omega, by omega, by first | rfl | trivial⟩
  by_cases n5 : formP o = 5
  · rw [if_neg n1, if_neg n2, if_neg n3, if_neg n4, if_pos n5] at h
    obtain ⟨⟨y, j1⟩, h1, h⟩ := Option.bind_eq_some_iff.1 h
    have a1 := gR_some h1
    injection h with h; injection h with h h'; subst h; (try simp only at *); exact ⟨by omega, by omega, by first | rfl | trivial⟩
  by_cases n6 : formP o = 6
  · rw [if_neg n1, if_neg n2, if_neg n3, if_neg n4, if_neg n5, if_pos n6] at h
    obtain ⟨⟨y, j1⟩, h1, h⟩ := Option.bind_eq_some_iff.1 h
    obtain ⟨⟨z, j2⟩, h2, h⟩ := Option.bind_eq_some_iff.1 h
    have a1 := gR_some h1
    have a2 := gR_some h2
    injection h with h; injection h with h h'; subst h; (try simp only at *); exact ⟨by omega, by omega, by first | rfl | trivial⟩
  by_cases n7 : formP o = 7
  · rw [if_neg n1, if_neg n2, if_neg n3, if_neg n4, if_neg n5, if_neg n6, if_pos n7] at h
    obtain ⟨⟨y, j1⟩, h1, h⟩ := Option.bind_eq_some_iff.1 h
    have a1 := gR_some h1
    injection h with h; injection h with h h'; subst h; (try simp only at *); exact ⟨by omega, by omega, by first | rfl | trivial⟩
  by_cases n8 : formP o = 8
  · rw [if_neg n1, if_neg n2, if_neg n3, if_neg n4, if_neg n5, if_neg n6, if_neg n7, if_pos n8] at h
    obtain ⟨q, hq, h⟩ := Option.bind_eq_some_iff.1 h
    obtain ⟨⟨y, j1⟩, h1, h⟩ := Option.bind_eq_some_iff.1 h
    obtain ⟨⟨z, j2⟩, h2, h⟩ := Option.bind_eq_some_iff.1 h
    obtain ⟨⟨v, j3⟩, h3, h⟩ := Option.bind_eq_some_iff.1 h
    simp only at h
    by_cases hr : 1 ≤ v - z + 1 ∧ v - z + 1 ≤ 256
    · rw [if_pos hr] at h
      obtain ⟨⟨r, j4⟩, h4, h⟩ := Option.bind_eq_some_iff.1 h
      have aq := padR_some _ _ _ hq
      have a1 := gR_some h1
      have a2 := gR_some h2
      have a3 := gR_some h3
      have a4 := tabR_some _ _ _ _ _ h4
      injection h with h; injection h with h h'; subst h; (try simp only at *); exact ⟨by omega, by omega, by first | rfl | trivial⟩
    · rw [if_neg hr] at h
      cases h
  by_cases n9 : formP o = 9
  · rw [if_neg n1, if_neg n2, if_neg n3, if_neg n4, if_neg n5, if_neg n6, if_neg n7, if_neg n8, if_pos n9] at h
    obtain ⟨q, hq, h⟩ := Option.bind_eq_some_iff.1 h
    obtain ⟨⟨y, j1⟩, h1, h⟩ := Option.bind_eq_some_iff.1 h
    obtain ⟨⟨z, j2⟩, h2, h⟩ := Option.bind_eq_some_iff.1 h
    simp only at h
    by_cases hr : z ≤ 256
    · rw [if_pos hr] at h
      obtain ⟨⟨r, j4⟩, h4, h⟩ := Option.bind_eq_some_iff.1 h
      simp only at h
      by_cases hri : riseC r = true
      · rw [if_pos hri] at h
        have aq := padR_some _ _ _ hq
        have a1 := gR_some h1
        have a2 := gR_some h2
        have a4 := seaR_some _ _ _ _ h4
        injection h with h; injection h with h h'; subst h; (try simp only at *); exact ⟨by omega, by omega, by first | rfl | trivial⟩
      · rw [if_neg hri] at h
        cases h
    · rw [if_neg hr] at h
      cases h
  rw [if_neg n1, if_neg n2, if_neg n3, if_neg n4, if_neg n5, if_neg n6, if_neg n7, if_neg n8, if_neg n9] at h
  cases h
/-- The instructions, one behind the other. -/
def insL (bs : List UInt8) : Nat → Nat → Option (List Ins)
  | 0, i => if i = bs.length then some [] else none
  | f + 1, i => if i = bs.length then some [] else (insR bs i).bind fun x => (insL bs f x.2).bind fun r => some (x.1 :: r)
theorem insL_more {bs : List UInt8} : ∀ (f g i : Nat) (l : List Ins), insL bs f i = some l → f ≤ g → insL bs g i = some l
  | 0, 0, i, l, h, _ => h
  | 0, g + 1, i, l, h, _ => by
    unfold insL at h ⊢
    split at h
    · rename_i e
      rw [if_pos e]
      exact h
    · cases h
  | f + 1, 0, i, l, h, hg => by omega
  | f + 1, g + 1, i, l, h, hg => by
    unfold insL at h ⊢
    split at h
    · rename_i e
      rw [if_pos e]
      exact h
    · rename_i e
      rw [if_neg e]
      obtain ⟨x, h1, h⟩ := Option.bind_eq_some_iff.1 h
      obtain ⟨r, h2, h⟩ := Option.bind_eq_some_iff.1 h
      rw [h1, Option.bind_some, insL_more f g _ _ h2 (by omega), Option.bind_some]
      exact h
def targP (x : Ins) : List Int := if formP x.op = 7 then [x.a] else if formP x.op = 8 ∨ formP x.op = 9 then x.a :: x.cs.map Cas.to_ else []
def leadsP (l : List Ins) : Bool := l.all fun x => (targP x).all fun t => l.any fun y => decide (y.at_ = t)
/-- A code's instructions, but for its bound. -/
def codeP (bs : List UInt8) : Option (List Ins) := (insL bs bs.length 0).bind fun l => if l ≠ [] ∧ leadsP l = true then some l else none
end Go.Proofs.YthenefjoidckkaaGreatDoor

/- Codes as plain values: a code's beginning is a code just if nothing leads out of it; the plain form. -/
namespace Go.Proofs.YthenefjoidckkaaGreatDoor
open Go.RowKit
set_option linter.unusedVariables false

theorem insL_fit {bs : List UInt8} : ∀ (f i : Nat) (l : List Ins), insL bs f i = some l → i ≤ bs.length → ∀ g, bs.length - i ≤ g → insL bs g i = some l
  | 0, i, l, h, hi, g, hg => insL_more 0 g i l h (by omega)
  | f + 1, i, l, h, hi, g, hg => by
    unfold insL at h
    split at h
    · rename_i e
      cases g with
      | zero => unfold insL; rw [if_pos e]; exact h
      | succ g => unfold insL; rw [if_pos e]; exact h
    · rename_i e
      obtain ⟨⟨y, j⟩, h1, h⟩ := Option.bind_eq_some_iff.1 h
      obtain ⟨r, h2, h⟩ := Option.bind_eq_some_iff.1 h
      have a := insR_some h1
      cases g with
      | zero => omega
      | succ g =>
        unfold insL
        rw [if_neg e, h1, Option.bind_some]
        simp only at h2 ⊢
        rw [insL_fit f j r h2 (by omega) g (by omega), Option.bind_some]
        exact h
/-- The plain form. -/
def plainP (x : Ins) : Ins :=
  if 2 ≤ x.op ∧ x.op ≤ 8 then { x with op := 17, a := x.op - 3 }
  else if x.op = 16 then { x with op := 17 } else if x.op = 19 then { x with op := 18 }
  else if x.op = 10 then { x with op := 9, a := 1 }
  else if 26 ≤ x.op ∧ x.op ≤ 29 then { x with op := 21, a := x.op - 26 } else if 30 ≤ x.op ∧ x.op ≤ 33 then { x with op := 22, a := x.op - 30 }
  else if 42 ≤ x.op ∧ x.op ≤ 45 then { x with op := 25, a := x.op - 42 } else if 59 ≤ x.op ∧ x.op ≤ 62 then { x with op := 54, a := x.op - 59 }
  else if 63 ≤ x.op ∧ x.op ≤ 66 then { x with op := 55, a := x.op - 63 } else if 75 ≤ x.op ∧ x.op ≤ 78 then { x with op := 58, a := x.op - 75 } else x
end Go.Proofs.YthenefjoidckkaaGreatDoor

/- Codes as plain values: what is read is written. -/
namespace Go.Proofs.YthenefjoidckkaaGreatDoor
open Go.RowKit
set_option linter.unusedVariables false

end Go.Proofs.YthenefjoidckkaaGreatDoor
