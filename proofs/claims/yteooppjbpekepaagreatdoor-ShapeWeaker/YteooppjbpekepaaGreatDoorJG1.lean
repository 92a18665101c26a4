/- Joined: CdA CdB CdC CdD. -/
import Derived.Test.YteooppjbpekepaaGreatDoorJA

/- Codes as plain values: instructions read from bytes; a beginning of them; the plain form. -/
namespace Go.Proofs.YteooppjbpekepaaGreatDoor
open Go.RowKit
set_option linter.unusedVariables false

structure Cas where
  key : Int
  to_ : Int
deriving DecidableEq
structure Ins where
  at_ : Int
  op : Int
  a : Int
  b : Int
  cs : List Cas
deriving DecidableEq
/-- The form of an Op: 1 none, 2 byte, 3 short, 4 small, 5 wide, 6 count, 7 branch, 8 table, 9 search; 0: there is no such Op. -/
def inS (l : List (Int × Int)) (op : Int) : Bool := l.any fun r => decide (r.1 ≤ op ∧ op ≤ r.2)
def spans1 : List (Int × Int) := [(0, 10), (26, 33), (42, 47), (50, 51), (59, 66), (75, 80), (83, 84), (87, 90), (92, 92), (95, 97), (100, 101), (104, 105), (108, 109), (112, 113), (116, 117), (120, 131), (133, 133), (136, 136), (145, 148), (172, 173), (176, 177), (190, 191), (194, 195)]
def formP (op : Int) : Nat :=
  if inS spans1 op = true then 1
  else if op = 16 then 2 else if op = 17 then 3
  else if op = 18 ∨ op = 21 ∨ op = 22 ∨ op = 25 ∨ op = 54 ∨ op = 55 ∨ op = 58 ∨ op = 188 then 4
  else if op = 19 ∨ op = 20 ∨ (178 ≤ op ∧ op ≤ 184) ∨ op = 187 ∨ op = 189 ∨ op = 192 ∨ op = 193 then 5
  else if op = 132 then 6 else if op = 170 then 8 else if op = 171 then 9
  else if (153 ≤ op ∧ op ≤ 167) ∨ op = 198 ∨ op = 199 then 7 else 0
/-- The number that comes, and where the reader stands then; none: the bytes end. -/
def gR (bs : List UInt8) (i : Nat) (k : Nat) (sg : Bool) : Option (Int × Nat) := if i + k ≤ bs.length then (valW ((bs.drop i).take k) sg).bind fun n => some (n, i + k) else none
theorem gR_some {bs : List UInt8} {i k : Nat} {sg : Bool} {n : Int} {j : Nat} (h : gR bs i k sg = some (n, j)) : j = i + k ∧ j ≤ bs.length := by
  unfold gR at h
  split at h
  · rename_i hl
    obtain ⟨m, _, h1⟩ := Option.bind_eq_some_iff.1 h
    injection h1 with h1
    injection h1 with _ h1
    omega
  · cases h
theorem gR_take {bs : List UInt8} {i k m : Nat} {sg : Bool} {n : Int} {j : Nat} (h : gR bs i k sg = some (n, j)) (hm : j ≤ m) : gR (bs.take m) i k sg = some (n, j) := by
  have hj := gR_some h
  unfold gR at h ⊢
  rw [if_pos (by omega)] at h
  rw [if_pos (by rw [List.length_take]; omega)]
  have e : ((bs.take m).drop i).take k = (bs.drop i).take k := by
    rw [List.drop_take, List.take_take]
    congr 1
    omega
  rw [e]
  exact h
/-- Noughts up to a place that 4 divides. -/
def padR (bs : List UInt8) : Nat → Nat → Option Nat
  | 0, i => if i % 4 = 0 then some i else none
  | f + 1, i => if i % 4 = 0 then some i else (gR bs i 1 false).bind fun x => if x.1 = 0 then padR bs f x.2 else none
theorem padR_some {bs : List UInt8} : ∀ (f i j : Nat), padR bs f i = some j → i ≤ j ∧ (i ≤ bs.length → j ≤ bs.length)
  | 0, i, j, h => by
    unfold padR at h
    split at h
    · injection h with h; omega
    · cases h
  | f + 1, i, j, h => by
    unfold padR at h
    split at h
    · injection h with h; omega
    · obtain ⟨⟨n, j1⟩, h1, h2⟩ := Option.bind_eq_some_iff.1 h
      simp only at h2
      split at h2
      · have := gR_some h1
        have := padR_some f j1 j h2
        omega
      · cases h2
theorem padR_take {bs : List UInt8} {m : Nat} : ∀ (f i j : Nat), padR bs f i = some j → j ≤ m → padR (bs.take m) f i = some j
  | 0, i, j, h, _ => h
  | f + 1, i, j, h, hm => by
    unfold padR at h ⊢
    split
    · rename_i h4
      rw [if_pos h4] at h
      exact h
    · rename_i h4
      rw [if_neg h4] at h
      obtain ⟨⟨n, j1⟩, h1, h2⟩ := Option.bind_eq_some_iff.1 h
      simp only at h2
      split at h2
      · rename_i h0
        have := (padR_some f j1 j h2).1
        rw [gR_take h1 (by omega), Option.bind_some]
        simp only
        rw [if_pos h0]
        exact padR_take f j1 j h2 hm
      · cases h2
/-- The cases of a table (their keys told by first), of a search. -/
def tabR (bs : List UInt8) (at_ : Int) : Nat → Int → Nat → Option (List Cas × Nat)
  | 0, _, i => some ([], i)
  | n + 1, key, i => (gR bs i 4 true).bind fun x => (tabR bs at_ n (key + 1) x.2).bind fun r => some (⟨key, at_ + x.1⟩ :: r.1, r.2)
def seaR (bs : List UInt8) (at_ : Int) : Nat → Nat → Option (List Cas × Nat)
  | 0, i => some ([], i)
  | n + 1, i => (gR bs i 4 true).bind fun k => (gR bs k.2 4 true).bind fun x => (seaR bs at_ n x.2).bind fun r => some (⟨k.1, at_ + x.1⟩ :: r.1, r.2)
theorem tabR_some {bs : List UInt8} {at_ : Int} : ∀ (n : Nat) (key : Int) (i : Nat) (l : List Cas) (j : Nat), tabR bs at_ n key i = some (l, j) → i ≤ j ∧ (i ≤ bs.length → j ≤ bs.length)
  | 0, _, i, l, j, h => by injection h with h; injection h with _ h; omega
  | n + 1, key, i, l, j, h => by
    unfold tabR at h
    obtain ⟨⟨x, j1⟩, h1, h⟩ := Option.bind_eq_some_iff.1 h
    obtain ⟨⟨r, j2⟩, h2, h⟩ := Option.bind_eq_some_iff.1 h
    injection h with h
    injection h with _ h
    have := gR_some h1
    have := tabR_some n _ _ _ _ h2
    simp only at *
    omega
theorem seaR_some {bs : List UInt8} {at_ : Int} : ∀ (n i : Nat) (l : List Cas) (j : Nat), seaR bs at_ n i = some (l, j) → i ≤ j ∧ (i ≤ bs.length → j ≤ bs.length)
  | 0, i, l, j, h => by injection h with h; injection h with _ h; omega
  | n + 1, i, l, j, h => by
    unfold seaR at h
    obtain ⟨⟨k, j0⟩, h0, h⟩ := Option.bind_eq_some_iff.1 h
    obtain ⟨⟨x, j1⟩, h1, h⟩ := Option.bind_eq_some_iff.1 h
    obtain ⟨⟨r, j2⟩, h2, h⟩ := Option.bind_eq_some_iff.1 h
    injection h with h
    injection h with _ h
    have := gR_some h0
    have := gR_some h1
    have := seaR_some n _ _ _ h2
    simp only at *
    omega
theorem tabR_take {bs : List UInt8} {at_ : Int} {m : Nat} : ∀ (n : Nat) (key : Int) (i : Nat) (l : List Cas) (j : Nat), tabR bs at_ n key i = some (l, j) → j ≤ m → tabR (bs.take m) at_ n key i = some (l, j)
  | 0, _, i, l, j, h, _ => h
  | n + 1, key, i, l, j, h, hm => by
    unfold tabR at h ⊢
    obtain ⟨⟨x, j1⟩, h1, h⟩ := Option.bind_eq_some_iff.1 h
    obtain ⟨⟨r, j2⟩, h2, h⟩ := Option.bind_eq_some_iff.1 h
    have e := h
    injection e with e
    injection e with _ e
    have := (tabR_some n _ _ _ _ h2).1
    simp only at h2 this e
    rw [gR_take h1 (by omega), Option.bind_some]
    simp only
    rw [tabR_take n _ _ _ _ h2 (by omega), Option.bind_some]
    exact h
theorem seaR_take {bs : List UInt8} {at_ : Int} {m : Nat} : ∀ (n i : Nat) (l : List Cas) (j : Nat), seaR bs at_ n i = some (l, j) → j ≤ m → seaR (bs.take m) at_ n i = some (l, j)
  | 0, i, l, j, h, _ => h
  | n + 1, i, l, j, h, hm => by
    unfold seaR at h ⊢
    obtain ⟨⟨k, j0⟩, h0, h⟩ := Option.bind_eq_some_iff.1 h
    obtain ⟨⟨x, j1⟩, h1, h⟩ := Option.bind_eq_some_iff.1 h
    obtain ⟨⟨r, j2⟩, h2, h⟩ := Option.bind_eq_some_iff.1 h
    have e := h
    injection e with e
    injection e with _ e
    have a1 := (seaR_some n _ _ _ h2).1
    have a2 := gR_some h1
    simp only at h1 h2 a1 a2 e
    rw [gR_take h0 (by omega), Option.bind_some]
    simp only
    rw [gR_take h1 (by omega), Option.bind_some]
    simp only
    rw [seaR_take n _ _ _ h2 (by omega), Option.bind_some]
    exact h
def riseC : List Cas → Bool
  | [] => true
  | [_] => true
  | x :: y :: r => decide (x.key < y.key) && riseC (y :: r)
/-- The instruction at a place, and where the next one stands. -/
def insR (bs : List UInt8) (i : Nat) : Option (Ins × Nat) := (gR bs i 1 false).bind fun o =>
  if formP o.1 = 1 then some (⟨i, o.1, 0, 0, []⟩, o.2)
  else if formP o.1 = 2 then (gR bs o.2 1 true).bind fun x => some (⟨i, o.1, x.1, 0, []⟩, x.2)
  else if formP o.1 = 3 then (gR bs o.2 2 true).bind fun x => some (⟨i, o.1, x.1, 0, []⟩, x.2)
  else if formP o.1 = 4 then (gR bs o.2 1 false).bind fun x => some (⟨i, o.1, x.1, 0, []⟩, x.2)
  else if formP o.1 = 5 then (gR bs o.2 2 false).bind fun x => some (⟨i, o.1, x.1, 0, []⟩, x.2)
  else if formP o.1 = 6 then (gR bs o.2 1 false).bind fun x => (gR bs x.2 1 true).bind fun y => some (⟨i, o.1, x.1, y.1, []⟩, y.2)
  else if formP o.1 = 7 then (gR bs o.2 2 true).bind fun x => some (⟨i, o.1, i + x.1, 0, []⟩, x.2)
  else if formP o.1 = 8 then (padR bs 3 o.2).bind fun q => (gR bs q 4 true).bind fun x => (gR bs x.2 4 true).bind fun y => (gR bs y.2 4 true).bind fun z =>
    if 1 ≤ z.1 - y.1 + 1 ∧ z.1 - y.1 + 1 ≤ 256 then (tabR bs i (z.1 - y.1 + 1).toNat y.1 z.2).bind fun r => some (⟨i, o.1, i + x.1, y.1, r.1⟩, r.2) else none
  else if formP o.1 = 9 then (padR bs 3 o.2).bind fun q => (gR bs q 4 true).bind fun x => (gR bs x.2 4 false).bind fun y =>
    if y.1 ≤ 256 then (seaR bs i y.1.toNat y.2).bind fun r => if riseC r.1 = true then some (⟨i, o.1, i + x.1, 0, r.1⟩, r.2) else none else none
  else none
end Go.Proofs.YteooppjbpekepaaGreatDoor

/- Codes as plain values: a code, its beginnings, the plain form. -/
namespace Go.Proofs.YteooppjbpekepaaGreatDoor
open Go.RowKit
set_option linter.unusedVariables false

theorem insR_some {bs : List UInt8} {i : Nat} {x : Ins} {j : Nat} (h : insR bs i = some (x, j)) : i < j ∧ j ≤ bs.length ∧ x.at_ = i := by
  unfold insR at h
  obtain ⟨⟨o, j0⟩, h0, h⟩ := Option.bind_eq_some_iff.1 h
  have a0 := gR_some h0
  simp only at h
  by_cases n1 : formP o = 1
  · rw [if_pos n1] at h
    injection h with h; injection h with h h'; subst h; (try simp only at *); exact ⟨by omega, by omega, by first | rfl | trivial⟩
  by_cases n2 : formP o = 2
  · rw [if_neg n1, if_pos n2] at h
    obtain ⟨⟨y, j1⟩, h1, h⟩ := Option.bind_eq_some_iff.1 h
    have a1 := gR_some h1
    injection h with h; injection h with h h'; subst h; (try simp only at *); exact ⟨by omega, by omega, by first | rfl | trivial⟩
  by_cases n3 : formP o = 3
  · rw [if_neg n1, if_neg n2, if_pos n3] at h
    obtain ⟨⟨y, j1⟩, h1, h⟩ := Option.bind_eq_some_iff.1 h
    have a1 := gR_some h1
    injection h with h; injection h with h h'; subst h; (try simp only at *); exact ⟨by omega, by omega, by first | rfl | trivial⟩
  by_cases n4 : formP o = 4
  · rw [if_neg n1, if_neg n2, if_neg n3, if_pos n4] at h
    obtain ⟨⟨y, j1⟩, h1, h⟩ := Option.bind_eq_some_iff.1 h
    have a1 := gR_some h1
    injection h with h; injection h with h h'; subst h; (try simp only at *); exact ⟨by omega, by omega, by first | rfl | trivial⟩
  by_cases n5 : formP o = 5
  · rw [if_neg n1, if_neg n2, if_neg n3, if_neg n4, if_pos n5] at h
    obtain ⟨⟨y, j1⟩, h1, h⟩ := Option.bind_eq_some_iff.1 h
    have a1 := gR_some h1
    injection h with h; injection h with h h'; subst h; (try simp only at *); exact ⟨by omega, by omega, by first | rfl | trivial⟩
  by_cases n6 : formP o = 6
  · rw [if_neg n1, if_neg n2, if_neg n3, if_neg n4, if_neg n5, if_pos n6] at h
    obtain ⟨⟨y, j1⟩, h1, h⟩ := Option.bind_eq_some_iff.1 h
    obtain ⟨⟨z, j2⟩, h2, h⟩ := Option.bind_eq_some_iff.1 h
    have a1 := gR_some h1
    have a2 := gR_some h2
    injection h with h; injection h with h h'; subst h; (try simp only at *); exact ⟨by omega, by omega, by first | rfl | trivial⟩
  by_cases n7 : formP o = 7
  · rw [if_neg n1, if_neg n2, if_neg n3, if_neg n4, if_neg n5, if_neg n6, if_pos n7] at h
    obtain ⟨⟨y, j1⟩, h1, h⟩ := Option.bind_eq_some_iff.1 h
    have a1 := gR_some h1
    injection h with h; injection h with h h'; subst h; (try simp only at *); exact ⟨by omega, by omega, by first | rfl | trivial⟩
  by_cases n8 : formP o = 8
  · rw [if_neg n1, if_neg n2, if_neg n3, if_neg n4, if_neg n5, if_neg n6, if_neg n7, if_pos n8] at h
    obtain ⟨q, hq, h⟩ := Option.bind_eq_some_iff.1 h
    obtain ⟨⟨y, j1⟩, h1, h⟩ := Option.bind_eq_some_iff.1 h
    obtain ⟨⟨z, j2⟩, h2, h⟩ := Option.bind_eq_some_iff.1 h
    obtain ⟨⟨v, j3⟩, h3, h⟩ := Option.bind_eq_some_iff.1 h
    simp only at h
    by_cases hr : 1 ≤ v - z + 1 ∧ v - z + 1 ≤ 256
    · rw [if_pos hr] at h
      obtain ⟨⟨r, j4⟩, h4, h⟩ := Option.bind_eq_some_iff.1 h
      have aq := padR_some _ _ _ hq
      have a1 := gR_some h1
      have a2 := gR_some h2
      have a3 := gR_some h3
      have a4 := tabR_some _ _ _ _ _ h4
      injection h with h; injection h with h h'; subst h; (try simp only at *); exact ⟨by omega, by omega, by first | rfl | trivial⟩
    · rw [if_neg hr] at h
      cases h
  by_cases n9 : formP o = 9
  · rw [if_neg n1, if_neg n2, if_neg n3, if_neg n4, if_neg n5, if_neg n6, if_neg n7, if_neg n8, if_pos n9] at h
    obtain ⟨q, hq, h⟩ := Option.bind_eq_some_iff.1 h
    obtain ⟨⟨y, j1⟩, h1, h⟩ := Option.bind_eq_some_iff.1 h
    obtain ⟨⟨z, j2⟩, h2, h⟩ := Option.bind_eq_some_iff.1 h
    simp only at h
    by_cases hr : z ≤ 256
    · rw [if_pos hr] at h
      obtain ⟨⟨r, j4⟩, h4, h⟩ := Option.bind_eq_some_iff.1 h
      simp only at h
      by_cases hri : riseC r = true
      · rw [if_pos hri] at h
        have aq := padR_some _ _ _ hq
        have a1 := gR_some h1
        have a2 := gR_some h2
        have a4 := seaR_some _ _ _ _ h4
        injection h with h; injection h with h h'; subst h; (try simp only at *); exact ⟨by omega, by omega, by first | rfl | trivial⟩
      · rw [if_neg hri] at h
        cases h
    · rw [if_neg hr] at h
      cases h
  rw [if_neg n1, if_neg n2, if_neg n3, if_neg n4, if_neg n5, if_neg n6, if_neg n7, if_neg n8, if_neg n9] at h
  cases h
theorem insR_take {bs : List UInt8} {i m : Nat} {x : Ins} {j : Nat} (h : insR bs i = some (x, j)) (hm : j ≤ m) : insR (bs.take m) i = some (x, j) := by
  unfold insR at h ⊢
  obtain ⟨⟨o, j0⟩, h0, h⟩ := Option.bind_eq_some_iff.1 h
  have a0 := gR_some h0
  simp only at h
  by_cases n1 : formP o = 1
  · rw [if_pos n1] at h
    have e := h
    injection e with e; injection e with _ e
    rw [gR_take h0 (by omega), Option.bind_some]
    simp only
    rw [if_pos n1]
    exact h
  by_cases n2 : formP o = 2
  · rw [if_neg n1, if_pos n2] at h
    obtain ⟨⟨y, j1⟩, h1, h⟩ := Option.bind_eq_some_iff.1 h
    have a1 := gR_some h1
    have e := h
    injection e with e; injection e with _ e
    simp only at e h1 a1
    rw [gR_take h0 (by omega), Option.bind_some]
    simp only
    rw [if_neg n1, if_pos n2, gR_take h1 (by omega), Option.bind_some]
    exact h
  by_cases n3 : formP o = 3
  · rw [if_neg n1, if_neg n2, if_pos n3] at h
    obtain ⟨⟨y, j1⟩, h1, h⟩ := Option.bind_eq_some_iff.1 h
    have a1 := gR_some h1
    have e := h
    injection e with e; injection e with _ e
    simp only at e h1 a1
    rw [gR_take h0 (by omega), Option.bind_some]
    simp only
    rw [if_neg n1, if_neg n2, if_pos n3, gR_take h1 (by omega), Option.bind_some]
    exact h
  by_cases n4 : formP o = 4
  · rw [if_neg n1, if_neg n2, if_neg n3, if_pos n4] at h
    obtain ⟨⟨y, j1⟩, h1, h⟩ := Option.bind_eq_some_iff.1 h
    have a1 := gR_some h1
    have e := h
    injection e with e; injection e with _ e
    simp only at e h1 a1
    rw [gR_take h0 (by omega), Option.bind_some]
    simp only
    rw [if_neg n1, if_neg n2, if_neg n3, if_pos n4, gR_take h1 (by omega), Option.bind_some]
    exact h
  by_cases n5 : formP o = 5
  · rw [if_neg n1, if_neg n2, if_neg n3, if_neg n4, if_pos n5] at h
    obtain ⟨⟨y, j1⟩, h1, h⟩ := Option.bind_eq_some_iff.1 h
    have a1 := gR_some h1
    have e := h
    injection e with e; injection e with _ e
    simp only at e h1 a1
    rw [gR_take h0 (by omega), Option.bind_some]
    simp only
    rw [if_neg n1, if_neg n2, if_neg n3, if_neg n4, if_pos n5, gR_take h1 (by omega), Option.bind_some]
    exact h
  by_cases n6 : formP o = 6
  · rw [if_neg n1, if_neg n2, if_neg n3, if_neg n4, if_neg n5, if_pos n6] at h
    obtain ⟨⟨y, j1⟩, h1, h⟩ := Option.bind_eq_some_iff.1 h
    obtain ⟨⟨z, j2⟩, h2, h⟩ := Option.bind_eq_some_iff.1 h
    have a1 := gR_some h1
    have a2 := gR_some h2
    have e := h
    injection e with e; injection e with _ e
    simp only at e h1 a1 h2 a2
    rw [gR_take h0 (by omega), Option.bind_some]
    simp only
    rw [if_neg n1, if_neg n2, if_neg n3, if_neg n4, if_neg n5, if_pos n6, gR_take h1 (by omega), Option.bind_some]
    simp only
    rw [gR_take h2 (by omega), Option.bind_some]
    exact h
  by_cases n7 : formP o = 7
  · rw [if_neg n1, if_neg n2, if_neg n3, if_neg n4, if_neg n5, if_neg n6, if_pos n7] at h
    obtain ⟨⟨y, j1⟩, h1, h⟩ := Option.bind_eq_some_iff.1 h
    have a1 := gR_some h1
    have e := h
    injection e with e; injection e with _ e
    simp only at e h1 a1
    rw [gR_take h0 (by omega), Option.bind_some]
    simp only
    rw [if_neg n1, if_neg n2, if_neg n3, if_neg n4, if_neg n5, if_neg n6, if_pos n7, gR_take h1 (by omega), Option.bind_some]
    exact h
  by_cases n8 : formP o = 8
  · rw [if_neg n1, if_neg n2, if_neg n3, if_neg n4, if_neg n5, if_neg n6, if_neg n7, if_pos n8] at h
    obtain ⟨q, hq, h⟩ := Option.bind_eq_some_iff.1 h
    obtain ⟨⟨y, j1⟩, h1, h⟩ := Option.bind_eq_some_iff.1 h
    obtain ⟨⟨z, j2⟩, h2, h⟩ := Option.bind_eq_some_iff.1 h
    obtain ⟨⟨v, j3⟩, h3, h⟩ := Option.bind_eq_some_iff.1 h
    simp only at h
    by_cases hr : 1 ≤ v - z + 1 ∧ v - z + 1 ≤ 256
    · rw [if_pos hr] at h
      obtain ⟨⟨r, j4⟩, h4, h⟩ := Option.bind_eq_some_iff.1 h
      have aq := padR_some _ _ _ hq
      have a1 := gR_some h1
      have a2 := gR_some h2
      have a3 := gR_some h3
      have a4 := tabR_some _ _ _ _ _ h4
      have e := h
      injection e with e; injection e with _ e
      simp only at e h1 a1 h2 a2 h3 a3 h4 a4 hq aq
      rw [gR_take h0 (by omega), Option.bind_some]
      simp only
      rw [if_neg n1, if_neg n2, if_neg n3, if_neg n4, if_neg n5, if_neg n6, if_neg n7, if_pos n8, padR_take _ _ _ hq (by omega), Option.bind_some, gR_take h1 (by omega), Option.bind_some]
      simp only
      rw [gR_take h2 (by omega), Option.bind_some]
      simp only
      rw [gR_take h3 (by omega), Option.bind_some]
      simp only
      rw [if_pos hr, tabR_take _ _ _ _ _ h4 (by omega), Option.bind_some]
      exact h
    · rw [if_neg hr] at h
      cases h
  by_cases n9 : formP o = 9
  · rw [if_neg n1, if_neg n2, if_neg n3, if_neg n4, if_neg n5, if_neg n6, if_neg n7, if_neg n8, if_pos n9] at h
    obtain ⟨q, hq, h⟩ := Option.bind_eq_some_iff.1 h
    obtain ⟨⟨y, j1⟩, h1, h⟩ := Option.bind_eq_some_iff.1 h
    obtain ⟨⟨z, j2⟩, h2, h⟩ := Option.bind_eq_some_iff.1 h
    simp only at h
    by_cases hr : z ≤ 256
    · rw [if_pos hr] at h
      obtain ⟨⟨r, j4⟩, h4, h⟩ := Option.bind_eq_some_iff.1 h
      simp only at h
      by_cases hri : riseC r = true
      · rw [if_pos hri] at h
        have aq := padR_some _ _ _ hq
        have a1 := gR_some h1
        have a2 := gR_some h2
        have a4 := seaR_some _ _ _ _ h4
        have e := h
        injection e with e; injection e with _ e
        simp only at e h1 a1 h2 a2 h4 a4 hq aq
        rw [gR_take h0 (by omega), Option.bind_some]
        simp only
        rw [if_neg n1, if_neg n2, if_neg n3, if_neg n4, if_neg n5, if_neg n6, if_neg n7, if_neg n8, if_pos n9, padR_take _ _ _ hq (by omega), Option.bind_some, gR_take h1 (by omega), Option.bind_some]
        simp only
        rw [gR_take h2 (by omega), Option.bind_some]
        simp only
        rw [if_pos hr, seaR_take _ _ _ _ h4 (by omega), Option.bind_some]
        simp only
        rw [if_pos hri]
        exact h
      · rw [if_neg hri] at h
        cases h
    · rw [if_neg hr] at h
      cases h
  rw [if_neg n1, if_neg n2, if_neg n3, if_neg n4, if_neg n5, if_neg n6, if_neg n7, if_neg n8, if_neg n9] at h
  cases h
/-- The instructions, one behind the other. -/
def insL (bs : List UInt8) : Nat → Nat → Option (List Ins)
  | 0, i => if i = bs.length then some [] else none
  | f + 1, i => if i = bs.length then some [] else (insR bs i).bind fun x => (insL bs f x.2).bind fun r => some (x.1 :: r)
theorem insL_more {bs : List UInt8} : ∀ (f g i : Nat) (l : List Ins), insL bs f i = some l → f ≤ g → insL bs g i = some l
  | 0, 0, i, l, h, _ => h
  | 0, g + 1, i, l, h, _ => by
    unfold insL at h ⊢
    split at h
    · rename_i e
      rw [if_pos e]
      exact h
    · cases h
  | f + 1, 0, i, l, h, hg => by omega
  | f + 1, g + 1, i, l, h, hg => by
    unfold insL at h ⊢
    split at h
    · rename_i e
      rw [if_pos e]
      exact h
    · rename_i e
      rw [if_neg e]
      obtain ⟨x, h1, h⟩ := Option.bind_eq_some_iff.1 h
      obtain ⟨r, h2, h⟩ := Option.bind_eq_some_iff.1 h
      rw [h1, Option.bind_some, insL_more f g _ _ h2 (by omega), Option.bind_some]
      exact h
def targP (x : Ins) : List Int := if formP x.op = 7 then [x.a] else if formP x.op = 8 ∨ formP x.op = 9 then x.a :: x.cs.map Cas.to_ else []
def leadsP (l : List Ins) : Bool := l.all fun x => (targP x).all fun t => l.any fun y => decide (y.at_ = t)
/-- A code's instructions, but for its bound. -/
def codeP (bs : List UInt8) : Option (List Ins) := (insL bs bs.length 0).bind fun l => if l ≠ [] ∧ leadsP l = true then some l else none
/-- Where the k-th instruction begins, or the end. -/
def cutP (bs : List UInt8) (l : List Ins) (k : Nat) : Nat := match l[k]? with | some x => x.at_.toNat | none => bs.length
theorem insL_at {bs : List UInt8} : ∀ (f i : Nat) (l : List Ins), insL bs f i = some l → ∀ x ∈ l, (i : Int) ≤ x.at_ ∧ x.at_ < bs.length
  | 0, i, l, h, x, hx => by
    unfold insL at h
    split at h
    · injection h with h; subst h; cases hx
    · cases h
  | f + 1, i, l, h, x, hx => by
    unfold insL at h
    split at h
    · injection h with h; subst h; cases hx
    · obtain ⟨⟨y, j⟩, h1, h⟩ := Option.bind_eq_some_iff.1 h
      obtain ⟨r, h2, h⟩ := Option.bind_eq_some_iff.1 h
      injection h with h
      subst h
      have a := insR_some h1
      rcases List.mem_cons.1 hx with rfl | hx
      · omega
      · have := insL_at f j r h2 x hx
        omega
theorem insL_cut {bs : List UInt8} : ∀ (f i : Nat) (l : List Ins) (k : Nat), insL bs f i = some l → 0 < k → i ≤ bs.length → insL (bs.take (cutP bs l k)) f i = some (l.take k)
  | 0, i, l, k, h, hk, hi => by
    unfold insL at h
    split at h
    · rename_i e
      injection h with h
      subst h
      simp only [cutP, List.getElem?_nil, List.take_nil, List.take_length]
      unfold insL
      rw [if_pos e]
    · cases h
  | f + 1, i, l, k, h, hk, hi => by
    unfold insL at h
    split at h
    · rename_i e
      injection h with h
      subst h
      simp only [cutP, List.getElem?_nil, List.take_nil, List.take_length]
      unfold insL
      rw [if_pos e]
    · rename_i e
      obtain ⟨⟨y, j⟩, h1, h⟩ := Option.bind_eq_some_iff.1 h
      obtain ⟨r, h2, h⟩ := Option.bind_eq_some_iff.1 h
      injection h with h
      subst h
      simp only at h2
      have a := insR_some h1
      obtain ⟨k', rfl⟩ : ∃ k', k = k' + 1 := ⟨k - 1, by omega⟩
      have hc : cutP bs (y :: r) (k' + 1) = cutP bs r k' := by simp [cutP]
      rw [hc, List.take_succ_cons]
      have hcj : j ≤ cutP bs r k' ∧ cutP bs r k' ≤ bs.length := by
        unfold cutP
        cases hr : r[k']? with
        | none => simp only; omega
        | some z =>
          have := insL_at f j r h2 z (List.mem_of_getElem? hr)
          simp only
          omega
      unfold insL
      rw [if_neg (by rw [List.length_take]; omega), insR_take h1 hcj.1, Option.bind_some]
      simp only
      by_cases hk0 : k' = 0
      · subst hk0
        have hlast : cutP bs r 0 = j := by
          cases r with
          | nil =>
            cases f with
            | zero =>
              unfold insL at h2
              split at h2
              · simp [cutP]; omega
              · cases h2
            | succ f =>
              unfold insL at h2
              split at h2
              · simp [cutP]; omega
              · obtain ⟨_, _, h3⟩ := Option.bind_eq_some_iff.1 h2
                obtain ⟨_, _, h3⟩ := Option.bind_eq_some_iff.1 h3
                cases h3
          | cons z r =>
            cases f with
            | zero =>
              unfold insL at h2
              split at h2
              · cases h2
              · cases h2
            | succ f =>
              unfold insL at h2
              split at h2
              · cases h2
              · obtain ⟨⟨z', j'⟩, h3, h2⟩ := Option.bind_eq_some_iff.1 h2
                obtain ⟨_, _, h2⟩ := Option.bind_eq_some_iff.1 h2
                injection h2 with h2
                injection h2 with h2 _
                subst h2
                have := (insR_some h3).2.2
                simp [cutP, this]
        rw [hlast, List.take_zero]
        have : insL (bs.take j) f j = some [] := by
          cases f with
          | zero => unfold insL; rw [if_pos (by rw [List.length_take]; omega)]
          | succ f => unfold insL; rw [if_pos (by rw [List.length_take]; omega)]
        rw [this]
        rfl
      · rw [insL_cut f j r k' h2 (by omega) (by omega)]
        rfl
end Go.Proofs.YteooppjbpekepaaGreatDoor

/- Codes as plain values: a code's beginning is a code just if nothing leads out of it; the plain form. -/
namespace Go.Proofs.YteooppjbpekepaaGreatDoor
open Go.RowKit
set_option linter.unusedVariables false

theorem insL_fit {bs : List UInt8} : ∀ (f i : Nat) (l : List Ins), insL bs f i = some l → i ≤ bs.length → ∀ g, bs.length - i ≤ g → insL bs g i = some l
  | 0, i, l, h, hi, g, hg => insL_more 0 g i l h (by omega)
  | f + 1, i, l, h, hi, g, hg => by
    unfold insL at h
    split at h
    · rename_i e
      cases g with
      | zero => unfold insL; rw [if_pos e]; exact h
      | succ g => unfold insL; rw [if_pos e]; exact h
    · rename_i e
      obtain ⟨⟨y, j⟩, h1, h⟩ := Option.bind_eq_some_iff.1 h
      obtain ⟨r, h2, h⟩ := Option.bind_eq_some_iff.1 h
      have a := insR_some h1
      cases g with
      | zero => omega
      | succ g =>
        unfold insL
        rw [if_neg e, h1, Option.bind_some]
        simp only at h2 ⊢
        rw [insL_fit f j r h2 (by omega) g (by omega), Option.bind_some]
        exact h
theorem insL_rise {bs : List UInt8} : ∀ (f i : Nat) (l : List Ins), insL bs f i = some l → ∀ (p q : Nat) (x y : Ins), p < q → l[p]? = some x → l[q]? = some y → x.at_ < y.at_
  | 0, i, l, h, p, q, x, y, hpq, hx, hy => by
    unfold insL at h
    split at h
    · injection h with h; subst h; simp at hx
    · cases h
  | f + 1, i, l, h, p, q, x, y, hpq, hx, hy => by
    unfold insL at h
    split at h
    · injection h with h; subst h; simp at hx
    · obtain ⟨⟨z, j⟩, h1, h⟩ := Option.bind_eq_some_iff.1 h
      obtain ⟨r, h2, h⟩ := Option.bind_eq_some_iff.1 h
      injection h with h
      subst h
      have a := insR_some h1
      cases q with
      | zero => omega
      | succ q =>
        rw [List.getElem?_cons_succ] at hy
        cases p with
        | zero =>
          simp at hx
          subst hx
          have := insL_at f j r h2 y (List.mem_of_getElem? hy)
          omega
        | succ p =>
          rw [List.getElem?_cons_succ] at hx
          exact insL_rise f j r h2 p q x y (by omega) hx hy
theorem cutP_in {bs : List UInt8} {f : Nat} {l : List Ins} (h : insL bs f 0 = some l) {k p : Nat} {x : Ins} (hx : l[p]? = some x) : x.at_ < (cutP bs l k : Int) ↔ p < k := by
  have hat := insL_at f 0 l h
  have hx1 := hat x (List.mem_of_getElem? hx)
  unfold cutP
  cases hk : l[k]? with
  | none =>
    have : l.length ≤ k := by simpa using hk
    have := (List.getElem?_eq_some_iff.1 hx).1
    simp only
    constructor
    · intro _; omega
    · intro _; omega
  | some y =>
    have hy1 := hat y (List.mem_of_getElem? hk)
    simp only
    constructor
    · intro hlt
      rcases Nat.lt_trichotomy p k with h1 | h1 | h1
      · exact h1
      · subst h1
        rw [hx] at hk
        injection hk with hk
        subst hk
        omega
      · have := insL_rise f 0 l h k p y x h1 hk hx
        omega
    · intro hlt
      have := insL_rise f 0 l h p k x y hlt hx hk
      omega
theorem codeP_some {bs : List UInt8} {l : List Ins} (h : codeP bs = some l) : insL bs bs.length 0 = some l ∧ l ≠ [] ∧ leadsP l = true := by
  unfold codeP at h
  obtain ⟨l', h1, h2⟩ := Option.bind_eq_some_iff.1 h
  split at h2
  · rename_i h3
    injection h2 with h2
    subst h2
    exact ⟨h1, h3⟩
  · cases h2
theorem leadsP_all {l : List Ins} : leadsP l = true ↔ ∀ x ∈ l, ∀ t ∈ targP x, ∃ y ∈ l, y.at_ = t := by
  unfold leadsP
  simp [List.all_eq_true, List.any_eq_true]
/-- A code's beginning. -/
theorem codeP_front {bs : List UInt8} {l : List Ins} (h : codeP bs = some l) {k : Nat} (hk : 0 < k) (hkl : k ≤ l.length) :
    codeP (bs.take (cutP bs l k)) = if (∃ x ∈ l.take k, ∃ t ∈ targP x, (cutP bs l k : Int) ≤ t) then none else some (l.take k) := by
  obtain ⟨h1, h2, h3⟩ := codeP_some h
  have hc := insL_cut bs.length 0 l k h1 hk (Nat.zero_le _)
  have hf := insL_fit _ 0 _ hc (Nat.zero_le _) (bs.take (cutP bs l k)).length (by omega)
  have hne : l.take k ≠ [] := by
    intro e
    have := congrArg List.length e
    rw [List.length_take] at this
    simp at this
    rcases this with h9 | h9
    · omega
    · exact h2 h9
  unfold codeP
  rw [hf, Option.bind_some]
  rw [leadsP_all] at h3
  by_cases ho : ∃ x ∈ l.take k, ∃ t ∈ targP x, (cutP bs l k : Int) ≤ t
  · rw [if_pos ho, if_neg]
    rintro ⟨_, hl⟩
    rw [leadsP_all] at hl
    obtain ⟨x, hx, t, ht, hn⟩ := ho
    obtain ⟨y, hy, e⟩ := hl x hx t ht
    obtain ⟨p, hp⟩ := List.mem_iff_getElem?.1 hy
    rw [List.getElem?_take] at hp
    split at hp
    · rename_i hpk
      have := (cutP_in h1 (k := k) hp).2 hpk
      omega
    · cases hp
  · rw [if_neg ho, if_pos]
    refine ⟨hne, ?_⟩
    rw [leadsP_all]
    intro x hx t ht
    obtain ⟨y, hy, e⟩ := h3 x (List.mem_of_mem_take hx) t ht
    refine ⟨y, ?_, e⟩
    obtain ⟨p, hp⟩ := List.mem_iff_getElem?.1 hy
    have hlt : y.at_ < (cutP bs l k : Int) := by
      rw [e]
      exact Int.lt_of_not_ge fun hge => ho ⟨x, hx, t, ht, hge⟩
    have hpk := (cutP_in h1 (k := k) hp).1 hlt
    exact List.mem_iff_getElem?.2 ⟨p, by rw [List.getElem?_take, if_pos hpk]; exact hp⟩

/-- The plain form. -/
def plainP (x : Ins) : Ins :=
  if 2 ≤ x.op ∧ x.op ≤ 8 then { x with op := 17, a := x.op - 3 }
  else if x.op = 16 then { x with op := 17 } else if x.op = 19 then { x with op := 18 }
  else if x.op = 10 then { x with op := 9, a := 1 }
  else if 26 ≤ x.op ∧ x.op ≤ 29 then { x with op := 21, a := x.op - 26 } else if 30 ≤ x.op ∧ x.op ≤ 33 then { x with op := 22, a := x.op - 30 }
  else if 42 ≤ x.op ∧ x.op ≤ 45 then { x with op := 25, a := x.op - 42 } else if 59 ≤ x.op ∧ x.op ≤ 62 then { x with op := 54, a := x.op - 59 }
  else if 63 ≤ x.op ∧ x.op ≤ 66 then { x with op := 55, a := x.op - 63 } else if 75 ≤ x.op ∧ x.op ≤ 78 then { x with op := 58, a := x.op - 75 } else x
def fallsP (x : Ins) : Bool := !decide (x.op = 167 ∨ x.op = 170 ∨ x.op = 171 ∨ x.op = 172 ∨ x.op = 173 ∨ x.op = 176 ∨ x.op = 177 ∨ x.op = 191)
theorem plainP_or (x : Ins) : plainP x = x ∨ ((plainP x).op = 9 ∨ (plainP x).op = 17 ∨ (plainP x).op = 18 ∨ (plainP x).op = 21 ∨ (plainP x).op = 22 ∨ (plainP x).op = 25 ∨ (plainP x).op = 54 ∨ (plainP x).op = 55 ∨ (plainP x).op = 58) ∧ (2 ≤ x.op ∧ x.op ≤ 8 ∨ x.op = 16 ∨ x.op = 19 ∨ x.op = 10 ∨ 26 ≤ x.op ∧ x.op ≤ 33 ∨ 42 ≤ x.op ∧ x.op ≤ 45 ∨ 59 ≤ x.op ∧ x.op ≤ 66 ∨ 75 ≤ x.op ∧ x.op ≤ 78) := by
  unfold plainP
  repeat' split
  all_goals first | exact .inl rfl | exact .inr ⟨by simp, by omega⟩
theorem plainP_twice (x : Ins) : plainP (plainP x) = plainP x := by
  rcases plainP_or x with h | ⟨h, _⟩
  · rw [h, h]
  · generalize plainP x = y at *
    obtain ⟨at_, op, a, b, cs⟩ := y
    simp only at h
    rcases h with rfl | rfl | rfl | rfl | rfl | rfl | rfl | rfl | rfl <;> rfl
theorem formP_low {op : Int} (h : op = 9 ∨ op = 17 ∨ op = 18 ∨ op = 21 ∨ op = 22 ∨ op = 25 ∨ op = 54 ∨ op = 55 ∨ op = 58) : formP op < 7 := by
  rcases h with rfl | rfl | rfl | rfl | rfl | rfl | rfl | rfl | rfl <;> decide
theorem formP_short {op : Int} (h : 2 ≤ op ∧ op ≤ 8 ∨ op = 16 ∨ op = 19 ∨ op = 10 ∨ 26 ≤ op ∧ op ≤ 33 ∨ 42 ≤ op ∧ op ≤ 45 ∨ 59 ≤ op ∧ op ≤ 66 ∨ 75 ≤ op ∧ op ≤ 78) : formP op < 7 := by
  have h1 : inS spans1 op = true ∨ op = 16 ∨ op = 19 := by
    unfold inS spans1
    simp only [List.any_cons, List.any_nil, Bool.or_eq_true, decide_eq_true_eq]
    omega
  rcases h1 with h1 | rfl | rfl
  · unfold formP
    rw [if_pos h1]
    decide
  · decide
  · decide
theorem targP_none {x : Ins} (h : formP x.op < 7) : targP x = [] := by
  unfold targP
  rw [if_neg (by omega), if_neg (by omega)]
theorem plainP_leads (x : Ins) : targP (plainP x) = targP x ∧ fallsP (plainP x) = fallsP x ∧ (plainP x).at_ = x.at_ ∧ (plainP x).b = x.b ∧ (plainP x).cs = x.cs := by
  have hkeep : (plainP x).at_ = x.at_ ∧ (plainP x).b = x.b ∧ (plainP x).cs = x.cs := by
    unfold plainP
    repeat' split
    all_goals exact ⟨rfl, rfl, rfl⟩
  rcases plainP_or x with h | ⟨h, h'⟩
  · rw [h]
    exact ⟨rfl, rfl, rfl, rfl, rfl⟩
  · refine ⟨?_, ?_, hkeep⟩
    · rw [targP_none (formP_low h), targP_none (formP_short h')]
    · unfold fallsP
      congr 1
      rw [decide_eq_decide]
      omega
end Go.Proofs.YteooppjbpekepaaGreatDoor

/- Codes as plain values: what is read is written. -/
namespace Go.Proofs.YteooppjbpekepaaGreatDoor
open Go.RowKit
set_option linter.unusedVariables false

theorem gR_back {bs : List UInt8} {i k : Nat} {sg : Bool} {n : Int} {j : Nat} (hk : k = 1 ∨ k = 2 ∨ k = 4) (h : gR bs i k sg = some (n, j)) : bytesW (k : Int) n = cutB bs i j := by
  have hj := gR_some h
  unfold gR at h
  rw [if_pos (by omega)] at h
  obtain ⟨m, h1, h2⟩ := Option.bind_eq_some_iff.1 h
  injection h2 with h2
  injection h2 with h2 _
  subst h2
  have hl : ((bs.drop i).take k).length = k := by rw [List.length_take, List.length_drop]; omega
  rw [bytes_val (l := (bs.drop i).take k) (by unfold wide; omega) (by rw [hl]; simp) h1]
  unfold cutB
  rw [hj.1, show i + k - i = k by omega]
/-- Noughts ahead of the numbers of a table, a search. -/
def padB (i : Nat) : List UInt8 := List.replicate ((4 - i % 4) % 4) 0
theorem padR_back {bs : List UInt8} : ∀ (f i j : Nat), padR bs f i = some j → (4 - i % 4) % 4 ≤ f → padB i = cutB bs i j ∧ j = i + (4 - i % 4) % 4
  | 0, i, j, h, hf => by
    unfold padR at h
    split at h
    · injection h with h
      subst h
      rename_i h4
      rw [h4]
      refine ⟨?_, by omega⟩
      unfold padB cutB
      rw [h4]
      simp
    · cases h
  | f + 1, i, j, h, hf => by
    unfold padR at h
    split at h
    · injection h with h
      subst h
      rename_i h4
      rw [h4]
      refine ⟨?_, by omega⟩
      unfold padB cutB
      rw [h4]
      simp
    · rename_i h4
      obtain ⟨⟨n, j1⟩, h1, h2⟩ := Option.bind_eq_some_iff.1 h
      simp only at h2
      split at h2
      · rename_i h0
        have a1 := gR_some h1
        have hb := gR_back (by omega) h1
        rw [a1.1] at h2 hb
        obtain ⟨e1, e2⟩ := padR_back f (i + 1) j h2 (by omega)
        have a2 := padR_some f (i + 1) j h2
        refine ⟨?_, by omega⟩
        have hp : padB i = 0 :: padB (i + 1) := by
          unfold padB
          have : (4 - i % 4) % 4 = (4 - (i + 1) % 4) % 4 + 1 := by omega
          rw [this, List.replicate_succ]
        rw [hp, e1]
        rw [h0] at hb
        have h3 : bytesW ((1 : Nat) : Int) 0 = [0] := rfl
        rw [h3] at hb
        have : (0 : UInt8) :: cutB bs (i + 1) j = [0] ++ cutB bs (i + 1) j := rfl
        rw [this, hb]
        exact cutB_join (by omega) a2.1
      · cases h2
theorem tabR_back {bs : List UInt8} {at_ : Int} : ∀ (n : Nat) (key : Int) (i : Nat) (l : List Cas) (j : Nat), tabR bs at_ n key i = some (l, j) → l.flatMap (fun c => bytesW 4 (c.to_ - at_)) = cutB bs i j ∧ l.length = n
  | 0, _, i, l, j, h => by
    injection h with h
    injection h with h1 h2
    subst h1 h2
    refine ⟨?_, rfl⟩
    unfold cutB
    simp
  | n + 1, key, i, l, j, h => by
    unfold tabR at h
    obtain ⟨⟨x, j1⟩, h1, h⟩ := Option.bind_eq_some_iff.1 h
    obtain ⟨⟨r, j2⟩, h2, h⟩ := Option.bind_eq_some_iff.1 h
    injection h with h
    injection h with h3 h4
    have hb := gR_back (by omega) h1
    have a1 := gR_some h1
    simp only at h2 h3 h4
    have a2 := tabR_some n _ _ _ _ h2
    obtain ⟨e1, e2⟩ := tabR_back n _ _ _ _ h2
    subst h3 h4
    refine ⟨?_, by simp [e2]⟩
    rw [List.flatMap_cons, e1]
    simp only
    rw [show at_ + x - at_ = x by omega]
    have hb' : bytesW 4 x = cutB bs i j1 := hb
    rw [hb']
    exact cutB_join (by omega) a2.1
theorem seaR_back {bs : List UInt8} {at_ : Int} : ∀ (n i : Nat) (l : List Cas) (j : Nat), seaR bs at_ n i = some (l, j) → l.flatMap (fun c => bytesW 4 c.key ++ bytesW 4 (c.to_ - at_)) = cutB bs i j ∧ l.length = n
  | 0, i, l, j, h => by
    injection h with h
    injection h with h1 h2
    subst h1 h2
    refine ⟨?_, rfl⟩
    unfold cutB
    simp
  | n + 1, i, l, j, h => by
    unfold seaR at h
    obtain ⟨⟨k, j0⟩, h0, h⟩ := Option.bind_eq_some_iff.1 h
    obtain ⟨⟨x, j1⟩, h1, h⟩ := Option.bind_eq_some_iff.1 h
    obtain ⟨⟨r, j2⟩, h2, h⟩ := Option.bind_eq_some_iff.1 h
    injection h with h
    injection h with h3 h4
    have hb0 := gR_back (by omega) h0
    have a0 := gR_some h0
    simp only at h1 h2 h3 h4
    have hb := gR_back (by omega) h1
    have a1 := gR_some h1
    have a2 := seaR_some n _ _ _ h2
    obtain ⟨e1, e2⟩ := seaR_back n _ _ _ h2
    subst h3 h4
    refine ⟨?_, by simp [e2]⟩
    rw [List.flatMap_cons, e1]
    simp only
    rw [show at_ + x - at_ = x by omega]
    have hb0' : bytesW 4 k = cutB bs i j0 := hb0
    have hb' : bytesW 4 x = cutB bs j0 j1 := hb
    rw [hb0', hb', cutB_join (by omega) (by omega)]
    exact cutB_join (by omega) a2.1
/-- An instruction's bytes at its place. -/
def insB (x : Ins) : List UInt8 := bytesW 1 x.op ++
  (if formP x.op = 2 then bytesW 1 x.a else if formP x.op = 3 then bytesW 2 x.a else if formP x.op = 4 then bytesW 1 x.a else if formP x.op = 5 then bytesW 2 x.a
   else if formP x.op = 6 then bytesW 1 x.a ++ bytesW 1 x.b else if formP x.op = 7 then bytesW 2 (x.a - x.at_)
   else if formP x.op = 8 then padB (x.at_.toNat + 1) ++ (bytesW 4 (x.a - x.at_) ++ (bytesW 4 x.b ++ (bytesW 4 (x.b + x.cs.length - 1) ++ x.cs.flatMap (fun c => bytesW 4 (c.to_ - x.at_)))))
   else if formP x.op = 9 then padB (x.at_.toNat + 1) ++ (bytesW 4 (x.a - x.at_) ++ (bytesW 4 (x.cs.length : Int) ++ x.cs.flatMap (fun c => bytesW 4 c.key ++ bytesW 4 (c.to_ - x.at_))))
   else [])
theorem insR_back {bs : List UInt8} {i : Nat} {x : Ins} {j : Nat} (h : insR bs i = some (x, j)) : insB x = cutB bs i j := by
  have hs := insR_some h
  unfold insR at h
  obtain ⟨⟨o, j0⟩, h0, h⟩ := Option.bind_eq_some_iff.1 h
  have a0 := gR_some h0
  have b0 : bytesW 1 o = cutB bs i j0 := gR_back (k := 1) (by omega) h0
  simp only at h
  by_cases n1 : formP o = 1
  · rw [if_pos n1] at h
    injection h with h
    injection h with h h'
    subst h
    unfold insB
    simp only
    rw [if_neg (by omega), if_neg (by omega), if_neg (by omega), if_neg (by omega), if_neg (by omega), if_neg (by omega), if_neg (by omega), if_neg (by omega), List.append_nil, b0, h']
  by_cases n2 : formP o = 2
  · rw [if_neg n1, if_pos n2] at h
    obtain ⟨⟨y, j1⟩, h1, h⟩ := Option.bind_eq_some_iff.1 h
    have a1 := gR_some h1
    have b1 : bytesW 1 y = cutB bs j0 j1 := gR_back (k := 1) (by omega) h1
    injection h with h
    injection h with h h'
    subst h
    unfold insB
    simp only at h' a1 ⊢
    rw [if_pos n2]
    skip
    rw [b0, b1, ← h']
    exact cutB_join (by omega) (by omega)
  by_cases n3 : formP o = 3
  · rw [if_neg n1, if_neg n2, if_pos n3] at h
    obtain ⟨⟨y, j1⟩, h1, h⟩ := Option.bind_eq_some_iff.1 h
    have a1 := gR_some h1
    have b1 : bytesW 2 y = cutB bs j0 j1 := gR_back (k := 2) (by omega) h1
    injection h with h
    injection h with h h'
    subst h
    unfold insB
    simp only at h' a1 ⊢
    rw [if_neg n2, if_pos n3]
    skip
    rw [b0, b1, ← h']
    exact cutB_join (by omega) (by omega)
  by_cases n4 : formP o = 4
  · rw [if_neg n1, if_neg n2, if_neg n3, if_pos n4] at h
    obtain ⟨⟨y, j1⟩, h1, h⟩ := Option.bind_eq_some_iff.1 h
    have a1 := gR_some h1
    have b1 : bytesW 1 y = cutB bs j0 j1 := gR_back (k := 1) (by omega) h1
    injection h with h
    injection h with h h'
    subst h
    unfold insB
    simp only at h' a1 ⊢
    rw [if_neg n2, if_neg n3, if_pos n4]
    skip
    rw [b0, b1, ← h']
    exact cutB_join (by omega) (by omega)
  by_cases n5 : formP o = 5
  · rw [if_neg n1, if_neg n2, if_neg n3, if_neg n4, if_pos n5] at h
    obtain ⟨⟨y, j1⟩, h1, h⟩ := Option.bind_eq_some_iff.1 h
    have a1 := gR_some h1
    have b1 : bytesW 2 y = cutB bs j0 j1 := gR_back (k := 2) (by omega) h1
    injection h with h
    injection h with h h'
    subst h
    unfold insB
    simp only at h' a1 ⊢
    rw [if_neg n2, if_neg n3, if_neg n4, if_pos n5]
    skip
    rw [b0, b1, ← h']
    exact cutB_join (by omega) (by omega)
  by_cases n6 : formP o = 6
  · rw [if_neg n1, if_neg n2, if_neg n3, if_neg n4, if_neg n5, if_pos n6] at h
    obtain ⟨⟨y, j1⟩, h1, h⟩ := Option.bind_eq_some_iff.1 h
    obtain ⟨⟨z, j2⟩, h2, h⟩ := Option.bind_eq_some_iff.1 h
    have a1 := gR_some h1
    have a2 := gR_some h2
    have b1 : bytesW 1 y = cutB bs j0 j1 := gR_back (k := 1) (by omega) h1
    have b2 : bytesW 1 z = cutB bs j1 j2 := gR_back (k := 1) (by omega) h2
    injection h with h
    injection h with h h'
    subst h
    unfold insB
    simp only at h' a1 a2 ⊢
    rw [if_neg n2, if_neg n3, if_neg n4, if_neg n5, if_pos n6, b0, b1, b2, ← h', cutB_join (by omega) (by omega)]
    exact cutB_join (by omega) (by omega)
  by_cases n7 : formP o = 7
  · rw [if_neg n1, if_neg n2, if_neg n3, if_neg n4, if_neg n5, if_neg n6, if_pos n7] at h
    obtain ⟨⟨y, j1⟩, h1, h⟩ := Option.bind_eq_some_iff.1 h
    have a1 := gR_some h1
    have b1 : bytesW 2 y = cutB bs j0 j1 := gR_back (k := 2) (by omega) h1
    injection h with h
    injection h with h h'
    subst h
    unfold insB
    simp only at h' a1 ⊢
    rw [if_neg n2, if_neg n3, if_neg n4, if_neg n5, if_neg n6, if_pos n7]
    rw [show (i : Int) + y - i = y by omega]
    rw [b0, b1, ← h']
    exact cutB_join (by omega) (by omega)
  by_cases n8 : formP o = 8
  · rw [if_neg n1, if_neg n2, if_neg n3, if_neg n4, if_neg n5, if_neg n6, if_neg n7, if_pos n8] at h
    obtain ⟨q, hq, h⟩ := Option.bind_eq_some_iff.1 h
    obtain ⟨⟨y, j1⟩, h1, h⟩ := Option.bind_eq_some_iff.1 h
    obtain ⟨⟨z, j2⟩, h2, h⟩ := Option.bind_eq_some_iff.1 h
    obtain ⟨⟨v, j3⟩, h3, h⟩ := Option.bind_eq_some_iff.1 h
    simp only at h
    by_cases hr : 1 ≤ v - z + 1 ∧ v - z + 1 ≤ 256
    · rw [if_pos hr] at h
      obtain ⟨⟨r, j4⟩, h4, h⟩ := Option.bind_eq_some_iff.1 h
      have aq := padR_some _ _ _ hq
      have a1 := gR_some h1
      have a2 := gR_some h2
      have a3 := gR_some h3
      simp only at h1 h2 h3 h4 a1 a2 a3 aq hq
      have a4 := tabR_some _ _ _ _ _ h4
      obtain ⟨p1, p2⟩ := padR_back _ _ _ hq (by omega)
      have b1 : bytesW 4 y = cutB bs q j1 := gR_back (k := 4) (by omega) h1
      have b2 : bytesW 4 z = cutB bs j1 j2 := gR_back (k := 4) (by omega) h2
      have b3 : bytesW 4 v = cutB bs j2 j3 := gR_back (k := 4) (by omega) h3
      obtain ⟨t1, t2⟩ := tabR_back _ _ _ _ _ h4
      injection h with h
      injection h with h h'
      subst h
      unfold insB
      simp only at h' ⊢
      rw [if_neg n2, if_neg n3, if_neg n4, if_neg n5, if_neg n6, if_neg n7, if_pos n8, show (i : Int) + y - i = y by omega, show z + (r.length : Int) - 1 = v by omega, show (i : Int).toNat + 1 = j0 by omega, b0, b1, b2, b3, t1, p1, ← h', cutB_join (by omega) (by omega), cutB_join (by omega) (by omega), cutB_join (by omega) (by omega), cutB_join (by omega) (by omega)]
      exact cutB_join (by omega) (by omega)
    · rw [if_neg hr] at h
      cases h
  by_cases n9 : formP o = 9
  · rw [if_neg n1, if_neg n2, if_neg n3, if_neg n4, if_neg n5, if_neg n6, if_neg n7, if_neg n8, if_pos n9] at h
    obtain ⟨q, hq, h⟩ := Option.bind_eq_some_iff.1 h
    obtain ⟨⟨y, j1⟩, h1, h⟩ := Option.bind_eq_some_iff.1 h
    obtain ⟨⟨z, j2⟩, h2, h⟩ := Option.bind_eq_some_iff.1 h
    simp only at h
    by_cases hr : z ≤ 256
    · rw [if_pos hr] at h
      obtain ⟨⟨r, j4⟩, h4, h⟩ := Option.bind_eq_some_iff.1 h
      simp only at h
      by_cases hri : riseC r = true
      · rw [if_pos hri] at h
        have aq := padR_some _ _ _ hq
        have a1 := gR_some h1
        have a2 := gR_some h2
        simp only at h1 h2 h4 a1 a2 aq hq
        have a4 := seaR_some _ _ _ _ h4
        obtain ⟨p1, p2⟩ := padR_back _ _ _ hq (by omega)
        have b1 : bytesW 4 y = cutB bs q j1 := gR_back (k := 4) (by omega) h1
        have b2 : bytesW 4 z = cutB bs j1 j2 := gR_back (k := 4) (by omega) h2
        have hz0 : 0 ≤ z := by
          unfold gR at h2
          rw [if_pos (by omega)] at h2
          obtain ⟨m, h9, h8⟩ := Option.bind_eq_some_iff.1 h2
          injection h8 with h8
          injection h8 with h8 _
          subst h8
          have hl9 : ((bs.drop j1).take 4).length = 4 := by rw [List.length_take, List.length_drop]; omega
          unfold valW at h9
          rw [hl9, if_neg (by omega), if_neg (by simp)] at h9
          injection h9 with h9
          omega
        obtain ⟨t1, t2⟩ := seaR_back _ _ _ _ h4
        injection h with h
        injection h with h h'
        subst h
        unfold insB
        simp only at h' ⊢
        rw [if_neg n2, if_neg n3, if_neg n4, if_neg n5, if_neg n6, if_neg n7, if_neg n8, if_pos n9, show (i : Int) + y - i = y by omega, show (r.length : Int) = z by omega, show (i : Int).toNat + 1 = j0 by omega, b0, b1, b2, t1, p1, ← h', cutB_join (by omega) (by omega), cutB_join (by omega) (by omega), cutB_join (by omega) (by omega)]
        exact cutB_join (by omega) (by omega)
      · rw [if_neg hri] at h
        cases h
    · rw [if_neg hr] at h
      cases h
  rw [if_neg n1, if_neg n2, if_neg n3, if_neg n4, if_neg n5, if_neg n6, if_neg n7, if_neg n8, if_neg n9] at h
  cases h
theorem insL_back {bs : List UInt8} : ∀ (f i : Nat) (l : List Ins), insL bs f i = some l → i ≤ bs.length → l.flatMap insB = bs.drop i
  | 0, i, l, h, hi => by
    unfold insL at h
    split at h
    · rename_i e
      injection h with h
      subst h
      rw [e]
      simp
    · cases h
  | f + 1, i, l, h, hi => by
    unfold insL at h
    split at h
    · rename_i e
      injection h with h
      subst h
      rw [e]
      simp
    · obtain ⟨⟨y, j⟩, h1, h⟩ := Option.bind_eq_some_iff.1 h
      obtain ⟨r, h2, h⟩ := Option.bind_eq_some_iff.1 h
      injection h with h
      subst h
      have a := insR_some h1
      rw [List.flatMap_cons, insR_back h1, insL_back f j r h2 (by omega)]
      unfold cutB
      have e : bs.drop j = (bs.drop i).drop (j - i) := by rw [List.drop_drop]; congr 1; omega
      rw [e]
      exact List.take_append_drop _ _
end Go.Proofs.YteooppjbpekepaaGreatDoor
