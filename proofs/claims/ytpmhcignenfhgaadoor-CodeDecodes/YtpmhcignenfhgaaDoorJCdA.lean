/- Codes as plain values: instructions read from bytes; a beginning of them; the plain form. -/
import Derived.Test.YtpmhcignenfhgaaDoorJA

namespace Go.Proofs.YtpmhcignenfhgaaDoor
open Go.RowKit
set_option linter.unusedVariables false

structure Cas where
  key : Int
  to_ : Int
deriving DecidableEq
structure Ins where
  at_ : Int
  op : Int
  a : Int
  b : Int
  cs : List Cas
deriving DecidableEq
/-- The form of an Op: 1 none, 2 byte, 3 short, 4 small, 5 wide, 6 count, 7 branch, 8 table, 9 search; 0: there is no such Op. -/
def inS (l : List (Int × Int)) (op : Int) : Bool := l.any fun r => decide (r.1 ≤ op ∧ op ≤ r.2)
def spans1 : List (Int × Int) := [(0, 10), (26, 33), (42, 47), (50, 51), (59, 66), (75, 80), (83, 84), (87, 90), (92, 92), (95, 97), (100, 101), (104, 105), (108, 109), (112, 113), (116, 117), (120, 131), (133, 133), (136, 136), (145, 148), (172, 173), (176, 177), (190, 191), (194, 195)]
def formP (op : Int) : Nat :=
  if inS spans1 op = true then 1
  else if op = 16 then 2 else if op = 17 then 3
  else if op = 18 ∨ op = 21 ∨ op = 22 ∨ op = 25 ∨ op = 54 ∨ op = 55 ∨ op = 58 ∨ op = 188 then 4
  else if op = 19 ∨ op = 20 ∨ (178 ≤ op ∧ op ≤ 184) ∨ op = 187 ∨ op = 189 ∨ op = 192 ∨ op = 193 then 5
  else if op = 132 then 6 else if op = 170 then 8 else if op = 171 then 9
  else if (153 ≤ op ∧ op ≤ 167) ∨ op = 198 ∨ op = 199 then 7 else 0
/-- The number that comes, and where the reader stands then; none: the bytes end. -/
def gR (bs : List UInt8) (i : Nat) (k : Nat) (sg : Bool) : Option (Int × Nat) := if i + k ≤ bs.length then (valW ((bs.drop i).take k) sg).bind fun n => some (n, i + k) else none
theorem gR_some {bs : List UInt8} {i k : Nat} {sg : Bool} {n : Int} {j : Nat} (h : gR bs i k sg = some (n, j)) : j = i + k ∧ j ≤ bs.length := by
  unfold gR at h
  split at h
  · rename_i hl
    obtain ⟨m, _, h1⟩ := Option.bind_eq_some_iff.1 h
    injection h1 with h1
    injection h1 with _ h1
    omega
  · cases h
theorem gR_take {bs : List UInt8} {i k m : Nat} {sg : Bool} {n : Int} {j : Nat} (h : gR bs i k sg = some (n, j)) (hm : j ≤ m) : gR (bs.take m) i k sg = some (n, j) := by
  have hj := gR_some h
  unfold gR at h ⊢
  rw [if_pos (by omega)] at h
  rw [if_pos (by rw [List.length_take]; omega)]
  have e : ((bs.take m).drop i).take k = (bs.drop i).take k := by
    rw [List.drop_take, List.take_take]
    congr 1
    omega
  rw [e]
  exact h
/-- Noughts up to a place that 4 divides. -/
def padR (bs : List UInt8) : Nat → Nat → Option Nat
  | 0, i => if i % 4 = 0 then some i else none
  | f + 1, i => if i % 4 = 0 then some i else (gR bs i 1 false).bind fun x => if x.1 = 0 then padR bs f x.2 else none
theorem padR_some {bs : List UInt8} : ∀ (f i j : Nat), padR bs f i = some j → i ≤ j ∧ (i ≤ bs.length → j ≤ bs.length)
  | 0, i, j, h => by
    unfold padR at h
    split at h
    · injection h with h; omega
    · cases h
  | f + 1, i, j, h => by
    unfold padR at h
    split at h
    · injection h with h; omega
    · obtain ⟨⟨n, j1⟩, h1, h2⟩ := Option.bind_eq_some_iff.1 h
      simp only at h2
      split at h2
      · have := gR_some h1
        have := padR_some f j1 j h2
        omega
      · cases h2
theorem padR_take {bs : List UInt8} {m : Nat} : ∀ (f i j : Nat), padR bs f i = some j → j ≤ m → padR (bs.take m) f i = some j
  | 0, i, j, h, _ => h
  | f + 1, i, j, h, hm => by
    unfold padR at h ⊢
    split
    · rename_i h4
      rw [if_pos h4] at h
      exact h
    · rename_i h4
      rw [if_neg h4] at h
      obtain ⟨⟨n, j1⟩, h1, h2⟩ := Option.bind_eq_some_iff.1 h
      simp only at h2
      split at h2
      · rename_i h0
        have := (padR_some f j1 j h2).1
        rw [gR_take h1 (by omega), Option.bind_some]
        simp only
        rw [if_pos h0]
        exact padR_take f j1 j h2 hm
      · cases h2
/-- The cases of a table (their keys told by first), of a search. -/
def tabR (bs : List UInt8) (at_ : Int) : Nat → Int → Nat → Option (List Cas × Nat)
  | 0, _, i => some ([], i)
  | n + 1, key, i => (gR bs i 4 true).bind fun x => (tabR bs at_ n (key + 1) x.2).bind fun r => some (⟨key, at_ + x.1⟩ :: r.1, r.2)
def seaR (bs : List UInt8) (at_ : Int) : Nat → Nat → Option (List Cas × Nat)
  | 0, i => some ([], i)
  | n + 1, i => (gR bs i 4 true).bind fun k => (gR bs k.2 4 true).bind fun x => (seaR bs at_ n x.2).bind fun r => some (⟨k.1, at_ + x.1⟩ :: r.1, r.2)
theorem tabR_some {bs : List UInt8} {at_ : Int} : ∀ (n : Nat) (key : Int) (i : Nat) (l : List Cas) (j : Nat), tabR bs at_ n key i = some (l, j) → i ≤ j ∧ (i ≤ bs.length → j ≤ bs.length)
  | 0, _, i, l, j, h => by injection h with h; injection h with _ h; omega
  | n + 1, key, i, l, j, h => by
    unfold tabR at h
    obtain ⟨⟨x, j1⟩, h1, h⟩ := Option.bind_eq_some_iff.1 h
    obtain ⟨⟨r, j2⟩, h2, h⟩ := Option.bind_eq_some_iff.1 h
    injection h with h
    injection h with _ h
    have := gR_some h1
    have := tabR_some n _ _ _ _ h2
    simp only at *
    omega
theorem seaR_some {bs : List UInt8} {at_ : Int} : ∀ (n i : Nat) (l : List Cas) (j : Nat), seaR bs at_ n i = some (l, j) → i ≤ j ∧ (i ≤ bs.length → j ≤ bs.length)
  | 0, i, l, j, h => by injection h with h; injection h with _ h; omega
  | n + 1, i, l, j, h => by
    unfold seaR at h
    obtain ⟨⟨k, j0⟩, h0, h⟩ := Option.bind_eq_some_iff.1 h
    obtain ⟨⟨x, j1⟩, h1, h⟩ := Option.bind_eq_some_iff.1 h
    obtain ⟨⟨r, j2⟩, h2, h⟩ := Option.bind_eq_some_iff.1 h
    injection h with h
    injection h with _ h
    have := gR_some h0
    have := gR_some h1
    have := seaR_some n _ _ _ h2
    simp only at *
    omega
theorem tabR_take {bs : List UInt8} {at_ : Int} {m : Nat} : ∀ (n : Nat) (key : Int) (i : Nat) (l : List Cas) (j : Nat), tabR bs at_ n key i = some (l, j) → j ≤ m → tabR (bs.take m) at_ n key i = some (l, j)
  | 0, _, i, l, j, h, _ => h
  | n + 1, key, i, l, j, h, hm => by
    unfold tabR at h ⊢
    obtain ⟨⟨x, j1⟩, h1, h⟩ := Option.bind_eq_some_iff.1 h
    obtain ⟨⟨r, j2⟩, h2, h⟩ := Option.bind_eq_some_iff.1 h
    have e := h
    injection e with e
    injection e with _ e
    have := (tabR_some n _ _ _ _ h2).1
    simp only at h2 this e
    rw [gR_take h1 (by omega), Option.bind_some]
    simp only
    rw [tabR_take n _ _ _ _ h2 (by omega), Option.bind_some]
    exact h
theorem seaR_take {bs : List UInt8} {at_ : Int} {m : Nat} : ∀ (n i : Nat) (l : List Cas) (j : Nat), seaR bs at_ n i = some (l, j) → j ≤ m → seaR (bs.take m) at_ n i = some (l, j)
  | 0, i, l, j, h, _ => h
  | n + 1, i, l, j, h, hm => by
    unfold seaR at h ⊢
    obtain ⟨⟨k, j0⟩, h0, h⟩ := Option.bind_eq_some_iff.1 h
    obtain ⟨⟨x, j1⟩, h1, h⟩ := Option.bind_eq_some_iff.1 h
    obtain ⟨⟨r, j2⟩, h2, h⟩ := Option.bind_eq_some_iff.1 h
    have e := h
    injection e with e
    injection e with _ e
    have a1 := (seaR_some n _ _ _ h2).1
    have a2 := gR_some h1
    simp only at h1 h2 a1 a2 e
    rw [gR_take h0 (by omega), Option.bind_some]
    simp only
    rw [gR_take h1 (by omega), Option.bind_some]
    simp only
    rw [seaR_take n _ _ _ h2 (by omega), Option.bind_some]
    exact h
def riseC : List Cas → Bool
  | [] => true
  | [_] => true
  | x :: y :: r => decide (x.key < y.key) && riseC (y :: r)
/-- The instruction at a place, and where the next one stands. -/
def insR (bs : List UInt8) (i : Nat) : Option (Ins × Nat) := (gR bs i 1 false).bind fun o =>
  if formP o.1 = 1 then some (⟨i, o.1, 0, 0, []⟩, o.2)
  else if formP o.1 = 2 then (gR bs o.2 1 true).bind fun x => some (⟨i, o.1, x.1, 0, []⟩, x.2)
  else if formP o.1 = 3 then (gR bs o.2 2 true).bind fun x => some (⟨i, o.1, x.1, 0, []⟩, x.2)
  else if formP o.1 = 4 then (gR bs o.2 1 false).bind fun x => some (⟨i, o.1, x.1, 0, []⟩, x.2)
  else if formP o.1 = 5 then (gR bs o.2 2 false).bind fun x => some (⟨i, o.1, x.1, 0, []⟩, x.2)
  else if formP o.1 = 6 then (gR bs o.2 1 false).bind fun x => (gR bs x.2 1 true).bind fun y => some (⟨i, o.1, x.1, y.1, []⟩, y.2)
  else if formP o.1 = 7 then (gR bs o.2 2 true).bind fun x => some (⟨i, o.1, i + x.1, 0, []⟩, x.2)
  else if formP o.1 = 8 then (padR bs 3 o.2).bind fun q => (gR bs q 4 true).bind fun x => (gR bs x.2 4 true).bind fun y => (gR bs y.2 4 true).bind fun z =>
    if 1 ≤ z.1 - y.1 + 1 ∧ z.1 - y.1 + 1 ≤ 256 then (tabR bs i (z.1 - y.1 + 1).toNat y.1 z.2).bind fun r => some (⟨i, o.1, i + x.1, y.1, r.1⟩, r.2) else none
  else if formP o.1 = 9 then (padR bs 3 o.2).bind fun q => (gR bs q 4 true).bind fun x => (gR bs x.2 4 false).bind fun y =>
    if y.1 ≤ 256 then (seaR bs i y.1.toNat y.2).bind fun r => if riseC r.1 = true then some (⟨i, o.1, i + x.1, 0, r.1⟩, r.2) else none else none
  else none
end Go.Proofs.YtpmhcignenfhgaaDoor
