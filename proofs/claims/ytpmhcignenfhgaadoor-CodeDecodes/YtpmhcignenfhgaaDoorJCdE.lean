/- The document's way of reading an instruction's cases, as plain values. -/
import Derived.Test.YtpmhcignenfhgaaDoorJP

namespace Go.Proofs.YtpmhcignenfhgaaDoor
open Go.RowKit
set_option linter.unusedVariables false
set_option maxRecDepth 100000

/-- What is read of a table, or a search: A, B, the cases, and where the reader stands. -/
def casO (bs : List UInt8) (at_ op : Int) (q : Nat) : Option (Int × Int × List Cas × Nat) := (gR bs q 4 true).bind fun x =>
  if op = 170 then (gR bs x.2 4 true).bind fun y => (gR bs y.2 4 true).bind fun z =>
    if 1 ≤ z.1 - y.1 + 1 ∧ z.1 - y.1 + 1 ≤ 256 then (tabR bs at_ (z.1 - y.1 + 1).toNat y.1 z.2).bind fun r => some (at_ + x.1, y.1, r.1, r.2) else none
  else (gR bs x.2 4 false).bind fun y => if y.1 ≤ 256 then (seaR bs at_ y.1.toNat y.2).bind fun r => if riseC r.1 = true then some (at_ + x.1, 0, r.1, r.2) else none else none
theorem form8 {op : Int} (h : formP op = 8) : op = 170 := by
  unfold formP at h
  repeat' split at h
  all_goals first | assumption | omega
theorem form9 {op : Int} (h : formP op = 9) : op = 171 := by
  unfold formP at h
  repeat' split at h
  all_goals first | assumption | omega
/-- An instruction of a form 8 or 9. -/
theorem insR_cas {bs : List UInt8} {i : Nat} {op : Int} {j : Nat} (h : gR bs i 1 false = some (op, j)) (hf : formP op = 8 ∨ formP op = 9) :
    insR bs i = (padR bs 3 j).bind fun q => (casO bs i op q).bind fun r => some (⟨i, op, r.1, r.2.1, r.2.2.1⟩, r.2.2.2) := by
  unfold insR
  rw [h]
  simp only [Option.bind_some]
  rcases hf with hf | hf
  · rw [hf, if_neg (by decide), if_neg (by decide), if_neg (by decide), if_neg (by decide), if_neg (by decide), if_neg (by decide), if_neg (by decide), if_pos rfl]
    congr 1
    funext q
    unfold casO
    rw [form8 hf]
    cases gR bs q 4 true with
    | none => rfl
    | some x =>
      simp only [Option.bind_some, if_true]
      cases gR bs x.2 4 true with
      | none => rfl
      | some y =>
        simp only [Option.bind_some]
        cases gR bs y.2 4 true with
        | none => rfl
        | some z =>
          simp only [Option.bind_some]
          split
          · cases tabR bs i (z.1 - y.1 + 1).toNat y.1 z.2 <;> rfl
          · rfl
  · rw [hf, if_neg (by decide), if_neg (by decide), if_neg (by decide), if_neg (by decide), if_neg (by decide), if_neg (by decide), if_neg (by decide), if_neg (by decide), if_pos rfl]
    congr 1
    funext q
    unfold casO
    rw [form9 hf]
    cases gR bs q 4 true with
    | none => rfl
    | some x =>
      simp only [Option.bind_some]
      rw [if_neg (by decide)]
      cases gR bs x.2 4 false with
      | none => rfl
      | some y =>
        simp only [Option.bind_some]
        split
        · cases seaR bs i y.1.toNat y.2 with
          | none => rfl
          | some r =>
            simp only [Option.bind_some]
            split <;> rfl
        · rfl
/-- Between two rounds of a table's loop. -/
def Tk (bs : List UInt8) (at_ : Int) (n : Nat) (b : Int) (i0 k : Nat) (cs : List Cas) (j : Nat) : Prop := tabR bs at_ n b i0 = (tabR bs at_ (n - k) (b + k) j).bind fun r => some (cs ++ r.1, r.2)
theorem Tk.start (bs : List UInt8) (at_ : Int) (n : Nat) (b : Int) (i0 : Nat) : Tk bs at_ n b i0 0 [] i0 := by
  unfold Tk
  rw [Nat.sub_zero, show b + ((0 : Nat) : Int) = b by omega]
  cases tabR bs at_ n b i0 <;> rfl
theorem Tk.next {bs : List UInt8} {at_ : Int} {n : Nat} {b : Int} {i0 k : Nat} {cs : List Cas} {j : Nat} (h : Tk bs at_ n b i0 k cs j) (hk : k < n) {x : Int} {j' : Nat} (hx : gR bs j 4 true = some (x, j')) : Tk bs at_ n b i0 (k + 1) (cs ++ [⟨b + k, at_ + x⟩]) j' := by
  unfold Tk at h ⊢
  rw [h, show n - k = (n - (k + 1)) + 1 by omega]
  conv => lhs; unfold tabR
  rw [hx, show b + ((k + 1 : Nat) : Int) = b + k + 1 by omega]
  simp only [Option.bind_some]
  cases tabR bs at_ (n - (k + 1)) (b + k + 1) j' with
  | none => rfl
  | some r => simp
theorem Tk.fails {bs : List UInt8} {at_ : Int} {n : Nat} {b : Int} {i0 k : Nat} {cs : List Cas} {j : Nat} (h : Tk bs at_ n b i0 k cs j) (hk : k < n) (hx : gR bs j 4 true = none) : tabR bs at_ n b i0 = none := by
  unfold Tk at h
  rw [h, show n - k = (n - (k + 1)) + 1 by omega]
  conv => lhs; unfold tabR
  rw [hx]
  rfl
theorem Tk.done {bs : List UInt8} {at_ : Int} {n : Nat} {b : Int} {i0 : Nat} {cs : List Cas} {j : Nat} (h : Tk bs at_ n b i0 n cs j) : tabR bs at_ n b i0 = some (cs, j) := by
  unfold Tk at h
  rw [h, Nat.sub_self]
  simp [tabR]
/-- Do the keys rise up to one more? -/
theorem riseC_snoc {l : List Cas} {y : Cas} : riseC (l ++ [y]) = true ↔ riseC l = true ∧ ∀ x, l.getLast? = some x → x.key < y.key := by
  induction l with
  | nil => simp [riseC]
  | cons a l ih =>
    cases l with
    | nil => simp [riseC]
    | cons b r =>
      simp only [List.cons_append] at ih ⊢
      unfold riseC
      rw [Bool.and_eq_true, Bool.and_eq_true, ih, and_assoc]
      simp
theorem riseC_front {l r : List Cas} (h : riseC (l ++ r) = true) : riseC l = true := by
  rw [riseC_iff] at h ⊢
  intro j x y hj hx hy
  exact h j x y (by rw [List.length_append]; omega) (by rw [List.getElem?_append_left (by omega)]; exact hx) (by rw [List.getElem?_append_left (by omega)]; exact hy)
def seaT (bs : List UInt8) (at_ : Int) (n i0 : Nat) : Option (List Cas × Nat) := (seaR bs at_ n i0).bind fun r => if riseC r.1 = true then some r else none
/-- Between two rounds of a search's loop. -/
def Sk (bs : List UInt8) (at_ : Int) (n i0 k : Nat) (cs : List Cas) (j : Nat) : Prop := riseC cs = true ∧ seaR bs at_ n i0 = (seaR bs at_ (n - k) j).bind fun r => some (cs ++ r.1, r.2)
theorem Sk.start (bs : List UInt8) (at_ : Int) (n i0 : Nat) : Sk bs at_ n i0 0 [] i0 := by
  refine ⟨rfl, ?_⟩
  rw [Nat.sub_zero]
  cases seaR bs at_ n i0 <;> rfl
theorem Sk.next {bs : List UInt8} {at_ : Int} {n i0 k : Nat} {cs : List Cas} {j : Nat} (h : Sk bs at_ n i0 k cs j) (hk : k < n) {y : Int} {j1 : Nat} (hy : gR bs j 4 true = some (y, j1)) (hl : ∀ x, cs.getLast? = some x → x.key < y) {x : Int} {j2 : Nat} (hx : gR bs j1 4 true = some (x, j2)) : Sk bs at_ n i0 (k + 1) (cs ++ [⟨y, at_ + x⟩]) j2 := by
  refine ⟨riseC_snoc.2 ⟨h.1, hl⟩, ?_⟩
  rw [h.2, show n - k = (n - (k + 1)) + 1 by omega]
  conv => lhs; unfold seaR
  rw [hy]
  simp only [Option.bind_some]
  rw [hx]
  simp only [Option.bind_some]
  cases seaR bs at_ (n - (k + 1)) j2 with
  | none => rfl
  | some r => simp
theorem Sk.fails1 {bs : List UInt8} {at_ : Int} {n i0 k : Nat} {cs : List Cas} {j : Nat} (h : Sk bs at_ n i0 k cs j) (hk : k < n) (hy : gR bs j 4 true = none) : seaT bs at_ n i0 = none := by
  unfold seaT
  rw [h.2, show n - k = (n - (k + 1)) + 1 by omega]
  unfold seaR
  rw [hy]
  rfl
theorem Sk.fails2 {bs : List UInt8} {at_ : Int} {n i0 k : Nat} {cs : List Cas} {j : Nat} (h : Sk bs at_ n i0 k cs j) (hk : k < n) {y : Int} {j1 : Nat} (hy : gR bs j 4 true = some (y, j1)) (hx : gR bs j1 4 true = none) : seaT bs at_ n i0 = none := by
  unfold seaT
  rw [h.2, show n - k = (n - (k + 1)) + 1 by omega]
  unfold seaR
  rw [hy]
  simp only [Option.bind_some]
  rw [hx]
  rfl
theorem Sk.fails3 {bs : List UInt8} {at_ : Int} {n i0 k : Nat} {cs : List Cas} {j : Nat} (h : Sk bs at_ n i0 k cs j) (hk : k < n) {y : Int} {j1 : Nat} (hy : gR bs j 4 true = some (y, j1)) {x : Cas} (hl : cs.getLast? = some x) (hxy : y ≤ x.key) : seaT bs at_ n i0 = none := by
  unfold seaT
  rw [h.2, show n - k = (n - (k + 1)) + 1 by omega]
  unfold seaR
  rw [hy]
  simp only [Option.bind_some]
  cases gR bs j1 4 true with
  | none => rfl
  | some z =>
    simp only [Option.bind_some]
    cases seaR bs at_ (n - (k + 1)) z.2 with
    | none => rfl
    | some r =>
      simp only [Option.bind_some]
      rw [if_neg]
      intro hr
      rw [show cs ++ ⟨y, at_ + z.1⟩ :: r.1 = (cs ++ [⟨y, at_ + z.1⟩]) ++ r.1 by simp] at hr
      have h1 := (riseC_snoc.1 (riseC_front hr)).2 x hl
      simp only at h1
      omega
theorem Sk.done {bs : List UInt8} {at_ : Int} {n i0 : Nat} {cs : List Cas} {j : Nat} (h : Sk bs at_ n i0 n cs j) : seaT bs at_ n i0 = some (cs, j) := by
  unfold seaT
  rw [h.2, Nat.sub_self]
  simp [seaR, h.1]
/-- casO by these. -/
theorem casO_170 {bs : List UInt8} {at_ : Int} {q j1 j2 j3 : Nat} {x y z : Int} (h1 : gR bs q 4 true = some (x, j1)) (h2 : gR bs j1 4 true = some (y, j2)) (h3 : gR bs j2 4 true = some (z, j3)) :
    casO bs at_ 170 q = if 1 ≤ z - y + 1 ∧ z - y + 1 ≤ 256 then (tabR bs at_ (z - y + 1).toNat y j3).bind fun r => some (at_ + x, y, r.1, r.2) else none := by
  unfold casO
  rw [h1]
  simp only [Option.bind_some, if_true]
  rw [h2]
  simp only [Option.bind_some]
  rw [h3]
  rfl
theorem casO_171 {bs : List UInt8} {at_ : Int} {q j1 j2 : Nat} {x y : Int} (h1 : gR bs q 4 true = some (x, j1)) (h2 : gR bs j1 4 false = some (y, j2)) :
    casO bs at_ 171 q = if y ≤ 256 then (seaT bs at_ y.toNat j2).bind fun r => some (at_ + x, 0, r.1, r.2) else none := by
  unfold casO seaT
  rw [h1]
  simp only [Option.bind_some]
  rw [if_neg (by decide), h2]
  simp only [Option.bind_some]
  split
  · cases seaR bs at_ y.toNat j2 with
    | none => rfl
    | some r =>
      simp only [Option.bind_some]
      split <;> rfl
  · rfl
/-- One nought more, and how many there are. -/
theorem padR_is (bs : List UInt8) (i : Nat) : ∀ (k f j : Nat), k + f = (4 - (i + 1) % 4) % 4 → j = i + 1 + k → k ≤ 3 → padR bs (3 - k) j = if f = 0 then some j else (gR bs j 1 false).bind fun x => if x.1 = 0 then padR bs (3 - (k + 1)) x.2 else none := by
  intro k f j hk hj h3
  by_cases hf : f = 0
  · rw [if_pos hf]
    have h0 : j % 4 = 0 := by omega
    cases h : 3 - k with
    | zero => unfold padR; rw [if_pos h0]
    | succ m => unfold padR; rw [if_pos h0]
  · rw [if_neg hf]
    have h0 : ¬ j % 4 = 0 := by omega
    obtain ⟨m, hm⟩ : ∃ m, 3 - k = m + 1 := ⟨3 - k - 1, by omega⟩
    rw [hm]
    conv => lhs; unfold padR
    rw [if_neg h0, show 3 - (k + 1) = m by omega]
end Go.Proofs.YtpmhcignenfhgaaDoor
