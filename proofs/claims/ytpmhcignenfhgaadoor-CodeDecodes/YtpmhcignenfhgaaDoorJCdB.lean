/- Codes as plain values: a code, its beginnings, the plain form. -/
import Derived.Test.YtpmhcignenfhgaaDoorJCdA

namespace Go.Proofs.YtpmhcignenfhgaaDoor
open Go.RowKit
set_option linter.unusedVariables false

theorem insR_some {bs : List UInt8} {i : Nat} {x : Ins} {j : Nat} (h : insR bs i = some (x, j)) : i < j ∧ j ≤ bs.length ∧ x.at_ = i := by
  unfold insR at h
  obtain ⟨⟨o, j0⟩, h0, h⟩ := Option.bind_eq_some_iff.1 h
  have a0 := gR_some h0
  simp only at h
  by_cases n1 : formP o = 1
  · rw [if_pos n1] at h
    injection h with h; injection h with h h'; subst h; (try simp only at *); exact ⟨by omega, by omega, by first | rfl | trivial⟩
  by_cases n2 : formP o = 2
  · rw [if_neg n1, if_pos n2] at h
    obtain ⟨⟨y, j1⟩, h1, h⟩ := Option.bind_eq_some_iff.1 h
    have a1 := gR_some h1
    injection h with h; injection h with h h'; subst h; (try simp only at *); exact ⟨by omega, by omega, by first | rfl | trivial⟩
  by_cases n3 : formP o = 3
  · rw [if_neg n1, if_neg n2, if_pos n3] at h
    obtain ⟨⟨y, j1⟩, h1, h⟩ := Option.bind_eq_some_iff.1 h
    have a1 := gR_some h1
    injection h with h; injection h with h h'; subst h; (try simp only at *); exact ⟨by omega, by omega, by first | rfl | trivial⟩
  by_cases n4 : formP o = 4
  · rw [if_neg n1, if_neg n2, if_neg n3, if_pos n4] at h
    obtain ⟨⟨y, j1⟩, h1, h⟩ := Option.bind_eq_some_iff.1 h
    have a1 := gR_some h1
    injection h with h; injection h with h h'; subst h; (try simp only at *); exact ⟨by omega, by omega, by first | rfl | trivial⟩
  by_cases n5 : formP o = 5
  · rw [if_neg n1, if_neg n2, if_neg n3, if_neg n4, if_pos n5] at h
    obtain ⟨⟨y, j1⟩, h1, h⟩ := Option.bind_eq_some_iff.1 h
    have a1 := gR_some h1
    injection h with h; injection h with h h'; subst h; (try simp only at *); exact ⟨by omega, by omega, by first | rfl | trivial⟩
  by_cases n6 : formP o = 6
  · rw [if_neg n1, if_neg n2, if_neg n3, if_neg n4, if_neg n5, if_pos n6] at h
    obtain ⟨⟨y, j1⟩, h1, h⟩ := Option.bind_eq_some_iff.1 h
    obtain ⟨⟨z, j2⟩, h2, h⟩ := Option.bind_eq_some_iff.1 h
    have a1 := gR_some h1
    have a2 := gR_some h2
    injection h with h; injection h with h h'; subst h; (try simp only at *); exact ⟨by omega, by omega, by first | rfl | trivial⟩
  by_cases n7 : formP o = 7
  · rw [if_neg n1, if_neg n2, if_neg n3, if_neg n4, if_neg n5, if_neg n6, if_pos n7] at h
    obtain ⟨⟨y, j1⟩, h1, h⟩ := Option.bind_eq_some_iff.1 h
    have a1 := gR_some h1
    injection h with h; injection h with h h'; subst h; (try simp only at *); exact ⟨by omega, by omega, by first | rfl | trivial⟩
  by_cases n8 : formP o = 8
  · rw [if_neg n1, if_neg n2, if_neg n3, if_neg n4, if_neg n5, if_neg n6, if_neg n7, if_pos n8] at h
    obtain ⟨q, hq, h⟩ := Option.bind_eq_some_iff.1 h
    obtain ⟨⟨y, j1⟩, h1, h⟩ := Option.bind_eq_some_iff.1 h
    obtain ⟨⟨z, j2⟩, h2, h⟩ := Option.bind_eq_some_iff.1 h
    obtain ⟨⟨v, j3⟩, h3, h⟩ := Option.bind_eq_some_iff.1 h
    simp only at h
    by_cases hr : 1 ≤ v - z + 1 ∧ v - z + 1 ≤ 256
    · rw [if_pos hr] at h
      obtain ⟨⟨r, j4⟩, h4, h⟩ := Option.bind_eq_some_iff.1 h
      have aq := padR_some _ _ _ hq
      have a1 := gR_some h1
      have a2 := gR_some h2
      have a3 := gR_some h3
      have a4 := tabR_some _ _ _ _ _ h4
      injection h with h; injection h with h h'; subst h; (try simp only at *); exact ⟨by omega, by omega, by first | rfl | trivial⟩
    · rw [if_neg hr] at h
      cases h
  by_cases n9 : formP o = 9
  · rw [if_neg n1, if_neg n2, if_neg n3, if_neg n4, if_neg n5, if_neg n6, if_neg n7, if_neg n8, if_pos n9] at h
    obtain ⟨q, hq, h⟩ := Option.bind_eq_some_iff.1 h
    obtain ⟨⟨y, j1⟩, h1, h⟩ := Option.bind_eq_some_iff.1 h
    obtain ⟨⟨z, j2⟩, h2, h⟩ := Option.bind_eq_some_iff.1 h
    simp only at h
    by_cases hr : z ≤ 256
    · rw [if_pos hr] at h
      obtain ⟨⟨r, j4⟩, h4, h⟩ := Option.bind_eq_some_iff.1 h
      simp only at h
      by_cases hri : riseC r = true
      · rw [if_pos hri] at h
        have aq := padR_some _ _ _ hq
        have a1 := gR_some h1
        have a2 := gR_some h2
        have a4 := seaR_some _ _ _ _ h4
        injection h with h; injection h with h h'; subst h; (try simp only at *); exact ⟨by omega, by omega, by first | rfl | trivial⟩
      · rw [if_neg hri] at h
        cases h
    · rw [if_neg hr] at h
      cases h
  rw [if_neg n1, if_neg n2, if_neg n3, if_neg n4, if_neg n5, if_neg n6, if_neg n7, if_neg n8, if_neg n9] at h
  cases h
theorem insR_take {bs : List UInt8} {i m : Nat} {x : Ins} {j : Nat} (h : insR bs i = some (x, j)) (hm : j ≤ m) : insR (bs.take m) i = some (x, j) := by
  unfold insR at h ⊢
  obtain ⟨⟨o, j0⟩, h0, h⟩ := Option.bind_eq_some_iff.1 h
  have a0 := gR_some h0
  simp only at h
  by_cases n1 : formP o = 1
  · rw [if_pos n1] at h
    have e := h
    injection e with e; injection e with _ e
    rw [gR_take h0 (by omega), Option.bind_some]
    simp only
    rw [if_pos n1]
    exact h
  by_cases n2 : formP o = 2
  · rw [if_neg n1, if_pos n2] at h
    obtain ⟨⟨y, j1⟩, h1, h⟩ := Option.bind_eq_some_iff.1 h
    have a1 := gR_some h1
    have e := h
    injection e with e; injection e with _ e
    simp only at e h1 a1
    rw [gR_take h0 (by omega), Option.bind_some]
    simp only
    rw [if_neg n1, if_pos n2, gR_take h1 (by omega), Option.bind_some]
    exact h
  by_cases n3 : formP o = 3
  · rw [if_neg n1, if_neg n2, if_pos n3] at h
    obtain ⟨⟨y, j1⟩, h1, h⟩ := Option.bind_eq_some_iff.1 h
    have a1 := gR_some h1
    have e := h
    injection e with e; injection e with _ e
    simp only at e h1 a1
    rw [gR_take h0 (by omega), Option.bind_some]
    simp only
    rw [if_neg n1, if_neg n2, if_pos n3, gR_take h1 (by omega), Option.bind_some]
    exact h
  by_cases n4 : formP o = 4
  · rw [if_neg n1, if_neg n2, if_neg n3, if_pos n4] at h
    obtain ⟨⟨y, j1⟩, h1, h⟩ := Option.bind_eq_some_iff.1 h
    have a1 := gR_some h1
    have e := h
    injection e with e; injection e with _ e
    simp only at e h1 a1
    rw [gR_take h0 (by omega), Option.bind_some]
    simp only
    rw [if_neg n1, if_neg n2, if_neg n3, if_pos n4, gR_take h1 (by omega), Option.bind_some]
    exact h
  by_cases n5 : formP o = 5
  · rw [if_neg n1, if_neg n2, if_neg n3, if_neg n4, if_pos n5] at h
    obtain ⟨⟨y, j1⟩, h1, h⟩ := Option.bind_eq_some_iff.1 h
    have a1 := gR_some h1
    have e := h
    injection e with e; injection e with _ e
    simp only at e h1 a1
    rw [gR_take h0 (by omega), Option.bind_some]
    simp only
    rw [if_neg n1, if_neg n2, if_neg n3, if_neg n4, if_pos n5, gR_take h1 (by omega), Option.bind_some]
    exact h
  by_cases n6 : formP o = 6
  · rw [if_neg n1, if_neg n2, if_neg n3, if_neg n4, if_neg n5, if_pos n6] at h
    obtain ⟨⟨y, j1⟩, h1, h⟩ := Option.bind_eq_some_iff.1 h
    obtain ⟨⟨z, j2⟩, h2, h⟩ := Option.bind_eq_some_iff.1 h
    have a1 := gR_some h1
    have a2 := gR_some h2
    have e := h
    injection e with e; injection e with _ e
    simp only at e h1 a1 h2 a2
    rw [gR_take h0 (by omega), Option.bind_some]
    simp only
    rw [if_neg n1, if_neg n2, if_neg n3, if_neg n4, if_neg n5, if_pos n6, gR_take h1 (by omega), Option.bind_some]
    simp only
    rw [gR_take h2 (by omega), Option.bind_some]
    exact h
  by_cases n7 : formP o = 7
  · rw [if_neg n1, if_neg n2, if_neg n3, if_neg n4, if_neg n5, if_neg n6, if_pos n7] at h
    obtain ⟨⟨y, j1⟩, h1, h⟩ := Option.bind_eq_some_iff.1 h
    have a1 := gR_some h1
    have e := h
    injection e with e; injection e with _ e
    simp only at e h1 a1
    rw [gR_take h0 (by omega), Option.bind_some]
    simp only
    rw [if_neg n1, if_neg n2, if_neg n3, if_neg n4, if_neg n5, if_neg n6, if_pos n7, gR_take h1 (by omega), Option.bind_some]
    exact h
  by_cases n8 : formP o = 8
  · rw [if_neg n1, if_neg n2, if_neg n3, if_neg n4, if_neg n5, if_neg n6, if_neg n7, if_pos n8] at h
    obtain ⟨q, hq, h⟩ := Option.bind_eq_some_iff.1 h
    obtain ⟨⟨y, j1⟩, h1, h⟩ := Option.bind_eq_some_iff.1 h
    obtain ⟨⟨z, j2⟩, h2, h⟩ := Option.bind_eq_some_iff.1 h
    obtain ⟨⟨v, j3⟩, h3, h⟩ := Option.bind_eq_some_iff.1 h
    simp only at h
    by_cases hr : 1 ≤ v - z + 1 ∧ v - z + 1 ≤ 256
    · rw [if_pos hr] at h
      obtain ⟨⟨r, j4⟩, h4, h⟩ := Option.bind_eq_some_iff.1 h
      have aq := padR_some _ _ _ hq
      have a1 := gR_some h1
      have a2 := gR_some h2
      have a3 := gR_some h3
      have a4 := tabR_some _ _ _ _ _ h4
      have e := h
      injection e with e; injection e with _ e
      simp only at e h1 a1 h2 a2 h3 a3 h4 a4 hq aq
      rw [gR_take h0 (by omega), Option.bind_some]
      simp only
      rw [if_neg n1, if_neg n2, if_neg n3, if_neg n4, if_neg n5, if_neg n6, if_neg n7, if_pos n8, padR_take _ _ _ hq (by omega), Option.bind_some, gR_take h1 (by omega), Option.bind_some]
      simp only
      rw [gR_take h2 (by omega), Option.bind_some]
      simp only
      rw [gR_take h3 (by omega), Option.bind_some]
      simp only
      rw [if_pos hr, tabR_take _ _ _ _ _ h4 (by omega), Option.bind_some]
      exact h
    · rw [if_neg hr] at h
      cases h
  by_cases n9 : formP o = 9
  · rw [if_neg n1, if_neg n2, if_neg n3, if_neg n4, if_neg n5, if_neg n6, if_neg n7, if_neg n8, if_pos n9] at h
    obtain ⟨q, hq, h⟩ := Option.bind_eq_some_iff.1 h
    obtain ⟨⟨y, j1⟩, h1, h⟩ := Option.bind_eq_some_iff.1 h
    obtain ⟨⟨z, j2⟩, h2, h⟩ := Option.bind_eq_some_iff.1 h
    simp only at h
    by_cases hr : z ≤ 256
    · rw [if_pos hr] at h
      obtain ⟨⟨r, j4⟩, h4, h⟩ := Option.bind_eq_some_iff.1 h
      simp only at h
      by_cases hri : riseC r = true
      · rw [if_pos hri] at h
        have aq := padR_some _ _ _ hq
        have a1 := gR_some h1
        have a2 := gR_some h2
        have a4 := seaR_some _ _ _ _ h4
        have e := h
        injection e with e; injection e with _ e
        simp only at e h1 a1 h2 a2 h4 a4 hq aq
        rw [gR_take h0 (by omega), Option.bind_some]
        simp only
        rw [if_neg n1, if_neg n2, if_neg n3, if_neg n4, if_neg n5, if_neg n6, if_neg n7, if_neg n8, if_pos n9, padR_take _ _ _ hq (by omega), Option.bind_some, gR_take h1 (by omega), Option.bind_some]
        simp only
        rw [gR_take h2 (by omega), Option.bind_some]
        simp only
        rw [if_pos hr, seaR_take _ _ _ _ h4 (by omega), Option.bind_some]
        simp only
        rw [if_pos hri]
        exact h
      · rw [if_neg hri] at h
        cases h
    · rw [if_neg hr] at h
      cases h
  rw [if_neg n1, if_neg n2, if_neg n3, if_neg n4, if_neg n5, if_neg n6, if_neg n7, if_neg n8, if_neg n9] at h
  cases h
/-- The instructions, one behind the other. -/
def insL (bs : List UInt8) : Nat → Nat → Option (List Ins)
  | 0, i => if i = bs.length then some [] else none
  | f + 1, i => if i = bs.length then some [] else (insR bs i).bind fun x => (insL bs f x.2).bind fun r => some (x.1 :: r)
theorem insL_more {bs : List UInt8} : ∀ (f g i : Nat) (l : List Ins), insL bs f i = some l → f ≤ g → insL bs g i = some l
  | 0, 0, i, l, h, _ => h
  | 0, g + 1, i, l, h, _ => by
    unfold insL at h ⊢
    split at h
    · rename_i e
      rw [if_pos e]
      exact h
    · cases h
  | f + 1, 0, i, l, h, hg => by omega
  | f + 1, g + 1, i, l, h, hg => by
    unfold insL at h ⊢
    split at h
    · rename_i e
      rw [if_pos e]
      exact h
    · rename_i e
      rw [if_neg e]
      obtain ⟨x, h1, h⟩ := Option.bind_eq_some_iff.1 h
      obtain ⟨r, h2, h⟩ := Option.bind_eq_some_iff.1 h
      rw [h1, Option.bind_some, insL_more f g _ _ h2 (by omega), Option.bind_some]
      exact h
def targP (x : Ins) : List Int := if formP x.op = 7 then [x.a] else if formP x.op = 8 ∨ formP x.op = 9 then x.a :: x.cs.map Cas.to_ else []
def leadsP (l : List Ins) : Bool := l.all fun x => (targP x).all fun t => l.any fun y => decide (y.at_ = t)
/-- A code's instructions, but for its bound. -/
def codeP (bs : List UInt8) : Option (List Ins) := (insL bs bs.length 0).bind fun l => if l ≠ [] ∧ leadsP l = true then some l else none
/-- Where the k-th instruction begins, or the end. -/
def cutP (bs : List UInt8) (l : List Ins) (k : Nat) : Nat := match l[k]? with | some x => x.at_.toNat | none => bs.length
theorem insL_at {bs : List UInt8} : ∀ (f i : Nat) (l : List Ins), insL bs f i = some l → ∀ x ∈ l, (i : Int) ≤ x.at_ ∧ x.at_ < bs.length
  | 0, i, l, h, x, hx => by
    unfold insL at h
    split at h
    · injection h with h; subst h; cases hx
    · cases h
  | f + 1, i, l, h, x, hx => by
    unfold insL at h
    split at h
    · injection h with h; subst h; cases hx
    · obtain ⟨⟨y, j⟩, h1, h⟩ := Option.bind_eq_some_iff.1 h
      obtain ⟨r, h2, h⟩ := Option.bind_eq_some_iff.1 h
      injection h with h
      subst h
      have a := insR_some h1
      rcases List.mem_cons.1 hx with rfl | hx
      · omega
      · have := insL_at f j r h2 x hx
        omega
theorem insL_cut {bs : List UInt8} : ∀ (f i : Nat) (l : List Ins) (k : Nat), insL bs f i = some l → 0 < k → i ≤ bs.length → insL (bs.take (cutP bs l k)) f i = some (l.take k)
  | 0, i, l, k, h, hk, hi => by
    unfold insL at h
    split at h
    · rename_i e
      injection h with h
      subst h
      simp only [cutP, List.getElem?_nil, List.take_nil, List.take_length]
      unfold insL
      rw [if_pos e]
    · cases h
  | f + 1, i, l, k, h, hk, hi => by
    unfold insL at h
    split at h
    · rename_i e
      injection h with h
      subst h
      simp only [cutP, List.getElem?_nil, List.take_nil, List.take_length]
      unfold insL
      rw [if_pos e]
    · rename_i e
      obtain ⟨⟨y, j⟩, h1, h⟩ := Option.bind_eq_some_iff.1 h
      obtain ⟨r, h2, h⟩ := Option.bind_eq_some_iff.1 h
      injection h with h
      subst h
      simp only at h2
      have a := insR_some h1
      obtain ⟨k', rfl⟩ : ∃ k', k = k' + 1 := ⟨k - 1, by omega⟩
      have hc : cutP bs (y :: r) (k' + 1) = cutP bs r k' := by simp [cutP]
      rw [hc, List.take_succ_cons]
      have hcj : j ≤ cutP bs r k' ∧ cutP bs r k' ≤ bs.length := by
        unfold cutP
        cases hr : r[k']? with
        | none => simp only; omega
        | some z =>
          have := insL_at f j r h2 z (List.mem_of_getElem? hr)
          simp only
          omega
      unfold insL
      rw [if_neg (by rw [List.length_take]; omega), insR_take h1 hcj.1, Option.bind_some]
      simp only
      by_cases hk0 : k' = 0
      · subst hk0
        have hlast : cutP bs r 0 = j := by
          cases r with
          | nil =>
            cases f with
            | zero =>
              unfold insL at h2
              split at h2
              · simp [cutP]; omega
              · cases h2
            | succ f =>
              unfold insL at h2
              split at h2
              · simp [cutP]; omega
              · obtain ⟨_, _, h3⟩ := Option.bind_eq_some_iff.1 h2
                obtain ⟨_, _, h3⟩ := Option.bind_eq_some_iff.1 h3
                cases h3
          | cons z r =>
            cases f with
            | zero =>
              unfold insL at h2
              split at h2
              · cases h2
              · cases h2
            | succ f =>
              unfold insL at h2
              split at h2
              · cases h2
              · obtain ⟨⟨z', j'⟩, h3, h2⟩ := Option.bind_eq_some_iff.1 h2
                obtain ⟨_, _, h2⟩ := Option.bind_eq_some_iff.1 h2
                injection h2 with h2
                injection h2 with h2 _
                subst h2
                have := (insR_some h3).2.2
                simp [cutP, this]
        rw [hlast, List.take_zero]
        have : insL (bs.take j) f j = some [] := by
          cases f with
          | zero => unfold insL; rw [if_pos (by rw [List.length_take]; omega)]
          | succ f => unfold insL; rw [if_pos (by rw [List.length_take]; omega)]
        rw [this]
        rfl
      · rw [insL_cut f j r k' h2 (by omega) (by omega)]
        rfl
end Go.Proofs.YtpmhcignenfhgaaDoor
