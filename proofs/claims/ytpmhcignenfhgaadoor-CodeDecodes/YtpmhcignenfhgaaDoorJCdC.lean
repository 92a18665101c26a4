/- Codes as plain values: a code's beginning is a code just if nothing leads out of it; the plain form. -/
import Derived.Test.YtpmhcignenfhgaaDoorJCdB

namespace Go.Proofs.YtpmhcignenfhgaaDoor
open Go.RowKit
set_option linter.unusedVariables false

theorem insL_fit {bs : List UInt8} : ∀ (f i : Nat) (l : List Ins), insL bs f i = some l → i ≤ bs.length → ∀ g, bs.length - i ≤ g → insL bs g i = some l
  | 0, i, l, h, hi, g, hg => insL_more 0 g i l h (by omega)
  | f + 1, i, l, h, hi, g, hg => by
    unfold insL at h
    split at h
    · rename_i e
      cases g with
      | zero => unfold insL; rw [if_pos e]; exact h
      | succ g => unfold insL; rw [if_pos e]; exact h
    · rename_i e
      obtain ⟨⟨y, j⟩, h1, h⟩ := Option.bind_eq_some_iff.1 h
      obtain ⟨r, h2, h⟩ := Option.bind_eq_some_iff.1 h
      have a := insR_some h1
      cases g with
      | zero => omega
      | succ g =>
        unfold insL
        rw [if_neg e, h1, Option.bind_some]
        simp only at h2 ⊢
        rw [insL_fit f j r h2 (by omega) g (by omega), Option.bind_some]
        exact h
theorem insL_rise {bs : List UInt8} : ∀ (f i : Nat) (l : List Ins), insL bs f i = some l → ∀ (p q : Nat) (x y : Ins), p < q → l[p]? = some x → l[q]? = some y → x.at_ < y.at_
  | 0, i, l, h, p, q, x, y, hpq, hx, hy => by
    unfold insL at h
    split at h
    · injection h with h; subst h; simp at hx
    · cases h
  | f + 1, i, l, h, p, q, x, y, hpq, hx, hy => by
    unfold insL at h
    split at h
    · injection h with h; subst h; simp at hx
    · obtain ⟨⟨z, j⟩, h1, h⟩ := Option.bind_eq_some_iff.1 h
      obtain ⟨r, h2, h⟩ := Option.bind_eq_some_iff.1 h
      injection h with h
      subst h
      have a := insR_some h1
      cases q with
      | zero => omega
      | succ q =>
        rw [List.getElem?_cons_succ] at hy
        cases p with
        | zero =>
          simp at hx
          subst hx
          have := insL_at f j r h2 y (List.mem_of_getElem? hy)
          omega
        | succ p =>
          rw [List.getElem?_cons_succ] at hx
          exact insL_rise f j r h2 p q x y (by omega) hx hy
theorem cutP_in {bs : List UInt8} {f : Nat} {l : List Ins} (h : insL bs f 0 = some l) {k p : Nat} {x : Ins} (hx : l[p]? = some x) : x.at_ < (cutP bs l k : Int) ↔ p < k := by
  have hat := insL_at f 0 l h
  have hx1 := hat x (List.mem_of_getElem? hx)
  unfold cutP
  cases hk : l[k]? with
  | none =>
    have : l.length ≤ k := by simpa using hk
    have := (List.getElem?_eq_some_iff.1 hx).1
    simp only
    constructor
    · intro _; omega
    · intro _; omega
  | some y =>
    have hy1 := hat y (List.mem_of_getElem? hk)
    simp only
    constructor
    · intro hlt
      rcases Nat.lt_trichotomy p k with h1 | h1 | h1
      · exact h1
      · subst h1
        rw [hx] at hk
        injection hk with hk
        subst hk
        omega
      · have := insL_rise f 0 l h k p y x h1 hk hx
        omega
    · intro hlt
      have := insL_rise f 0 l h p k x y hlt hx hk
      omega
theorem codeP_some {bs : List UInt8} {l : List Ins} (h : codeP bs = some l) : insL bs bs.length 0 = some l ∧ l ≠ [] ∧ leadsP l = true := by
  unfold codeP at h
  obtain ⟨l', h1, h2⟩ := Option.bind_eq_some_iff.1 h
  split at h2
  · rename_i h3
    injection h2 with h2
    subst h2
    exact ⟨h1, h3⟩
  · cases h2
theorem leadsP_all {l : List Ins} : leadsP l = true ↔ ∀ x ∈ l, ∀ t ∈ targP x, ∃ y ∈ l, y.at_ = t := by
  unfold leadsP
  simp [List.all_eq_true, List.any_eq_true]
/-- A code's beginning. -/
theorem codeP_front {bs : List UInt8} {l : List Ins} (h : codeP bs = some l) {k : Nat} (hk : 0 < k) (hkl : k ≤ l.length) :
    codeP (bs.take (cutP bs l k)) = if (∃ x ∈ l.take k, ∃ t ∈ targP x, (cutP bs l k : Int) ≤ t) then none else some (l.take k) := by
  obtain ⟨h1, h2, h3⟩ := codeP_some h
  have hc := insL_cut bs.length 0 l k h1 hk (Nat.zero_le _)
  have hf := insL_fit _ 0 _ hc (Nat.zero_le _) (bs.take (cutP bs l k)).length (by omega)
  have hne : l.take k ≠ [] := by
    intro e
    have := congrArg List.length e
    rw [List.length_take] at this
    simp at this
    rcases this with h9 | h9
    · omega
    · exact h2 h9
  unfold codeP
  rw [hf, Option.bind_some]
  rw [leadsP_all] at h3
  by_cases ho : ∃ x ∈ l.take k, ∃ t ∈ targP x, (cutP bs l k : Int) ≤ t
  · rw [if_pos ho, if_neg]
    rintro ⟨_, hl⟩
    rw [leadsP_all] at hl
    obtain ⟨x, hx, t, ht, hn⟩ := ho
    obtain ⟨y, hy, e⟩ := hl x hx t ht
    obtain ⟨p, hp⟩ := List.mem_iff_getElem?.1 hy
    rw [List.getElem?_take] at hp
    split at hp
    · rename_i hpk
      have := (cutP_in h1 (k := k) hp).2 hpk
      omega
    · cases hp
  · rw [if_neg ho, if_pos]
    refine ⟨hne, ?_⟩
    rw [leadsP_all]
    intro x hx t ht
    obtain ⟨y, hy, e⟩ := h3 x (List.mem_of_mem_take hx) t ht
    refine ⟨y, ?_, e⟩
    obtain ⟨p, hp⟩ := List.mem_iff_getElem?.1 hy
    have hlt : y.at_ < (cutP bs l k : Int) := by
      rw [e]
      exact Int.lt_of_not_ge fun hge => ho ⟨x, hx, t, ht, hge⟩
    have hpk := (cutP_in h1 (k := k) hp).1 hlt
    exact List.mem_iff_getElem?.2 ⟨p, by rw [List.getElem?_take, if_pos hpk]; exact hp⟩

/-- The plain form. -/
def plainP (x : Ins) : Ins :=
  if 2 ≤ x.op ∧ x.op ≤ 8 then { x with op := 17, a := x.op - 3 }
  else if x.op = 16 then { x with op := 17 } else if x.op = 19 then { x with op := 18 }
  else if x.op = 10 then { x with op := 9, a := 1 }
  else if 26 ≤ x.op ∧ x.op ≤ 29 then { x with op := 21, a := x.op - 26 } else if 30 ≤ x.op ∧ x.op ≤ 33 then { x with op := 22, a := x.op - 30 }
  else if 42 ≤ x.op ∧ x.op ≤ 45 then { x with op := 25, a := x.op - 42 } else if 59 ≤ x.op ∧ x.op ≤ 62 then { x with op := 54, a := x.op - 59 }
  else if 63 ≤ x.op ∧ x.op ≤ 66 then { x with op := 55, a := x.op - 63 } else if 75 ≤ x.op ∧ x.op ≤ 78 then { x with op := 58, a := x.op - 75 } else x
def fallsP (x : Ins) : Bool := !decide (x.op = 167 ∨ x.op = 170 ∨ x.op = 171 ∨ x.op = 172 ∨ x.op = 173 ∨ x.op = 176 ∨ x.op = 177 ∨ x.op = 191)
theorem plainP_or (x : Ins) : plainP x = x ∨ ((plainP x).op = 9 ∨ (plainP x).op = 17 ∨ (plainP x).op = 18 ∨ (plainP x).op = 21 ∨ (plainP x).op = 22 ∨ (plainP x).op = 25 ∨ (plainP x).op = 54 ∨ (plainP x).op = 55 ∨ (plainP x).op = 58) ∧ (2 ≤ x.op ∧ x.op ≤ 8 ∨ x.op = 16 ∨ x.op = 19 ∨ x.op = 10 ∨ 26 ≤ x.op ∧ x.op ≤ 33 ∨ 42 ≤ x.op ∧ x.op ≤ 45 ∨ 59 ≤ x.op ∧ x.op ≤ 66 ∨ 75 ≤ x.op ∧ x.op ≤ 78) := by
  unfold plainP
  repeat' split
  all_goals first | exact .inl rfl | exact .inr ⟨by simp, by omega⟩
theorem plainP_twice (x : Ins) : plainP (plainP x) = plainP x := by
  rcases plainP_or x with h | ⟨h, _⟩
  · rw [h, h]
  · generalize plainP x = y at *
    obtain ⟨at_, op, a, b, cs⟩ := y
    simp only at h
    rcases h with rfl | rfl | rfl | rfl | rfl | rfl | rfl | rfl | rfl <;> rfl
theorem formP_low {op : Int} (h : op = 9 ∨ op = 17 ∨ op = 18 ∨ op = 21 ∨ op = 22 ∨ op = 25 ∨ op = 54 ∨ op = 55 ∨ op = 58) : formP op < 7 := by
  rcases h with rfl | rfl | rfl | rfl | rfl | rfl | rfl | rfl | rfl <;> decide
theorem formP_short {op : Int} (h : 2 ≤ op ∧ op ≤ 8 ∨ op = 16 ∨ op = 19 ∨ op = 10 ∨ 26 ≤ op ∧ op ≤ 33 ∨ 42 ≤ op ∧ op ≤ 45 ∨ 59 ≤ op ∧ op ≤ 66 ∨ 75 ≤ op ∧ op ≤ 78) : formP op < 7 := by
  have h1 : inS spans1 op = true ∨ op = 16 ∨ op = 19 := by
    unfold inS spans1
    simp only [List.any_cons, List.any_nil, Bool.or_eq_true, decide_eq_true_eq]
    omega
  rcases h1 with h1 | rfl | rfl
  · unfold formP
    rw [if_pos h1]
    decide
  · decide
  · decide
theorem targP_none {x : Ins} (h : formP x.op < 7) : targP x = [] := by
  unfold targP
  rw [if_neg (by omega), if_neg (by omega)]
theorem plainP_leads (x : Ins) : targP (plainP x) = targP x ∧ fallsP (plainP x) = fallsP x ∧ (plainP x).at_ = x.at_ ∧ (plainP x).b = x.b ∧ (plainP x).cs = x.cs := by
  have hkeep : (plainP x).at_ = x.at_ ∧ (plainP x).b = x.b ∧ (plainP x).cs = x.cs := by
    unfold plainP
    repeat' split
    all_goals exact ⟨rfl, rfl, rfl⟩
  rcases plainP_or x with h | ⟨h, h'⟩
  · rw [h]
    exact ⟨rfl, rfl, rfl, rfl, rfl⟩
  · refine ⟨?_, ?_, hkeep⟩
    · rw [targP_none (formP_low h), targP_none (formP_short h')]
    · unfold fallsP
      congr 1
      rw [decide_eq_decide]
      omega
end Go.Proofs.YtpmhcignenfhgaaDoor
