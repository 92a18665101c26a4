/- Going up by names, as the document's answer does it: the same list. -/
import Derived.Test.YtjhiflhmefhogaaJKsJ

namespace Go.Proofs.Ytjhiflhmefhogaa
open Go.RowKit
set_option linter.unusedVariables false

/-- What was met by its places is what was met by its names. -/
structure UN (l : List Nc) (nm : List UInt8) (met : List Nat) (cur : List UInt8) (pre : List (List UInt8)) : Prop where
  ur : UR l nm met (fstN l cur) pre
  last : (nm :: pre).getLast? = some cur
  here : ∀ p, p ∈ met → ∃ t ∈ nm :: pre, fstN l t = some p
  back : ∀ t ∈ nm :: pre, t ≠ cur → ∃ p ∈ met, fstN l t = some p
theorem UN.start (l : List Nc) (nm : List UInt8) : UN l nm [] nm [] :=
  ⟨UR.start l nm, rfl, fun p h => by simp at h, fun t ht hne => by simp at ht; exact absurd ht hne⟩
theorem nxt_some {l : List Nc} {nm s : List UInt8} (h : nxt l nm = some s) : ∃ p, fstN l nm = some p ∧ supAt l p = s ∧ s ≠ [] := by
  unfold nxt at h
  cases hp : fstN l nm with
  | none => rw [hp] at h; cases h
  | some p =>
    rw [hp] at h
    simp only at h
    by_cases hs : supAt l p = []
    · rw [if_pos hs] at h; cases h
    · rw [if_neg hs] at h
      injection h with h
      exact ⟨p, rfl, h, by rw [← h]; exact hs⟩
theorem UN.stop {l : List Nc} {nm cur : List UInt8} {met : List Nat} {pre : List (List UInt8)} (h : UN l nm met cur pre) (hn : nxt l cur = none) : upL l nm = pre := by
  have hu := h.ur
  unfold nxt at hn
  cases hp : fstN l cur with
  | none => rw [hp] at hu; exact hu.none
  | some p =>
    rw [hp] at hn hu
    simp only at hn
    by_cases hs : supAt l p = []
    · exact hu.ends hs
    · rw [if_neg hs] at hn; cases hn
theorem UN.ring {l : List Nc} {nm cur s : List UInt8} {met : List Nat} {pre : List (List UInt8)} (h : UN l nm met cur pre) (hn : nxt l cur = some s) (hm : s ∈ nm :: pre) : upL l nm = pre := by
  obtain ⟨p, hp, hs, hne⟩ := nxt_some hn
  have hu := h.ur
  rw [hp] at hu
  by_cases hc : s = cur
  · exact hu.ring (by rw [hs]; exact hne) (q := p) (by rw [hs, hc]; exact hp) (List.mem_cons_self ..)
  · obtain ⟨q, hq, hf⟩ := h.back s hm hc
    exact hu.ring (by rw [hs]; exact hne) (q := q) (by rw [hs]; exact hf) (List.mem_cons_of_mem _ hq)
theorem UN.next {l : List Nc} {nm cur s : List UInt8} {met : List Nat} {pre : List (List UInt8)} (h : UN l nm met cur pre) (hn : nxt l cur = some s) (hm : s ∉ nm :: pre) : ∃ p, UN l nm (p :: met) s (pre ++ [s]) := by
  obtain ⟨p, hp, hs, hne⟩ := nxt_some hn
  have hu := h.ur
  rw [hp] at hu
  have hcur : cur ∈ nm :: pre := List.mem_of_getLast? h.last
  have key : ∀ q, fstN l s = some q → q ∉ p :: met := fun q hq hin => by
    have hname : ∀ t, fstN l t = some q → t = s := fun t ht => by
      obtain ⟨c1, hc1, hn1, _⟩ := fstN_some ht
      obtain ⟨c2, hc2, hn2, _⟩ := fstN_some hq
      rw [hc1] at hc2
      injection hc2 with hc2
      rw [← hn1, hc2, hn2]
    rcases List.mem_cons.1 hin with rfl | hin
    · exact hm (hname cur hp ▸ hcur)
    · obtain ⟨t, ht, hf⟩ := h.here q hin
      exact hm (hname t hf ▸ ht)
  refine ⟨p, ?_, ?_, ?_, ?_⟩
  · have := hu.next (by rw [hs]; exact hne) (fun q hq => key q (by rw [hs] at hq; exact hq))
    rw [hs] at this
    exact this
  · show ((nm :: pre) ++ [s]).getLast? = some s
    rw [List.getLast?_append]
    rfl
  · intro q hq
    rcases List.mem_cons.1 hq with rfl | hq
    · exact ⟨cur, by rw [← List.cons_append]; exact List.mem_append_left _ hcur, hp⟩
    · obtain ⟨t, ht, hf⟩ := h.here q hq
      exact ⟨t, by rw [← List.cons_append]; exact List.mem_append_left _ ht, hf⟩
  · intro t ht hne2
    rw [← List.cons_append] at ht
    rcases List.mem_append.1 ht with ht | ht
    · by_cases hc : t = cur
      · exact ⟨p, List.mem_cons_self .., by rw [hc]; exact hp⟩
      · obtain ⟨q, hq, hf⟩ := h.back t ht hc
        exact ⟨q, List.mem_cons_of_mem _ hq, hf⟩
    · exact absurd (List.mem_singleton.1 ht) hne2
end Go.Proofs.Ytjhiflhmefhogaa
