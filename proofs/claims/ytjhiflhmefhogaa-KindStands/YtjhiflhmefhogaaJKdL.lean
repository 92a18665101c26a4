/- What follows of descriptors, as plain values. -/
import Derived.Test.YtjhiflhmefhogaaJKdK

namespace Go.Proofs.Ytjhiflhmefhogaa
open Go.RowKit
set_option linter.unusedVariables false

def elemP (t : Ty) : Ty × Int := if t.kind = 4 ∧ arrB t.name = true ∧ sizeN t.name = t.name.length then (if t.name.drop 1 = [66] then (⟨1, []⟩, 0) else (typeP (t.name.drop 1), 0)) else (ty0, 100)
theorem arr_cons {s : List UInt8} (h : arrB s = true) : ∃ t, s = 91 :: t := by
  cases s with
  | nil => simp [arrB] at h
  | cons c t => simp [arrB] at h; exact ⟨t, by rw [h]⟩
theorem arr_inner (t : List UInt8) (h : sizeN (91 :: t) = (91 :: t).length) (hB : t ≠ [66]) : sizeN t = t.length ∧ 0 < t.length := by
  rw [sizeN_is, oneP_A t 0 (by omega)] at h
  by_cases h1 : t[0]? = some 66 ∧ (0 : Nat) < 8
  · rw [if_pos h1] at h
    simp at h
    exfalso
    apply hB
    cases t with
    | nil => simp at h1
    | cons c t =>
      have hl : t = [] := by simpa using h
      simp at h1
      rw [h1, hl]
  · rw [if_neg h1] at h
    by_cases h2 : 0 < (oneP t (0 + 1)).2
    · rw [if_pos h2] at h
      simp only [List.length_cons] at h
      have h3 := one_size t 1 (by omega)
      have h4 : (oneP t 1).2 = t.length := by simp at h ⊢; omega
      rw [h4] at h3
      by_cases h5 : 8 < deepN t + 1
      · rw [if_pos h5] at h3
        simp only [Nat.zero_add] at h2
        omega
      · rw [if_neg h5] at h3
        refine ⟨?_, by simp only [Nat.zero_add] at h2; omega⟩
        unfold sizeN
        rw [if_neg (by omega), ← h3]
    · rw [if_neg h2] at h
      simp at h
theorem parP_ok {s : List UInt8} (h : sizeN s = s.length) (h0 : 0 < s.length) : parP s = (typeP s, 0) := by
  unfold parP
  rw [if_neg (by omega)]
theorem parP_no {s : List UInt8} (h : ¬ (sizeN s = s.length ∧ 0 < s.length)) : parP s = (ty0, 100) := by
  unfold parP
  rw [if_pos]
  by_cases h1 : sizeN s = s.length
  · exact .inl (by rw [h1]; by_cases h2 : s.length = 0; exact h2; exact absurd ⟨h1, by omega⟩ h)
  · exact .inr h1
theorem parP_yes {s : List UInt8} (h : (parP s).2 = 0) : sizeN s = s.length ∧ 0 < s.length := by
  apply Classical.byContradiction
  intro hn
  rw [parP_no hn] at h
  simp at h
/-- What the document's Elem does. -/
theorem elem_ref (t : Ty) : elemP t = if (prnP t).2 = 0 ∧ t.kind = 4 ∧ arrB t.name = true then (if t.name = [91, 66] then (⟨1, []⟩, 0) else parP (t.name.drop 1)) else (ty0, 100) := by
  obtain ⟨k, n⟩ := t
  show (if k = 4 ∧ arrB n = true ∧ sizeN n = n.length then (if n.drop 1 = [66] then ((⟨1, []⟩ : Ty), (0 : Int)) else (typeP (n.drop 1), 0)) else (ty0, 100)) = if (prnP ⟨k, n⟩).2 = 0 ∧ k = 4 ∧ arrB n = true then (if n = [91, 66] then ((⟨1, []⟩ : Ty), (0 : Int)) else parP (n.drop 1)) else (ty0, 100)
  by_cases h4 : k = 4
  case neg => rw [if_neg (fun h => h4 h.1), if_neg (fun h => h4 h.2.1)]
  subst h4
  by_cases ha : arrB n = true
  case neg => rw [if_neg (fun h => ha h.2.1), if_neg (fun h => ha h.2.2)]
  obtain ⟨t, rfl⟩ := arr_cons ha
  have hsp : spelP ⟨4, 91 :: t⟩ = 91 :: t := by simp [spelP, ha]
  have hpr : (prnP ⟨4, 91 :: t⟩).2 = 0 ↔ sizeN (91 :: t) = (91 :: t).length := by
    unfold prnP
    rw [hsp]
    by_cases hz : sizeN (91 :: t) = (91 :: t).length
    · rw [parP_ok hz (by simp)]
      simp [typeP, hz]
    · rw [parP_no (fun h => hz h.1)]
      simp only [hz, iff_false]
      rw [if_neg (fun h => by simp at h)]
      simp
  by_cases hz : sizeN (91 :: t) = (91 :: t).length
  · rw [if_pos (show (4 : Int) = 4 ∧ arrB (91 :: t) = true ∧ sizeN (91 :: t) = (91 :: t).length from ⟨rfl, ha, hz⟩), if_pos (show (prnP ⟨4, 91 :: t⟩).2 = 0 ∧ (4 : Int) = 4 ∧ arrB (91 :: t) = true from ⟨hpr.2 hz, rfl, ha⟩)]
    simp only [List.drop_succ_cons, List.drop_zero]
    by_cases hB : t = [66]
    · rw [if_pos hB, if_pos (by rw [hB])]
    · rw [if_neg hB, if_neg (fun h => hB (by simpa using h))]
      obtain ⟨h1, h2⟩ := arr_inner t hz hB
      rw [parP_ok h1 h2]
  · rw [if_neg (fun h => hz h.2.2), if_neg (fun h => hz (hpr.1 h.1))]
/-- A descriptor is told again as it was (10.3). -/
theorem spel_type {s : List UInt8} (h : sizeN s = s.length) (h0 : 0 < s.length) : spelP (typeP s) = s := by
  cases s with
  | nil => simp at h0
  | cons c t =>
    rw [sizeN_is] at h
    unfold oneP at h
    rw [if_neg (by omega)] at h
    by_cases c1 : c = 73
    · subst c1
      have : t = [] := List.eq_nil_of_length_eq_zero (by simp only [if_true, List.length_cons] at h; omega)
      subst this; rfl
    rw [if_neg c1] at h
    by_cases c2 : c = 74
    · subst c2
      have : t = [] := List.eq_nil_of_length_eq_zero (by simp only [if_true, List.length_cons] at h; omega)
      subst this; rfl
    rw [if_neg c2] at h
    by_cases c3 : c = 76
    · subst c3
      rw [if_pos rfl] at h
      by_cases hi : Lib.indexByte t 59 = -1
      · rw [if_pos hi] at h; simp at h
      rw [if_neg hi] at h
      by_cases hc : clsB (t.take (Lib.indexByte t 59).toNat) = true
      · rw [if_pos hc] at h
        obtain ⟨g1, g2, g3⟩ := idx_lt t 59 hi
        generalize (Lib.indexByte t 59).toNat = j at *
        simp at h
        have hj : j + 1 = t.length := by omega
        have e1 : typeP (76 :: t) = ⟨4, t.take j⟩ := by
          unfold typeP
          simp only [List.getElem?_cons_zero, List.drop_succ_cons, List.drop_zero, List.length_cons]
          rw [if_neg (by decide), if_neg (by decide), if_pos trivial]
          congr 2
          omega
        have e2 : arrB (t.take j) = false := by
          have hl := (clsB_at.1 hc)
          unfold arrB
          rw [decide_eq_false_iff_not]
          intro h91
          have := hl.2.2.1 91 h91
          simp [letB] at this
        have e3 : t = t.take j ++ [59] := by
          conv => lhs; rw [← List.take_append_drop j t]
          congr 1
          rw [List.drop_eq_getElem_cons g2]
          have : t[j] = 59 := by
            have := List.getElem?_eq_getElem g2
            rw [g3] at this
            injection this with this
            exact this.symm
          rw [this, List.drop_of_length_le (by omega)]
        rw [e1]
        unfold spelP
        simp only
        rw [if_neg (by decide), if_neg (by decide), if_pos trivial, if_neg (by rw [e2]; decide), ← e3]
      · rw [if_neg hc] at h; simp at h
    rw [if_neg c3] at h
    by_cases c4 : c = 91
    · subst c4
      have e1 : typeP (91 :: t) = ⟨4, 91 :: t⟩ := by simp [typeP]
      rw [e1]
      simp [spelP, arrB]
    · rw [if_neg c4] at h; simp at h
theorem prn_par {s : List UInt8} (h : (parP s).2 = 0) : prnP (parP s).1 = (s, 0) := by
  obtain ⟨h1, h2⟩ := parP_yes h
  have e := parP_ok h1 h2
  rw [e]
  unfold prnP
  simp only
  rw [spel_type h1 h2, e]
  simp
theorem par_prn {t : Ty} (h : (prnP t).2 = 0) : parP (prnP t).1 = (t, 0) := by
  unfold prnP at h ⊢
  by_cases hc : (parP (spelP t)).2 = 0 ∧ (parP (spelP t)).1 = t
  · rw [if_pos hc]
    simp only
    rcases hp : parP (spelP t) with ⟨a, b⟩
    rw [hp] at hc
    simp only at hc
    rw [hc.1, hc.2]
  · rw [if_neg hc] at h; simp at h
theorem prn_err (t : Ty) : (prnP t).2 = 0 ∨ prnP t = ([], 100) := by
  unfold prnP
  split
  · exact .inl rfl
  · exact .inr rfl
/-- The elements of an array of a type (10.6). -/
theorem elem_of {s : List UInt8} (h : sizeN s = s.length) (h0 : 0 < s.length) : (8 ≤ deepN s ∧ parP (91 :: s) = (ty0, 100)) ∨ (parP (91 :: s) = (⟨4, 91 :: s⟩, 0) ∧ elemP ⟨4, 91 :: s⟩ = (typeP s, 0)) := by
  have hd : deepN (91 :: s) = deepN s + 1 := by simp [deepN]
  have hB : s ≠ [66] := fun e => by subst e; simp [sizeN, deepN, innN] at h
  have h66 : s[0]? ≠ some 66 := fun e => by
    cases s with
    | nil => simp at h0
    | cons c t =>
      simp at e
      subst e
      have hd0 : deepN (66 :: t) = 0 := by simp [deepN]
      unfold sizeN at h
      rw [hd0] at h
      simp [innN] at h
  by_cases h8 : 8 ≤ deepN s
  · refine .inl ⟨h8, parP_no (fun hh => ?_)⟩
    have := hh.1
    unfold sizeN at this
    rw [hd, if_pos (by omega)] at this
    simp at this
  · right
    have hz : sizeN (91 :: s) = (91 :: s).length := by
      unfold sizeN at h ⊢
      rw [hd, if_neg (by omega)]
      rw [if_neg (by omega)] at h
      simp only [List.drop_succ_cons, show decide (0 < deepN s + 1) = true by simp]
      have ei : innN (s.drop (deepN s)) (decide (0 < deepN s)) = innN (s.drop (deepN s)) true := by
        by_cases hd : deepN s = 0
        · rw [hd]
          cases s with
          | nil => rfl
          | cons d t =>
            have hd66 : d ≠ 66 := by simpa using h66
            simp [innN, hd66]
        · simp [show 0 < deepN s by omega]
      rw [ei] at h
      by_cases hi : innN (s.drop (deepN s)) true = 0
      · rw [if_pos hi] at h; omega
      · rw [if_neg hi] at h ⊢
        simp only [List.length_cons]
        omega
    have ha : arrB (91 :: s) = true := by simp [arrB]
    have e1 : typeP (91 :: s) = ⟨4, 91 :: s⟩ := by simp [typeP]
    refine ⟨by rw [parP_ok hz (by simp), e1], ?_⟩
    unfold elemP
    simp only
    rw [if_pos ⟨trivial, ha, hz⟩]
    simp only [List.drop_succ_cons, List.drop_zero]
    rw [if_neg hB]
end Go.Proofs.Ytjhiflhmefhogaa
