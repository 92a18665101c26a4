/- Layer 15: what was put is got, what was freed is not there (15.4, 15.5, 15.7), as plain values. -/
import Derived.Test.YtnnanlniffjnkaaJHpP
import Derived.Test.YtnnanlniffjnkaaJY3
import Derived.Test.YtnnanlniffjnkaaJY2

namespace Go.Proofs.Ytnnanlniffjnkaa
open Go.RowKit
set_option linter.unusedVariables false
set_option maxRecDepth 100000

theorem checkH_iff (l : List Ob) : checkH l = true ↔ l.length ≤ 4096 ∧ wordsH l ≤ 65536 ∧ endsH l = false ∧ ∀ o ∈ l, freeO o = true → o.ws = [] := by
  unfold checkH
  simp only [Bool.and_eq_true, decide_eq_true_eq, Bool.not_eq_true', List.all_eq_true, freeW, Bool.and_eq_false_iff, decide_eq_false_iff_not, Nat.not_lt, Nat.le_zero_eq, List.length_eq_zero_iff]
  constructor
  · rintro ⟨⟨⟨h1, h2⟩, h3⟩, h4⟩
    refine ⟨h1, h2, h3, fun o ho hf => ?_⟩
    rcases h4 o ho with h | h
    · rw [hf] at h; cases h
    · exact h
  · rintro ⟨h1, h2, h3, h4⟩
    refine ⟨⟨⟨h1, h2⟩, h3⟩, fun o ho => ?_⟩
    cases hf : freeO o with
    | false => exact .inl rfl
    | true => exact .inr (h4 o ho hf)
theorem wordsH_set_eq : ∀ (l : List Ob) (j : Nat) (o x : Ob), l[j]? = some o → wordsH (l.set j x) + o.ws.length = wordsH l + x.ws.length
  | [], j, o, x, h => by simp at h
  | y :: l, 0, o, x, h => by
    simp at h
    subst h
    simp only [List.set_cons_zero, wordsH]
    omega
  | y :: l, j + 1, o, x, h => by
    have := wordsH_set_eq l j o x (by simpa using h)
    simp only [List.set_cons_succ, wordsH]
    omega
theorem trimH_split : ∀ l : List Ob, ∃ t, l = trimH l ++ t ∧ (∀ o ∈ t, freeO o = true) ∧ endsH (trimH l) = false
  | [] => ⟨[], rfl, by simp, rfl⟩
  | o :: l => by
    obtain ⟨t, h1, h2, h3⟩ := trimH_split l
    cases hm : trimH l with
    | nil =>
      rw [hm] at h1
      by_cases hf : freeO o = true
      · refine ⟨o :: l, ?_, ?_, ?_⟩
        · simp [trimH, hm, hf]
        · intro x hx
          rcases List.mem_cons.1 hx with rfl | hx
          · exact hf
          · rw [h1] at hx
            exact h2 x (by simpa using hx)
        · simp only [trimH, hm, hf, if_true]
          rfl
      · refine ⟨l, ?_, ?_, ?_⟩
        · simp [trimH, hm, hf]
        · intro x hx
          rw [h1] at hx
          exact h2 x (by simpa using hx)
        · simp only [trimH, hm, hf, if_false, Bool.false_eq_true]
          simp [endsH, hf]
    | cons x m =>
      refine ⟨t, ?_, h2, ?_⟩
      · simp only [trimH, hm]
        rw [hm] at h1
        conv => lhs; rw [h1]
        rfl
      · rw [hm] at h3
        simp only [trimH, hm]
        simpa [endsH, List.getLast?_cons_cons] using h3
theorem trimH_get {l : List Ob} {k : Nat} {o : Ob} (h : (trimH l)[k]? = some o) : l[k]? = some o := by
  obtain ⟨t, h1, _, _⟩ := trimH_split l
  rw [h1, List.getElem?_append_left (List.getElem?_eq_some_iff.1 h).1]
  exact h
theorem trimH_len (l : List Ob) : (trimH l).length ≤ l.length := by
  obtain ⟨t, h1, _, _⟩ := trimH_split l
  conv => rhs; rw [h1]
  simp
theorem trimH_words (l : List Ob) : wordsH (trimH l) ≤ wordsH l := by
  obtain ⟨t, h1, _, _⟩ := trimH_split l
  conv => rhs; rw [h1]
  rw [wordsH_append]
  omega
theorem getH_inL {l : List Ob} {n : Int} {o : Ob} (h : getH l n = some o) : checkH l = true ∧ 1 ≤ n ∧ n ≤ (l.length : Int) ∧ l[(n - 1).toNat]? = some o ∧ freeO o = false := by
  unfold getH at h
  split at h
  · rename_i hc
    cases ho : l[(n - 1).toNat]? with
    | none => rw [ho] at h; cases h
    | some o' =>
      rw [ho] at h
      simp only [Option.bind_some] at h
      cases hf : freeO o' with
      | true => simp [hf] at h
      | false =>
        simp only [hf, Bool.false_eq_true, if_false] at h
        injection h with h
        subst h
        exact ⟨hc.1, hc.2.1, hc.2.2, rfl, hf⟩
  · cases h
theorem getH_of {l : List Ob} {k : Nat} {o : Ob} (hc : checkH l = true) (ho : l[k]? = some o) (hf : freeO o = false) : getH l ((k : Int) + 1) = some o := by
  have hk := (List.getElem?_eq_some_iff.1 ho).1
  unfold getH
  rw [if_pos ⟨hc, by omega, by omega⟩, show ((k : Int) + 1 - 1).toNat = k by omega, ho]
  simp [hf]
theorem firstH_at {f : Ob → Bool} {l : List Ob} {o : Ob} (h : l[firstH f l]? = some o) : f o = true := by
  have hl := (List.getElem?_eq_some_iff.1 h).1
  have := List.findIdx_getElem (p := f) (xs := l) (w := hl)
  rw [← (List.getElem?_eq_some_iff.1 h).2]
  exact this
theorem firstH_below {f : Ob → Bool} {l : List Ob} {k : Nat} {o : Ob} (hk : k < firstH f l) (h : l[k]? = some o) : f o = false := by
  have := List.not_of_lt_findIdx (p := f) (xs := l) hk
  rw [(List.getElem?_eq_some_iff.1 h).2] at this
  simpa using this
theorem firstH_least {f : Ob → Bool} {l : List Ob} {k : Nat} {o : Ob} (h : l[k]? = some o) (hf : f o = true) : firstH f l ≤ k := by
  rcases Nat.lt_or_ge k (firstH f l) with hk | hk
  · have := firstH_below hk h
    rw [hf] at this
    cases this
  · exact hk
theorem putEH_in {l : List Ob} {x : Ob} (h : putEH l x = 0) : checkH l = true ∧ freeO x = false ∧ firstH freeO l ≠ 4096 ∧ wordsH l + x.ws.length ≤ 65536 := by
  by_cases hc : checkH l = true
  · cases hf : freeO x with
    | true => rw [putEH_arg hc hf] at h; cases h
    | false =>
      by_cases hk : firstH freeO l = 4096 ∨ 65536 < wordsH l + x.ws.length
      · rw [putEH_full hc (by rw [hf]; decide) hk] at h; cases h
      · exact ⟨hc, rfl, fun e => hk (.inl e), by omega⟩
  · rw [putEH_bad hc] at h; cases h
theorem put_get {l : List Ob} {x : Ob} : (putLH l x)[firstH freeO l]? = some x := by
  unfold putLH
  split
  · rename_i h
    rw [List.getElem?_set_self h]
  · rename_i h
    have := firstH_le freeO l
    rw [List.getElem?_append_right (by omega), show firstH freeO l - l.length = 0 by omega]
    rfl
theorem put_other {l : List Ob} {x o : Ob} {k : Nat} (ho : l[k]? = some o) (hf : freeO o = false) : (putLH l x)[k]? = some o ∧ k ≠ firstH freeO l := by
  have hne : k ≠ firstH freeO l := fun e => by
    subst e
    have := firstH_at ho
    rw [hf] at this
    cases this
  refine ⟨?_, hne⟩
  have hk := (List.getElem?_eq_some_iff.1 ho).1
  unfold putLH
  split
  · rw [List.getElem?_set_ne (fun e => hne e.symm)]
    exact ho
  · rw [List.getElem?_append_left hk]
    exact ho
theorem put_words {l : List Ob} {x : Ob} (hc : checkH l = true) : wordsH (putLH l x) = wordsH l + x.ws.length := by
  unfold putLH
  split
  · rename_i h
    obtain ⟨o, ho⟩ : ∃ o, l[firstH freeO l]? = some o := ⟨_, List.getElem?_eq_getElem h⟩
    have h1 := wordsH_set_eq l _ o x ho
    have h2 := ((checkH_iff l).1 hc).2.2.2 o (List.mem_of_getElem? ho) (firstH_at ho)
    rw [h2] at h1
    simpa using h1
  · rw [wordsH_append]
    simp [wordsH]
theorem put_check {l : List Ob} {x : Ob} (h : putEH l x = 0) : checkH (putLH l x) = true := by
  obtain ⟨hc, hf, hk, hw⟩ := putEH_in h
  obtain ⟨c1, c2, c3, c4⟩ := (checkH_iff l).1 hc
  refine (checkH_iff _).2 ⟨?_, by rw [put_words hc]; exact hw, ?_, ?_⟩
  · have hle := firstH_le freeO l
    unfold putLH
    split
    · rw [List.length_set]; exact c1
    · rw [List.length_append]
      simp only [List.length_singleton]
      omega
  · unfold putLH
    split
    · rename_i hlt
      unfold endsH
      rw [List.getLast?_eq_getElem?, List.length_set, List.getElem?_set]
      split
      · simp [hf]
      · unfold endsH at c3
        rw [List.getLast?_eq_getElem?] at c3
        exact c3
    · simp [endsH, hf]
  · intro o ho hfo
    unfold putLH at ho
    split at ho
    · rcases List.mem_or_eq_of_mem_set ho with h1 | rfl
      · exact c4 o h1 hfo
      · rw [hf] at hfo; cases hfo
    · rcases List.mem_append.1 ho with h1 | h1
      · exact c4 o h1 hfo
      · simp at h1
        subst h1
        rw [hf] at hfo; cases hfo
/-- Free, then Put. -/
theorem frees_pure {l : List Ob} {n : Int} {o : Ob} (h : getH l n = some o) : ∃ l', freeH l n = some l' ∧ checkH l' = true ∧ getH l' n = none ∧ putEH l' o = 0 ∧ getH (putLH l' o) ((firstH freeO l' : Int) + 1) = some o ∧ (firstH freeO l' : Int) + 1 ≤ n := by
  obtain ⟨hc, h1, h2, ho, hf⟩ := getH_inL h
  obtain ⟨c1, c2, c3, c4⟩ := (checkH_iff l).1 hc
  obtain ⟨j, hj⟩ : ∃ j : Nat, n = (j : Int) + 1 := ⟨(n - 1).toNat, by omega⟩
  subst hj
  have hjn : ((j : Int) + 1 - 1).toNat = j := by omega
  rw [hjn] at ho
  have hjl := (List.getElem?_eq_some_iff.1 ho).1
  have e1 := freeH_some h
  rw [hjn] at e1
  have hw := wordsH_set_eq l j o zeroO ho
  have hz : zeroO.ws.length = 0 := rfl
  have hw2 := trimH_words (l.set j zeroO)
  have hl2 := trimH_len (l.set j zeroO)
  rw [List.length_set] at hl2
  have hself : (l.set j zeroO)[j]? = some zeroO := by rw [List.getElem?_set_self hjl]
  have hcheck : checkH (trimH (l.set j zeroO)) = true := by
    obtain ⟨t, t1, t2, t3⟩ := trimH_split (l.set j zeroO)
    refine (checkH_iff _).2 ⟨by omega, by omega, t3, fun x hx hfx => ?_⟩
    have hx2 : x ∈ l.set j zeroO := by rw [t1]; exact List.mem_append_left _ hx
    rcases List.mem_or_eq_of_mem_set hx2 with h3 | rfl
    · exact c4 x h3 hfx
    · rfl
  have hfirst : firstH freeO (trimH (l.set j zeroO)) ≤ j := by
    rcases Nat.lt_or_ge j (trimH (l.set j zeroO)).length with hlt | hge
    · obtain ⟨y, hy⟩ : ∃ y, (trimH (l.set j zeroO))[j]? = some y := ⟨_, List.getElem?_eq_getElem hlt⟩
      have hy2 := trimH_get hy
      rw [hself] at hy2
      injection hy2 with hy2
      subst hy2
      exact firstH_least hy rfl
    · exact Nat.le_trans (firstH_le _ _) hge
  have hput : putEH (trimH (l.set j zeroO)) o = 0 := putEH_ok hcheck (by rw [hf]; decide) (by omega)
  refine ⟨_, e1, hcheck, ?_, hput, getH_of (put_check hput) put_get hf, by omega⟩
  unfold getH
  split
  · rw [hjn]
    cases hy : (trimH (l.set j zeroO))[j]? with
    | none => rfl
    | some y =>
      have hy2 := trimH_get hy
      rw [hself] at hy2
      injection hy2 with hy2
      subst hy2
      rfl
  · rfl
theorem liveFrom_ge : ∀ (l : List Ob) (j : Nat) (x : Int), x ∈ liveFrom j l → (j : Int) + 1 ≤ x ∧ ∃ (k : Nat) (o : Ob), x = (j : Int) + (k : Int) + 1 ∧ l[k]? = some o ∧ freeO o = false
  | [], j, x, h => by cases h
  | o :: l, j, x, h => by
    unfold liveFrom at h
    split at h
    · obtain ⟨h1, k, o', e, h2, h3⟩ := liveFrom_ge l (j + 1) x h
      refine ⟨by omega, k + 1, o', by omega, by simpa using h2, h3⟩
    · rename_i hf
      rcases List.mem_cons.1 h with rfl | h
      · exact ⟨by omega, 0, o, by omega, rfl, by simpa using hf⟩
      · obtain ⟨h1, k, o', e, h2, h3⟩ := liveFrom_ge l (j + 1) x h
        refine ⟨by omega, k + 1, o', by omega, by simpa using h2, h3⟩
theorem live_first : ∀ (l : List Ob) (j : Nat), (∀ q, q < firstH freeO l → (liveFrom j l)[q]? = some ((j : Int) + (q : Int) + 1)) ∧ (liveFrom j l)[firstH freeO l]? ≠ some ((j : Int) + (firstH freeO l : Int) + 1)
  | [], j => ⟨fun q hq => by simp [firstH] at hq, by simp [liveFrom]⟩
  | o :: l, j => by
    obtain ⟨h1, h2⟩ := live_first l (j + 1)
    by_cases hf : freeO o = true
    · have e0 : firstH freeO (o :: l) = 0 := by simp [firstH, List.findIdx_cons, hf]
      rw [e0]
      refine ⟨fun q hq => by omega, fun e => ?_⟩
      simp only [liveFrom, hf, if_true] at e
      have := (liveFrom_ge l (j + 1) _ (List.mem_of_getElem? e)).1
      simp at this
      omega
    · have e0 : firstH freeO (o :: l) = firstH freeO l + 1 := by simp [firstH, List.findIdx_cons, hf]
      rw [e0]
      have e1 : liveFrom j (o :: l) = ((j : Int) + 1) :: liveFrom (j + 1) l := by simp [liveFrom, hf]
      rw [e1]
      refine ⟨fun q hq => ?_, fun e => h2 ?_⟩
      · cases q with
        | zero => simp
        | succ q =>
          rw [List.getElem?_cons_succ, h1 q (by omega)]
          congr 1
          omega
      · rw [List.getElem?_cons_succ] at e
        rw [e]
        congr 1
        omega
theorem live_count : ∀ (l : List Ob) (j : Nat), (liveFrom j l).length = l.countP fun o => !freeO o
  | [], j => by simp [liveFrom]
  | o :: l, j => by
    have := live_count l (j + 1)
    unfold liveFrom
    by_cases hf : freeO o = true <;> simp [hf, this]
theorem put_live {l : List Ob} {x : Ob} (hf : freeO x = false) : (liveH (putLH l x)).length = (liveH l).length + 1 := by
  unfold liveH
  rw [live_count, live_count]
  unfold putLH
  split
  · rename_i h
    have ho : freeO l[firstH freeO l] = true := firstH_at (List.getElem?_eq_getElem h)
    rw [List.countP_set h]
    simp [hf, ho]
  · rw [List.countP_append]
    simp [hf]
end Go.Proofs.Ytnnanlniffjnkaa
