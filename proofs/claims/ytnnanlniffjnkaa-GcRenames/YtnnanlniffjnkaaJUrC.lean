/- Layer 16: what is swept, two ways, as plain values. -/
import Derived.Test.YtnnanlniffjnkaaJUaG

namespace Go.Proofs.Ytnnanlniffjnkaa
open Go.RowKit
set_option linter.unusedVariables false

def deadB (l : List Ob) (q : List Nat) (i : Nat) : Bool := liveN l (i + 1) && decide (i + 1 ∉ q)
/-- The first k have been looked at. -/
def swK (l : List Ob) (q : List Nat) (k : Nat) : List Ob := (List.range l.length).map fun i => if i < k ∧ deadB l q i = true then zeroO else (l[i]?).getD zeroO
def goK (l : List Ob) (q : List Nat) (k : Nat) : Nat := ((List.range k).filter (deadB l q)).length
theorem swK_at (l : List Ob) (q : List Nat) (k i : Nat) : (swK l q k)[i]? = if i < l.length then some (if i < k ∧ deadB l q i = true then zeroO else (l[i]?).getD zeroO) else none := by
  unfold swK
  rw [List.getElem?_map]
  by_cases h : i < l.length
  · rw [List.getElem?_range h, if_pos h]
    rfl
  · rw [List.getElem?_eq_none (by simp; omega), if_neg h]
    rfl
theorem swK_len (l : List Ob) (q : List Nat) (k : Nat) : (swK l q k).length = l.length := by simp [swK]
theorem swK_zero (l : List Ob) (q : List Nat) : swK l q 0 = l := by
  apply List.ext_getElem?
  intro i
  rw [swK_at]
  by_cases h : i < l.length
  · rw [if_pos h, if_neg (by omega), List.getElem?_eq_getElem h]
    rfl
  · rw [if_neg h, List.getElem?_eq_none (by omega)]
theorem swK_same {l : List Ob} {q : List Nat} {k : Nat} (h : deadB l q k = false) : swK l q (k + 1) = swK l q k := by
  apply List.ext_getElem?
  intro i
  rw [swK_at, swK_at]
  by_cases hi : i = k
  · subst hi
    simp [h]
  · have : (i < k + 1) = (i < k) := by simp; omega
    simp only [this]
theorem swK_set {l : List Ob} {q : List Nat} {k : Nat} (h : deadB l q k = true) : swK l q (k + 1) = (swK l q k).set k zeroO := by
  apply List.ext_getElem?
  intro i
  rw [List.getElem?_set, swK_at, swK_at, swK_len]
  by_cases hi : i = k
  · subst hi
    by_cases hl : i < l.length <;> simp [h, hl]
  · have : (i < k + 1) = (i < k) := by simp; omega
    have h2 : ¬ k = i := fun e => hi e.symm
    simp only [this, h2, if_false]
theorem goK_same {l : List Ob} {q : List Nat} {k : Nat} (h : deadB l q k = false) : goK l q (k + 1) = goK l q k := by
  unfold goK
  rw [List.range_succ, List.filter_append]
  simp [h]
theorem goK_more {l : List Ob} {q : List Nat} {k : Nat} (h : deadB l q k = true) : goK l q (k + 1) = goK l q k + 1 := by
  unfold goK
  rw [List.range_succ, List.filter_append]
  simp [h]
theorem goK_le (l : List Ob) (q : List Nat) (k : Nat) : goK l q k ≤ k := by
  unfold goK
  have := List.length_filter_le (deadB l q) (List.range k)
  rwa [List.length_range] at this
theorem maxQ_mem : ∀ {q : List Nat}, q ≠ [] → maxQ q ∈ q := by
  have key : ∀ (q : List Nat) (a : Nat), q.foldl max a = a ∨ q.foldl max a ∈ q := by
    intro q
    induction q with
    | nil => intro a; exact .inl rfl
    | cons x q ih =>
      intro a
      rw [List.foldl_cons]
      rcases ih (max a x) with h | h
      · rw [h]
        by_cases hx : a ≤ x
        · right; rw [Nat.max_eq_right hx]; exact List.mem_cons_self ..
        · left; rw [Nat.max_eq_left (by omega)]
      · exact .inr (List.mem_cons_of_mem _ h)
  intro q hne
  rcases key q 0 with h | h
  · cases q with
    | nil => exact absurd rfl hne
    | cons x q =>
      have : x ≤ maxQ (x :: q) := mem_maxQ (List.mem_cons_self ..)
      have h2 : maxQ (x :: q) = 0 := h
      have h3 : x = 0 := by omega
      rw [h2, h3]
      exact List.mem_cons_self ..
  · exact h
theorem trimH_zeros : ∀ (n : Nat) (l : List Ob), trimH (l ++ List.replicate n zeroO) = trimH l
  | 0, l => by simp
  | n + 1, l => by
    rw [List.replicate_succ', ← List.append_assoc, trimH_append _ _ rfl]
    exact trimH_zeros n l
/-- A free object of a right heap has no words. -/
theorem free_zero {l : List Ob} (h : checkH l = true) {i : Nat} {o : Ob} (hi : l[i]? = some o) (hf : freeO o = true) : o = zeroO := by
  unfold checkH at h
  simp only [Bool.and_eq_true] at h
  have h1 := List.all_eq_true.1 h.2 o (List.mem_of_getElem? hi)
  obtain ⟨ty, ws⟩ := o
  simp only [freeW, freeO] at h1 hf
  have e1 : ty = [] := by simpa using hf
  have e2 : ws = [] := by
    cases ws with
    | nil => rfl
    | cons x ws => rw [hf] at h1; simp at h1
  rw [e1, e2]
  rfl
theorem swK_swept {l : List Ob} {q : List Nat} (h : checkH l = true) (hq : InQ l q) : swK l q l.length = sweptL l q l.length := by
  apply List.ext_getElem?
  intro i
  rw [swK_at]
  unfold sweptL
  rw [List.getElem?_map]
  by_cases hi : i < l.length
  · rw [if_pos hi, List.getElem?_range hi, Option.map_some]
    congr 1
    obtain ⟨o, ho⟩ : ∃ o, l[i]? = some o := ⟨_, List.getElem?_eq_getElem hi⟩
    have e1 : l[i + 1 - 1]? = some o := by simpa using ho
    rw [ho]
    by_cases hm : i + 1 ∈ q
    · rw [if_pos hm, if_neg (fun c => by simp [deadB, hm] at c)]
      unfold tyOf wordsOf
      rw [e1]
      rfl
    · rw [if_neg hm]
      cases hl : liveN l (i + 1) with
      | true => rw [if_pos ⟨hi, by simp [deadB, hl, hm]⟩]
      | false =>
        rw [if_neg (fun c => by simp [deadB, hl] at c)]
        have hf : freeO o = true := by
          unfold liveN at hl
          rw [e1] at hl
          simpa using hl
        rw [free_zero h ho hf]
        rfl
  · rw [if_neg hi, List.getElem?_eq_none (by simp; omega)]
    rfl
theorem swept_more {l : List Ob} {q : List Nat} {n : Nat} (hn : maxQ q ≤ n) : sweptL l q n = sweptL l q (maxQ q) ++ List.replicate (n - maxQ q) zeroO := by
  apply List.ext_getElem?
  intro i
  by_cases h1 : i < maxQ q
  · rw [List.getElem?_append_left (by rw [sweptL_len]; exact h1)]
    unfold sweptL
    rw [List.getElem?_map, List.getElem?_map, List.getElem?_range h1, List.getElem?_range (by omega)]
  · rw [List.getElem?_append_right (by rw [sweptL_len]; omega), sweptL_len, List.getElem?_replicate]
    unfold sweptL
    rw [List.getElem?_map]
    by_cases h2 : i < n
    · rw [List.getElem?_range h2, if_pos (by omega)]
      have : i + 1 ∉ q := fun c => by have := mem_maxQ c; omega
      simp [this]
    · rw [List.getElem?_eq_none (by simp; omega), if_neg (by omega)]
      rfl
theorem swept_ends {l : List Ob} {q : List Nat} (hq : InQ l q) : endsH (sweptL l q (maxQ q)) = false := by
  by_cases hne : q = []
  · subst hne
    rfl
  · have hm := maxQ_mem hne
    obtain ⟨h1, h2, o, ho, hf⟩ := liveN_le (hq.2 _ hm)
    obtain ⟨j, hj⟩ : ∃ j, maxQ q = j + 1 := ⟨maxQ q - 1, by omega⟩
    have hs : sweptL l q (maxQ q) = sweptL l q j ++ [⟨tyOf l (j + 1), wordsOf l (j + 1)⟩] := by
      rw [hj]
      unfold sweptL
      rw [List.range_succ, List.map_append]
      have : j + 1 ∈ q := hj ▸ hm
      simp [this]
    rw [hs]
    unfold endsH
    rw [List.getLast?_append]
    have e1 : tyOf l (j + 1) = o.ty := by
      unfold tyOf
      rw [← hj, ho]
      rfl
    simp [freeO, e1]
    simpa [freeO] using hf
theorem trim_swept {l : List Ob} {roots : List Vl} (h : checkH l = true) : trimH (swK l (reachH l roots) l.length) = sweepL l roots := by
  have hq := reach_in l roots
  have hle : maxQ (reachH l roots) ≤ l.length := maxQ_le (fun n hn => (liveN_le (hq.2 n hn)).2.1)
  rw [swK_swept h hq, swept_more hle, trimH_zeros, trimH_keep (swept_ends hq)]
  rfl
theorem nodup_sub {α : Type} [DecidableEq α] : ∀ {a b : List α}, a.Nodup → (∀ x ∈ a, x ∈ b) → a.length ≤ b.length
  | [], b, _, _ => by simp
  | x :: a, b, hd, h => by
    have hd' := List.nodup_cons.1 hd
    have hx := h x (List.mem_cons_self ..)
    have := nodup_sub (a := a) (b := b.erase x) hd'.2 (fun y hy => (List.mem_erase_of_ne (fun e : y = x => hd'.1 (by rw [← e]; exact hy))).2 (h y (List.mem_cons_of_mem _ hy)))
    rw [List.length_erase_of_mem hx] at this
    have := List.length_pos_of_mem hx
    simp only [List.length_cons]
    omega
theorem live_count16 (l : List Ob) : ∀ k, k ≤ l.length → (liveFrom 0 (l.take k)).length = ((List.range k).filter (fun i => liveN l (i + 1))).length
  | 0, _ => by simp [liveFrom]
  | k + 1, hk => by
    have ih := live_count16 l k (by omega)
    obtain ⟨o, ho⟩ : ∃ o, l[k]? = some o := ⟨_, List.getElem?_eq_getElem (by omega)⟩
    rw [liveFrom_take l 0 k o ho, List.length_append, ih, List.range_succ, List.filter_append, List.length_append]
    congr 1
    have hl : liveN l (k + 1) = !freeO o := by
      unfold liveN
      have e1 : l[k + 1 - 1]? = some o := by simpa using ho
      rw [e1]
      simp
    cases hf : freeO o <;> simp [hl, hf]
theorem gone_is {l : List Ob} {roots : List Vl} : (goK l (reachH l roots) l.length : Int) = goneN l roots := by
  have hq := reach_in l roots
  obtain ⟨q, hqe⟩ : ∃ q, q = reachH l roots := ⟨_, rfl⟩
  rw [← hqe] at hq ⊢
  have h1 : (liveH l).length = ((List.range l.length).filter (fun i => liveN l (i + 1))).length := by
    have := live_count16 l l.length (Nat.le_refl _)
    rw [List.take_of_length_le (Nat.le_refl _)] at this
    exact this
  have h2 : ∀ L : List Nat, (L.filter (fun i => liveN l (i + 1))).length = (L.filter (deadB l q)).length + (L.filter (fun i => liveN l (i + 1) && decide (i + 1 ∈ q))).length := by
    intro L
    induction L with
    | nil => rfl
    | cons x L ih =>
      rw [List.filter_cons, List.filter_cons, List.filter_cons]
      by_cases ha : liveN l (x + 1) = true
      · by_cases hb : x + 1 ∈ q
        · rw [if_pos ha, if_neg (by simp [deadB, hb]), if_pos (by simp [ha, hb])]
          simp only [List.length_cons]
          omega
        · rw [if_pos ha, if_pos (by simp [deadB, ha, hb]), if_neg (by simp [hb])]
          simp only [List.length_cons]
          omega
      · rw [if_neg ha, if_neg (by simp [deadB, ha]), if_neg (by simp [ha])]
        exact ih
  have h3 : ((List.range l.length).filter (fun i => liveN l (i + 1) && decide (i + 1 ∈ q))).length = q.length := by
    have e1 : (q.map (· - 1)).length = q.length := List.length_map ..
    apply Nat.le_antisymm
    · rw [← e1]
      refine nodup_sub (List.nodup_range.filter _) (fun x hx => ?_)
      have := List.mem_filter.1 hx
      have h4 : x + 1 ∈ q := by simpa using (Bool.and_eq_true_iff.1 this.2).2
      exact List.mem_map.2 ⟨x + 1, h4, by omega⟩
    · rw [← e1]
      refine nodup_sub ?_ (fun x hx => ?_)
      · refine List.pairwise_map.2 (List.Pairwise.imp_of_mem ?_ hq.1)
        intro a b ha hb hab
        have := (liveN_le (hq.2 a ha)).1
        have := (liveN_le (hq.2 b hb)).1
        omega
      · obtain ⟨a, ha, rfl⟩ := List.mem_map.1 hx
        obtain ⟨g1, g2, _⟩ := liveN_le (hq.2 a ha)
        have e : a - 1 + 1 = a := by omega
        refine List.mem_filter.2 ⟨List.mem_range.2 (by omega), ?_⟩
        rw [e, hq.2 a ha]
        simpa using ha
  have h4 := h2 (List.range l.length)
  unfold goneN
  rw [← hqe]
  unfold goK
  omega
end Go.Proofs.Ytnnanlniffjnkaa
