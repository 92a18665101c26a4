/- Joined: PlE PlZ0 PlX0 PlF. -/
import Derived.Test.YtdcoknnjgpdigaaGreatDoorJP1

/- Pools as plain values: what was put is meant by its number, and what was there stays. -/
namespace Go.Proofs.YtdcoknnjgpdigaaGreatDoor
open Go.RowKit
set_option linter.unusedVariables false

def rightL (l : List Ent) : Prop := l[0]? = some ent0 ∧ goE l (l.drop 1) = true
theorem checkP_right {l : List Ent} : checkP l = true ↔ (1 ≤ l.length ∧ l.length ≤ 1024) ∧ rightL l := checkP_iff
theorem atE_nat (l : List Ent) (i : Nat) : atE l (i : Int) = l[i]?.getD ent0 := by
  unfold atE
  rw [if_pos (by omega), Int.toNat_natCast]
theorem atE_in {l : List Ent} {i : Int} (h : (atE l i).tag ≠ 0) : ∃ j : Nat, i = j ∧ j < l.length ∧ l[j]? = some (atE l i) := by
  obtain ⟨h1, h2⟩ := tagE_in (l := l) (i := i) h
  obtain ⟨j, rfl⟩ : ∃ j : Nat, i = j := ⟨i.toNat, by omega⟩
  have hj : j < l.length := by omega
  refine ⟨j, rfl, hj, ?_⟩
  rw [atE_nat, List.getElem?_eq_getElem hj]
  rfl
theorem atE_left {l : List Ent} (e : List Ent) {j : Nat} (h : j < l.length) : atE (l ++ e) (j : Int) = atE l (j : Int) := by rw [atE_nat, atE_nat, List.getElem?_append_left h]
theorem atE_keep {l : List Ent} (e : List Ent) {i : Int} (h : (atE l i).tag ≠ 0) : atE (l ++ e) i = atE l i := by
  obtain ⟨j, rfl, hj, _⟩ := atE_in h
  exact atE_left e hj
theorem tagE_keep {l : List Ent} (e : List Ent) {i t : Int} (h : tagE l i = t) (h0 : t ≠ 0) : tagE (l ++ e) i = t := by
  unfold tagE at h ⊢
  rw [atE_keep e (by rw [h]; exact h0), h]
theorem okE_keep {l : List Ent} (e : List Ent) {x : Ent} (h : okE l x = true) : okE (l ++ e) x = true := by
  rcases okE_tag h with t | t | t | t | t | t | t <;> unfold okE at h ⊢ <;> simp [t] at h ⊢
  · exact h
  · exact h
  · exact h
  · exact ⟨tagE_keep e h.1 (by decide), h.2⟩
  · exact ⟨⟨tagE_keep e h.1.1 (by decide), tagE_keep e h.1.2 (by decide)⟩, h.2⟩
  · exact ⟨⟨tagE_keep e h.1.1 (by decide), tagE_keep e h.1.2 (by decide)⟩, h.2⟩
  · exact ⟨⟨tagE_keep e h.1.1 (by decide), tagE_keep e h.1.2 (by decide)⟩, h.2⟩
theorem goE_keep {l : List Ent} (e : List Ent) : ∀ s, goE l s = true → goE (l ++ e) s = true
  | [], _ => rfl
  | [x], h => by
    simp only [goE, Bool.and_eq_true, decide_eq_true_eq] at h ⊢
    exact ⟨okE_keep e h.1, h.2⟩
  | x :: z :: s, h => by
    simp only [goE, Bool.and_eq_true] at h ⊢
    refine ⟨okE_keep e h.1, ?_⟩
    have h2 := h.2
    split
    · rename_i h5
      rw [if_pos h5, Bool.and_eq_true] at h2
      rw [Bool.and_eq_true]
      exact ⟨h2.1, goE_keep e s h2.2⟩
    · rename_i h5
      rw [if_neg h5] at h2
      exact goE_keep e (z :: s) h2
theorem goE_mem {l : List Ent} : ∀ s, goE l s = true → ∀ x ∈ s, x.tag ≠ 0 → okE l x = true
  | [], _, x, hx, _ => by simp at hx
  | [y], h, x, hx, _ => by
    simp only [goE, Bool.and_eq_true] at h
    simp at hx
    subst hx
    exact h.1
  | y :: z :: s, h, x, hx, ht => by
    simp only [goE, Bool.and_eq_true] at h
    have h2 := h.2
    rcases List.mem_cons.1 hx with rfl | hx
    · exact h.1
    · split at h2
      · rw [Bool.and_eq_true, decide_eq_true_eq] at h2
        rcases List.mem_cons.1 hx with rfl | hx
        · rw [h2.1] at ht
          exact absurd rfl ht
        · exact goE_mem s h2.2 x hx ht
      · exact goE_mem (z :: s) h2 x hx ht
theorem goE_append {l : List Ent} (t : List Ent) : ∀ s, goE l s = true → goE l t = true → goE l (s ++ t) = true
  | [], _, h => h
  | [x], h, ht => by
    simp only [goE, Bool.and_eq_true, decide_eq_true_eq] at h
    cases t with
    | nil => simp only [List.append_nil, goE, Bool.and_eq_true, decide_eq_true_eq]; exact h
    | cons z t =>
      show goE l (x :: z :: t) = true
      simp only [goE, Bool.and_eq_true]
      refine ⟨h.1, ?_⟩
      rw [if_neg h.2]
      exact ht
  | x :: z :: s, h, ht => by
    simp only [goE, Bool.and_eq_true] at h
    show goE l (x :: z :: (s ++ t)) = true
    simp only [goE, Bool.and_eq_true]
    refine ⟨h.1, ?_⟩
    have h2 := h.2
    split
    · rename_i h5
      rw [if_pos h5, Bool.and_eq_true] at h2
      rw [Bool.and_eq_true]
      exact ⟨h2.1, goE_append t s h2.2 ht⟩
    · rename_i h5
      rw [if_neg h5] at h2
      exact goE_append t (z :: s) h2 ht
theorem right_ok {l : List Ent} (h : rightL l) {i : Int} (ht : (atE l i).tag ≠ 0) : okE l (atE l i) = true := by
  obtain ⟨j, rfl, hj, e⟩ := atE_in ht
  cases j with
  | zero =>
    rw [h.1] at e
    injection e with e
    rw [← e] at ht
    exact absurd rfl ht
  | succ j =>
    refine goE_mem _ h.2 _ ?_ ht
    refine List.mem_of_getElem? (i := j) ?_
    rw [List.getElem?_drop, Nat.add_comm]
    exact e
/-- What an entry means stays. -/
theorem meanP_keep {l : List Ent} (e : List Ent) (h : rightL l) {j : Nat} (hj : j < l.length) : meanP (l ++ e) (j : Int) = meanP l (j : Int) := by
  unfold meanP
  rw [atE_left e hj]
  by_cases h0 : (atE l (j : Int)).tag = 0
  · simp [h0]
  · have ho := right_ok h h0
    generalize atE l (j : Int) = x at *
    rcases okE_tag ho with t | t | t | t | t | t | t <;> simp only [t] <;> unfold okE at ho <;> simp [t] at ho ⊢
    · rw [atE_keep e (by have := ho.1; unfold tagE at this; omega)]
    all_goals
      obtain ⟨⟨h1, h2⟩, _⟩ := ho
      unfold tagE at h1 h2
      have o1 := right_ok h (i := x.a) (by omega)
      have o2 := right_ok h (i := x.b) (by omega)
      rw [atE_keep e (i := x.a) (by omega), atE_keep e (i := x.b) (by omega)]
      unfold okE at o1 o2
      simp [h1] at o1
      simp [h2] at o2
      have q1 := o1.1
      have q2 := o2.1.1
      have q3 := o2.1.2
      unfold tagE at q1 q2 q3
      rw [atE_keep e (by omega), atE_keep e (by omega), atE_keep e (by omega)]
      exact ⟨rfl, rfl, rfl⟩
theorem withE_eq (l : List Ent) (x : Ent) : withE l x = l ++ (if x.tag = 5 then [x, ent0] else [x]) := by
  unfold withE
  split <;> rfl
theorem right_with {l : List Ent} {x : Ent} (h : rightL l) (ho : okE l x = true) : rightL (withE l x) := by
  rw [withE_eq]
  have hl : 1 ≤ l.length := by
    cases l with
    | nil => have := h.1; simp at this
    | cons y s => simp
  refine ⟨?_, ?_⟩
  · rw [List.getElem?_append_left (by omega)]
    exact h.1
  · rw [List.drop_append_of_le_length hl]
    refine goE_append _ _ (goE_keep _ _ h.2) ?_
    have := okE_keep (if x.tag = 5 then [x, ent0] else [x]) ho
    split
    · rename_i h5
      simp only [h5, if_true] at this
      simp [goE, this, h5]
    · rename_i h5
      simp only [h5, if_false] at this
      simp [goE, this, h5]
/-- The first number of which something holds; 0: of none. -/
theorem first_some {n : Nat} {p : Nat → Bool} {k : Nat} (h : ((List.range n).find? fun i => decide (1 ≤ i) && p i).getD 0 = k) (h0 : k ≠ 0) : 1 ≤ k ∧ k < n ∧ p k = true ∧ ∀ j, 1 ≤ j → j < k → p j = false := by
  cases hf : (List.range n).find? fun i => decide (1 ≤ i) && p i with
  | none => rw [hf] at h; exact absurd h.symm h0
  | some q =>
    rw [hf] at h
    have hq : q = k := h
    subst hq
    obtain ⟨h1, xs, ys, h2, h3⟩ := List.find?_eq_some_iff_append.1 hf
    rw [Bool.and_eq_true, decide_eq_true_eq] at h1
    have hm : q ∈ List.range n := by rw [h2]; simp
    refine ⟨h1.1, List.mem_range.1 hm, h1.2, fun j hj hjk => ?_⟩
    have hjas : j ∈ xs := by
      have hjm : j ∈ List.range n := List.mem_range.2 (Nat.lt_trans hjk (List.mem_range.1 hm))
      have hlen : xs.length = q := by
        have e : (List.range n)[xs.length]? = some q := by rw [h2, List.getElem?_append_right (Nat.le_refl _), Nat.sub_self]; rfl
        have hlt := (List.getElem?_eq_some_iff.1 e).1
        rw [List.length_range] at hlt
        rw [List.getElem?_range hlt] at e
        injection e
      have e : (List.range n)[j]? = xs[j]? := by rw [h2, List.getElem?_append_left (by omega)]
      rw [List.getElem?_range (List.mem_range.1 hjm)] at e
      exact List.mem_of_getElem? e.symm
    have := h3 j hjas
    simpa [hj] using this
theorem first_none {n : Nat} {p : Nat → Bool} (h : ((List.range n).find? fun i => decide (1 ≤ i) && p i).getD 0 = 0) : ∀ j, 1 ≤ j → j < n → p j = false := by
  intro j hj hjn
  cases hf : (List.range n).find? fun i => decide (1 ≤ i) && p i with
  | none =>
    have := List.find?_eq_none.1 hf j (List.mem_range.2 hjn)
    simpa [hj] using this
  | some q =>
    rw [hf] at h
    have hq : q = 0 := h
    subst hq
    have := List.find?_some hf
    simp at this
theorem first_eq {n : Nat} {p : Nat → Bool} {k : Nat} (h1 : 1 ≤ k) (h2 : k < n) (h3 : p k = true) (h4 : ∀ j, 1 ≤ j → j < k → p j = false) : ((List.range n).find? fun i => decide (1 ≤ i) && p i).getD 0 = k := by
  obtain ⟨K, hK⟩ : ∃ K, ((List.range n).find? fun i => decide (1 ≤ i) && p i).getD 0 = K := ⟨_, rfl⟩
  rw [hK]
  by_cases h0 : K = 0
  · subst h0
    have := first_none hK k h1 h2
    rw [h3] at this
    cases this
  · obtain ⟨a1, a2, a3, a4⟩ := first_some hK h0
    rcases Nat.lt_trichotomy K k with h | h | h
    · rw [h4 K a1 h] at a3
      cases a3
    · exact h
    · rw [a4 k h1 h] at h3
      cases h3

end Go.Proofs.YtdcoknnjgpdigaaGreatDoor

/- What Put answers. -/
namespace Go.Proofs.YtdcoknnjgpdigaaGreatDoor
open Go.RowKit
set_option linter.unusedVariables false

/-- What Put answers. -/
structure PutE (w : World) (R : List Ent × Int × Int) (e : Ending) (W : World) : Prop where
  ex : ∃ a c, e = .returned (.tuple #[.slice a R.1.length c, .int .i64 R.2.1, .int .i64 R.2.2]) ∧ EArg W a R.1.length c R.1
  bel : Below w.heap.size w W
end Go.Proofs.YtdcoknnjgpdigaaGreatDoor

/- Entries that fit. -/
namespace Go.Proofs.YtdcoknnjgpdigaaGreatDoor
open Go.RowKit
set_option linter.unusedVariables false

def EntsFit7 (l : List Ent) : Prop := (∀ x ∈ l, x.text.length ≤ 140737488355328) ∧ ∀ x ∈ l, EntFit x
theorem fit0 : EntFit ent0 := by
  refine ⟨?_, ?_, ?_, ?_⟩ <;> decide
theorem EntsFit7.more {l : List Ent} {x : Ent} (h : EntsFit7 l) (hx : EntFit x ∧ x.text.length ≤ 1000000) : EntsFit7 (withE l x) := by
  rw [withE_eq]
  refine ⟨fun y hy => ?_, fun y hy => ?_⟩
  · rcases List.mem_append.1 hy with hy | hy
    · exact h.1 y hy
    · split at hy
      · simp at hy
        rcases hy with rfl | rfl
        · omega
        · decide
      · simp at hy
        subst hy
        omega
  · rcases List.mem_append.1 hy with hy | hy
    · exact h.2 y hy
    · split at hy
      · simp at hy
        rcases hy with rfl | rfl
        · exact hx.1
        · exact fit0
      · simp at hy
        subst hy
        exact hx.1

end Go.Proofs.YtdcoknnjgpdigaaGreatDoor

/- Pools as plain values: Put. -/
namespace Go.Proofs.YtdcoknnjgpdigaaGreatDoor
open Go.RowKit
set_option linter.unusedVariables false

theorem findE_some {l : List Ent} {x : Ent} (h : findE l x ≠ 0) : 1 ≤ findE l x ∧ findE l x < l.length ∧ l[findE l x]? = some x := by
  obtain ⟨h1, h2, h3, _⟩ := first_some (p := fun i => decide (l[i]? = some x)) (k := findE l x) rfl h
  exact ⟨h1, h2, by simpa using h3⟩
/-- L is l with entries more, whose tags are among these. -/
structure Ext (l L : List Ent) (S : Int → Prop) : Prop where
  ext : ∃ e, L = l ++ e
  right : rightL L
  tags : ∀ j : Nat, l.length ≤ j → j < L.length → S (atE L (j : Int)).tag
theorem Ext.refl {l : List Ent} (h : rightL l) (S : Int → Prop) : Ext l l S := ⟨⟨[], by simp⟩, h, fun j h1 h2 => by omega⟩
theorem Ext.len {l L : List Ent} {S : Int → Prop} (h : Ext l L S) : l.length ≤ L.length := by
  obtain ⟨e, rfl⟩ := h.ext
  simp
theorem Ext.mean {l L : List Ent} {S : Int → Prop} (h : Ext l L S) (hr : rightL l) {j : Nat} (hj : j < l.length) : meanP L (j : Int) = meanP l (j : Int) := by
  obtain ⟨e, rfl⟩ := h.ext
  exact meanP_keep e hr hj
theorem Ext.at {l L : List Ent} {S : Int → Prop} (h : Ext l L S) {i : Int} (hi : (atE l i).tag ≠ 0) : atE L i = atE l i := by
  obtain ⟨e, rfl⟩ := h.ext
  exact atE_keep e hi
theorem Ext.trans {l L M : List Ent} {S : Int → Prop} (h : Ext l L S) (h2 : Ext L M S) : Ext l M S := by
  obtain ⟨e, rfl⟩ := h.ext
  obtain ⟨e2, rfl⟩ := h2.ext
  refine ⟨⟨e ++ e2, by simp⟩, h2.right, fun j h3 h4 => ?_⟩
  by_cases hj : j < (l ++ e).length
  · rw [atE_left e2 hj]
    exact h.tags j h3 hj
  · exact h2.tags j (by omega) h4
theorem Ext.mono {l L : List Ent} {S S' : Int → Prop} (h : Ext l L S) (hs : ∀ t, S t → S' t) : Ext l L S' := ⟨h.ext, h.right, fun j h1 h2 => hs _ (h.tags j h1 h2)⟩

/-- A pool with what a constant wants. -/
structure Grown (l : List Ent) (c : Cst) : Prop where
  ext : Ext l (growP l c).1 (fun _ => True)
  pos : 1 ≤ (growP l c).2
  lt : (growP l c).2 < (growP l c).1.length
  mean : meanP (growP l c).1 ((growP l c).2 : Int) = c
  first : meansE l c = 0 → ∀ j : Nat, 1 ≤ j → j < (growP l c).2 → meanP (growP l c).1 (j : Int) ≠ c

end Go.Proofs.YtdcoknnjgpdigaaGreatDoor
