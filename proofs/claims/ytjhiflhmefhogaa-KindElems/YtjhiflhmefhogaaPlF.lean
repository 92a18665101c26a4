/- Pools as plain values: Put. -/
import Derived.Test.YtjhiflhmefhogaaPlE
namespace Go.Proofs.Ytjhiflhmefhogaa
open Go.RowKit
set_option linter.unusedVariables false

theorem findE_some {l : List Ent} {x : Ent} (h : findE l x ≠ 0) : 1 ≤ findE l x ∧ findE l x < l.length ∧ l[findE l x]? = some x := by
  obtain ⟨h1, h2, h3, _⟩ := first_some (p := fun i => decide (l[i]? = some x)) (k := findE l x) rfl h
  exact ⟨h1, h2, by simpa using h3⟩
theorem meansE_some {l : List Ent} {c : Cst} (h : meansE l c ≠ 0) : 1 ≤ meansE l c ∧ meansE l c < l.length ∧ meanP l (meansE l c : Int) = c ∧ ∀ j : Nat, 1 ≤ j → j < meansE l c → meanP l (j : Int) ≠ c := by
  obtain ⟨h1, h2, h3, h4⟩ := first_some (p := fun i => decide (meanP l (i : Int) = c)) (k := meansE l c) rfl h
  exact ⟨h1, h2, by simpa using h3, fun j hj hk => by simpa using h4 j hj hk⟩
theorem meansE_none {l : List Ent} {c : Cst} (h : meansE l c = 0) : ∀ j : Nat, 1 ≤ j → j < l.length → meanP l (j : Int) ≠ c := fun j hj hl => by
  simpa using first_none (p := fun i => decide (meanP l (i : Int) = c)) h j hj hl
theorem meansE_eq {l : List Ent} {c : Cst} {k : Nat} (h1 : 1 ≤ k) (h2 : k < l.length) (h3 : meanP l (k : Int) = c) (h4 : ∀ j : Nat, 1 ≤ j → j < k → meanP l (j : Int) ≠ c) : meansE l c = k :=
  first_eq (p := fun i => decide (meanP l (i : Int) = c)) h1 h2 (by simpa using h3) (fun j hj hk => by simpa using h4 j hj hk)

/-- L is l with entries more, whose tags are among these. -/
structure Ext (l L : List Ent) (S : Int → Prop) : Prop where
  ext : ∃ e, L = l ++ e
  right : rightL L
  tags : ∀ j : Nat, l.length ≤ j → j < L.length → S (atE L (j : Int)).tag
theorem Ext.refl {l : List Ent} (h : rightL l) (S : Int → Prop) : Ext l l S := ⟨⟨[], by simp⟩, h, fun j h1 h2 => by omega⟩
theorem Ext.len {l L : List Ent} {S : Int → Prop} (h : Ext l L S) : l.length ≤ L.length := by
  obtain ⟨e, rfl⟩ := h.ext
  simp
theorem Ext.mean {l L : List Ent} {S : Int → Prop} (h : Ext l L S) (hr : rightL l) {j : Nat} (hj : j < l.length) : meanP L (j : Int) = meanP l (j : Int) := by
  obtain ⟨e, rfl⟩ := h.ext
  exact meanP_keep e hr hj
theorem Ext.at {l L : List Ent} {S : Int → Prop} (h : Ext l L S) {i : Int} (hi : (atE l i).tag ≠ 0) : atE L i = atE l i := by
  obtain ⟨e, rfl⟩ := h.ext
  exact atE_keep e hi
theorem Ext.trans {l L M : List Ent} {S : Int → Prop} (h : Ext l L S) (h2 : Ext L M S) : Ext l M S := by
  obtain ⟨e, rfl⟩ := h.ext
  obtain ⟨e2, rfl⟩ := h2.ext
  refine ⟨⟨e ++ e2, by simp⟩, h2.right, fun j h3 h4 => ?_⟩
  by_cases hj : j < (l ++ e).length
  · rw [atE_left e2 hj]
    exact h.tags j h3 hj
  · exact h2.tags j (by omega) h4
theorem Ext.mono {l L : List Ent} {S S' : Int → Prop} (h : Ext l L S) (hs : ∀ t, S t → S' t) : Ext l L S' := ⟨h.ext, h.right, fun j h1 h2 => hs _ (h.tags j h1 h2)⟩

/-- An entry that is added: there, or behind. -/
theorem addE_ext {l : List Ent} {x : Ent} (h : rightL l) (ho : okE l x = true) : Ext l (addE l x).1 (fun t => t = x.tag ∨ t = 0) ∧ 1 ≤ (addE l x).2 ∧ (addE l x).2 < (addE l x).1.length ∧ atE (addE l x).1 ((addE l x).2 : Int) = x := by
  have hl : 1 ≤ l.length := by
    cases l with
    | nil => have := h.1; simp at this
    | cons y s => simp
  unfold addE
  by_cases h0 : findE l x = 0
  · rw [if_pos h0]
    have hw := withE_eq l x
    have hlen := withE_len l x
    refine ⟨⟨⟨_, hw⟩, right_with h ho, fun j h1 h2 => ?_⟩, hl, by show l.length < (withE l x).length; omega, ?_⟩
    · show (atE (withE l x) (j : Int)).tag = x.tag ∨ _
      rw [hw, atE_nat, List.getElem?_append_right h1]
      by_cases h5 : x.tag = 5
      · rw [if_pos h5]
        match j - l.length with
        | 0 => exact .inl rfl
        | 1 => exact .inr rfl
        | k + 2 => exact .inr rfl
      · rw [if_neg h5]
        match j - l.length with
        | 0 => exact .inl rfl
        | k + 1 => exact .inr rfl
    · show atE (withE l x) (l.length : Int) = x
      rw [hw, atE_nat, List.getElem?_append_right (Nat.le_refl _), Nat.sub_self]
      split <;> rfl
  · rw [if_neg h0]
    obtain ⟨h1, h2, h3⟩ := findE_some h0
    refine ⟨Ext.refl h _, h1, h2, ?_⟩
    show atE l (findE l x : Int) = x
    rw [atE_nat, h3]
    rfl
/-- If it is new it stands at the end. -/
theorem addE_new {l : List Ent} {x : Ent} (h : ∀ j : Nat, 1 ≤ j → j < l.length → atE l (j : Int) ≠ x) : addE l x = (withE l x, l.length) := by
  unfold addE
  by_cases h0 : findE l x = 0
  · rw [if_pos h0]
  · obtain ⟨h1, h2, h3⟩ := findE_some h0
    exact absurd (by rw [atE_nat, h3]; rfl) (h _ h1 h2)

theorem okE_utf {l : List Ent} {s : List UInt8} (h : textB s = true) : okE l (eUtf s) = true := by
  unfold okE
  rw [if_pos (by rfl)]
  show (textB s && decide (eUtf s = eUtf s)) = true
  rw [h]
  simp
theorem okE_class {l : List Ent} {a : Int} (h : tagE l a = 1) : okE l ⟨7, [], 0, a, 0⟩ = true := by
  unfold okE
  simp [h]
theorem okE_name {l : List Ent} {a b : Int} (h : tagE l a = 1) (h2 : tagE l b = 1) : okE l ⟨12, [], 0, a, b⟩ = true := by
  unfold okE
  simp [h, h2]
theorem okE_ref {l : List Ent} {t a b : Int} (ht : t = 9 ∨ t = 10) (h : tagE l a = 7) (h2 : tagE l b = 12) : okE l ⟨t, [], 0, a, b⟩ = true := by
  unfold okE
  rcases ht with rfl | rfl <;> simp [h, h2]

/-- A pool with what a constant wants. -/
structure Grown (l : List Ent) (c : Cst) : Prop where
  ext : Ext l (growP l c).1 (fun _ => True)
  pos : 1 ≤ (growP l c).2
  lt : (growP l c).2 < (growP l c).1.length
  mean : meanP (growP l c).1 ((growP l c).2 : Int) = c
  first : meansE l c = 0 → ∀ j : Nat, 1 ≤ j → j < (growP l c).2 → meanP (growP l c).1 (j : Int) ≠ c

theorem grown_num {l : List Ent} {c : Cst} (h : rightL l) (ht : c.tag = 3 ∨ c.tag = 5) (hc : rightC c = true) : Grown l c := by
  have hcc : c = ⟨c.tag, c.n, [], [], []⟩ ∧ okE l ⟨c.tag, [], c.n, 0, 0⟩ = true := by
    unfold rightC at hc
    rcases ht with t | t <;> simp [t] at hc
    · refine ⟨by rw [t]; exact hc.1, ?_⟩
      unfold okE
      simp [t]
      exact hc.2
    · refine ⟨by rw [t]; exact hc, ?_⟩
      unfold okE
      simp [t]
  obtain ⟨e1, e2, e3, e4⟩ := addE_ext h hcc.2
  have hg : growP l c = addE l ⟨c.tag, [], c.n, 0, 0⟩ := by unfold growP; rw [if_pos ht]
  have hm : meanP (addE l ⟨c.tag, [], c.n, 0, 0⟩).1 ((addE l ⟨c.tag, [], c.n, 0, 0⟩).2 : Int) = c := by
    unfold meanP
    rw [e4]
    simp only [ht, if_true]
    exact hcc.1.symm
  refine ⟨by rw [hg]; exact e1.mono (fun _ _ => trivial), by rw [hg]; exact e2, by rw [hg]; exact e3, by rw [hg]; exact hm, fun hn j hj hk => ?_⟩
  have hnew : addE l ⟨c.tag, [], c.n, 0, 0⟩ = (withE l ⟨c.tag, [], c.n, 0, 0⟩, l.length) := addE_new (fun j h1 h2 he => by
    refine meansE_none hn j h1 h2 ?_
    unfold meanP
    rw [he]
    simp only [ht, if_true]
    exact hcc.1.symm)
  rw [hg] at hk ⊢
  rw [hnew] at hk
  rw [e1.mean h (by exact hk)]
  exact meansE_none hn j hj hk
theorem grown_class {l : List Ent} {c : Cst} (h : rightL l) (ht : c.tag = 7) (hc : rightC c = true) : Grown l c := by
  have hcc : c = ⟨7, 0, c.cls, [], []⟩ ∧ textB c.cls = true := by
    unfold rightC at hc
    simp [ht] at hc
    exact hc
  obtain ⟨e1, e2, e3, e4⟩ := addE_ext h (okE_utf (l := l) hcc.2)
  have hg : growP l c = addE (addE l (eUtf c.cls)).1 ⟨7, [], 0, ((addE l (eUtf c.cls)).2 : Int), 0⟩ := by unfold growP; rw [if_neg (by omega), if_pos ht]
  generalize (addE l (eUtf c.cls)).1 = L at *
  generalize (addE l (eUtf c.cls)).2 = k at *
  have hk1 : tagE L (k : Int) = 1 := by unfold tagE; rw [e4]; rfl
  obtain ⟨f1, f2, f3, f4⟩ := addE_ext e1.right (okE_class hk1)
  have hkM := f1.at (i := (k : Int)) (by unfold tagE at hk1; omega)
  have hm : meanP (addE L ⟨7, [], 0, (k : Int), 0⟩).1 ((addE L ⟨7, [], 0, (k : Int), 0⟩).2 : Int) = c := by
    unfold meanP
    rw [f4]
    simp
    rw [hkM, e4]
    exact hcc.1.symm
  have e1' := e1.mono (S' := fun _ => True) (fun _ _ => trivial)
  have f1' := f1.mono (S' := fun _ => True) (fun _ _ => trivial)
  refine ⟨by rw [hg]; exact e1'.trans f1', by rw [hg]; exact f2, by rw [hg]; exact f3, by rw [hg]; exact hm, fun hn j hj hk => ?_⟩
  have hLm : ∀ j : Nat, 1 ≤ j → j < L.length → meanP L (j : Int) ≠ c := fun j h1 h2 he => by
    by_cases hjl : j < l.length
    · rw [e1.mean h hjl] at he
      exact meansE_none hn j h1 hjl he
    · have := e1.tags j (by omega) h2
      have h3 : (meanP L (j : Int)).tag = 7 := by rw [he]; exact ht
      unfold meanP at h3
      rcases this with t | t
      · have t' : (atE L (j : Int)).tag = 1 := t
        simp [t', cst0] at h3
      · simp [t, cst0] at h3
  have hnew : addE L ⟨7, [], 0, (k : Int), 0⟩ = (withE L ⟨7, [], 0, (k : Int), 0⟩, L.length) := addE_new (fun j h1 h2 he => by
    refine hLm j h1 h2 ?_
    unfold meanP
    rw [he]
    simp
    rw [e4]
    exact hcc.1.symm)
  rw [hg] at hk ⊢
  rw [hnew] at hk
  rw [f1.mean e1.right (by exact hk)]
  exact hLm j hj hk

end Go.Proofs.Ytjhiflhmefhogaa
