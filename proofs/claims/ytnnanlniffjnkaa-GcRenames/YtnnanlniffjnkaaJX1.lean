/- Joined: PlZ0 PlX0 PlF PlG PkA PkA2 PlN PlO PlP. -/
import Derived.Test.YtnnanlniffjnkaaJX0

/- What Put answers. -/
namespace Go.Proofs.Ytnnanlniffjnkaa
open Go.RowKit
set_option linter.unusedVariables false

theorem addE_len (l : List Ent) (x : Ent) : (addE l x).1.length ≤ l.length + 2 := by
  unfold addE
  split
  · show (withE l x).length ≤ _
    rw [withE_eq, List.length_append]
    split <;> simp
  · simp
/-- What Put answers. -/
structure PutE (w : World) (R : List Ent × Int × Int) (e : Ending) (W : World) : Prop where
  ex : ∃ a c, e = .returned (.tuple #[.slice a R.1.length c, .int .i64 R.2.1, .int .i64 R.2.2]) ∧ EArg W a R.1.length c R.1
  bel : Below w.heap.size w W
theorem earg_nil (W : World) : EArg W none 0 0 [] := ⟨⟨rfl, .inl rfl⟩, by omega, by omega, fun _ => ⟨rfl, rfl⟩⟩


end Go.Proofs.Ytnnanlniffjnkaa

/- Entries that fit. -/
namespace Go.Proofs.Ytnnanlniffjnkaa
open Go.RowKit
set_option linter.unusedVariables false

theorem getW_rng {b : List UInt8} {i : Nat} {k : Int} {sg : Bool} : -9223372036854775808 ≤ (getW b i k sg).1 ∧ (getW b i k sg).1 ≤ 9223372036854775807 := by
  unfold getW
  split
  · rename_i hw
    split
    · show (-9223372036854775808 : Int) ≤ 0 ∧ (0 : Int) ≤ _
      omega
    · cases hv : valW ((b.drop i).take k.toNat) sg with
      | none =>
        show (-9223372036854775808 : Int) ≤ 0 ∧ (0 : Int) ≤ _
        omega
      | some n =>
        show (-9223372036854775808 : Int) ≤ n ∧ n ≤ _
        have hlt := numB_lt ((b.drop i).take k.toNat)
        have hl : ((b.drop i).take k.toNat).length ≤ k.toNat := by rw [List.length_take]; omega
        unfold valW at hv
        split at hv
        · rename_i h8
          rw [h8] at hlt
          split at hv
          · injection hv with hv
            split at hv <;> omega
          · split at hv
            · injection hv with hv
              omega
            · cases hv
        · rename_i h8
          have h7 : ((b.drop i).take k.toNat).length ≤ 7 := by
            obtain ⟨m, rfl, hm⟩ := wide_nat hw
            omega
          have hp := Nat.pow_le_pow_right (n := 256) (by omega) h7
          split at hv
          · injection hv with hv
            omega
          · injection hv with hv
            omega
  · show (-9223372036854775808 : Int) ≤ 0 ∧ (0 : Int) ≤ _
    omega
theorem entR_fit {bs : List UInt8} {i : Nat} (hn : bs.length ≤ 1000000) : EntFit (entR bs i).1 ∧ (entR bs i).1.text.length ≤ 1000000 := by
  have r1 := @getW_rng bs i 1 false
  have ht : ∀ (j : Nat) (k : Int), (takeW bs j k).1.length ≤ 1000000 := fun j k => by
    unfold takeW
    split
    · simp
    · split
      · simp
      · simp only [List.length_take, List.length_drop]
        omega
  have z : (-9223372036854775808 : Int) ≤ 0 ∧ (0 : Int) ≤ 9223372036854775807 := by omega
  unfold entR
  simp only
  repeat' split
  all_goals
    refine ⟨⟨?_, ?_, ?_, ?_⟩, ?_⟩
    all_goals first | exact r1 | exact z | exact getW_rng | exact ht _ _ | (simp; done)
theorem entR_le {bs : List UInt8} {i : Nat} (hi : i ≤ bs.length) : (entR bs i).2.2 ≤ bs.length := by
  have g : ∀ {j : Nat} {k : Int} {sg : Bool}, j ≤ bs.length → (getW bs j k sg).2.2 ≤ bs.length := fun h => getW_le h
  unfold entR
  simp only
  repeat' split
  all_goals first | exact g hi | exact g (g hi) | exact takeW_le (g (g hi)) | exact g (g (g hi))

def EntsFit7 (l : List Ent) : Prop := (∀ x ∈ l, x.text.length ≤ 140737488355328) ∧ ∀ x ∈ l, EntFit x
theorem fit0 : EntFit ent0 := by
  refine ⟨?_, ?_, ?_, ?_⟩ <;> decide
theorem EntsFit7.more {l : List Ent} {x : Ent} (h : EntsFit7 l) (hx : EntFit x ∧ x.text.length ≤ 1000000) : EntsFit7 (withE l x) := by
  rw [withE_eq]
  refine ⟨fun y hy => ?_, fun y hy => ?_⟩
  · rcases List.mem_append.1 hy with hy | hy
    · exact h.1 y hy
    · split at hy
      · simp at hy
        rcases hy with rfl | rfl
        · omega
        · decide
      · simp at hy
        subst hy
        omega
  · rcases List.mem_append.1 hy with hy | hy
    · exact h.2 y hy
    · split at hy
      · simp at hy
        rcases hy with rfl | rfl
        · exact hx.1
        · exact fit0
      · simp at hy
        subst hy
        exact hx.1

end Go.Proofs.Ytnnanlniffjnkaa

/- Pools as plain values: Put. -/
namespace Go.Proofs.Ytnnanlniffjnkaa
open Go.RowKit
set_option linter.unusedVariables false

theorem findE_some {l : List Ent} {x : Ent} (h : findE l x ≠ 0) : 1 ≤ findE l x ∧ findE l x < l.length ∧ l[findE l x]? = some x := by
  obtain ⟨h1, h2, h3, _⟩ := first_some (p := fun i => decide (l[i]? = some x)) (k := findE l x) rfl h
  exact ⟨h1, h2, by simpa using h3⟩
theorem meansE_some {l : List Ent} {c : Cst} (h : meansE l c ≠ 0) : 1 ≤ meansE l c ∧ meansE l c < l.length ∧ meanP l (meansE l c : Int) = c ∧ ∀ j : Nat, 1 ≤ j → j < meansE l c → meanP l (j : Int) ≠ c := by
  obtain ⟨h1, h2, h3, h4⟩ := first_some (p := fun i => decide (meanP l (i : Int) = c)) (k := meansE l c) rfl h
  exact ⟨h1, h2, by simpa using h3, fun j hj hk => by simpa using h4 j hj hk⟩
theorem meansE_none {l : List Ent} {c : Cst} (h : meansE l c = 0) : ∀ j : Nat, 1 ≤ j → j < l.length → meanP l (j : Int) ≠ c := fun j hj hl => by
  simpa using first_none (p := fun i => decide (meanP l (i : Int) = c)) h j hj hl
theorem meansE_eq {l : List Ent} {c : Cst} {k : Nat} (h1 : 1 ≤ k) (h2 : k < l.length) (h3 : meanP l (k : Int) = c) (h4 : ∀ j : Nat, 1 ≤ j → j < k → meanP l (j : Int) ≠ c) : meansE l c = k :=
  first_eq (p := fun i => decide (meanP l (i : Int) = c)) h1 h2 (by simpa using h3) (fun j hj hk => by simpa using h4 j hj hk)

/-- L is l with entries more, whose tags are among these. -/
structure Ext (l L : List Ent) (S : Int → Prop) : Prop where
  ext : ∃ e, L = l ++ e
  right : rightL L
  tags : ∀ j : Nat, l.length ≤ j → j < L.length → S (atE L (j : Int)).tag
theorem Ext.refl {l : List Ent} (h : rightL l) (S : Int → Prop) : Ext l l S := ⟨⟨[], by simp⟩, h, fun j h1 h2 => by omega⟩
theorem Ext.len {l L : List Ent} {S : Int → Prop} (h : Ext l L S) : l.length ≤ L.length := by
  obtain ⟨e, rfl⟩ := h.ext
  simp
theorem Ext.mean {l L : List Ent} {S : Int → Prop} (h : Ext l L S) (hr : rightL l) {j : Nat} (hj : j < l.length) : meanP L (j : Int) = meanP l (j : Int) := by
  obtain ⟨e, rfl⟩ := h.ext
  exact meanP_keep e hr hj
theorem Ext.at {l L : List Ent} {S : Int → Prop} (h : Ext l L S) {i : Int} (hi : (atE l i).tag ≠ 0) : atE L i = atE l i := by
  obtain ⟨e, rfl⟩ := h.ext
  exact atE_keep e hi
theorem Ext.trans {l L M : List Ent} {S : Int → Prop} (h : Ext l L S) (h2 : Ext L M S) : Ext l M S := by
  obtain ⟨e, rfl⟩ := h.ext
  obtain ⟨e2, rfl⟩ := h2.ext
  refine ⟨⟨e ++ e2, by simp⟩, h2.right, fun j h3 h4 => ?_⟩
  by_cases hj : j < (l ++ e).length
  · rw [atE_left e2 hj]
    exact h.tags j h3 hj
  · exact h2.tags j (by omega) h4
theorem Ext.mono {l L : List Ent} {S S' : Int → Prop} (h : Ext l L S) (hs : ∀ t, S t → S' t) : Ext l L S' := ⟨h.ext, h.right, fun j h1 h2 => hs _ (h.tags j h1 h2)⟩

/-- An entry that is added: there, or behind. -/
theorem addE_ext {l : List Ent} {x : Ent} (h : rightL l) (ho : okE l x = true) : Ext l (addE l x).1 (fun t => t = x.tag ∨ t = 0) ∧ 1 ≤ (addE l x).2 ∧ (addE l x).2 < (addE l x).1.length ∧ atE (addE l x).1 ((addE l x).2 : Int) = x := by
  have hl : 1 ≤ l.length := by
    cases l with
    | nil => have := h.1; simp at this
    | cons y s => simp
  unfold addE
  by_cases h0 : findE l x = 0
  · rw [if_pos h0]
    have hw := withE_eq l x
    have hlen := withE_len l x
    refine ⟨⟨⟨_, hw⟩, right_with h ho, fun j h1 h2 => ?_⟩, hl, by show l.length < (withE l x).length; omega, ?_⟩
    · show (atE (withE l x) (j : Int)).tag = x.tag ∨ _
      rw [hw, atE_nat, List.getElem?_append_right h1]
      by_cases h5 : x.tag = 5
      · rw [if_pos h5]
        match j - l.length with
        | 0 => exact .inl rfl
        | 1 => exact .inr rfl
        | k + 2 => exact .inr rfl
      · rw [if_neg h5]
        match j - l.length with
        | 0 => exact .inl rfl
        | k + 1 => exact .inr rfl
    · show atE (withE l x) (l.length : Int) = x
      rw [hw, atE_nat, List.getElem?_append_right (Nat.le_refl _), Nat.sub_self]
      split <;> rfl
  · rw [if_neg h0]
    obtain ⟨h1, h2, h3⟩ := findE_some h0
    refine ⟨Ext.refl h _, h1, h2, ?_⟩
    show atE l (findE l x : Int) = x
    rw [atE_nat, h3]
    rfl
/-- If it is new it stands at the end. -/
theorem addE_new {l : List Ent} {x : Ent} (h : ∀ j : Nat, 1 ≤ j → j < l.length → atE l (j : Int) ≠ x) : addE l x = (withE l x, l.length) := by
  unfold addE
  by_cases h0 : findE l x = 0
  · rw [if_pos h0]
  · obtain ⟨h1, h2, h3⟩ := findE_some h0
    exact absurd (by rw [atE_nat, h3]; rfl) (h _ h1 h2)

theorem okE_utf {l : List Ent} {s : List UInt8} (h : textB s = true) : okE l (eUtf s) = true := by
  unfold okE
  rw [if_pos (by rfl)]
  show (textB s && decide (eUtf s = eUtf s)) = true
  rw [h]
  simp
theorem okE_class {l : List Ent} {a : Int} (h : tagE l a = 1) : okE l ⟨7, [], 0, a, 0⟩ = true := by
  unfold okE
  simp [h]
theorem okE_name {l : List Ent} {a b : Int} (h : tagE l a = 1) (h2 : tagE l b = 1) : okE l ⟨12, [], 0, a, b⟩ = true := by
  unfold okE
  simp [h, h2]
theorem okE_ref {l : List Ent} {t a b : Int} (ht : t = 9 ∨ t = 10) (h : tagE l a = 7) (h2 : tagE l b = 12) : okE l ⟨t, [], 0, a, b⟩ = true := by
  unfold okE
  rcases ht with rfl | rfl <;> simp [h, h2]

/-- A pool with what a constant wants. -/
structure Grown (l : List Ent) (c : Cst) : Prop where
  ext : Ext l (growP l c).1 (fun _ => True)
  pos : 1 ≤ (growP l c).2
  lt : (growP l c).2 < (growP l c).1.length
  mean : meanP (growP l c).1 ((growP l c).2 : Int) = c
  first : meansE l c = 0 → ∀ j : Nat, 1 ≤ j → j < (growP l c).2 → meanP (growP l c).1 (j : Int) ≠ c

theorem grown_num {l : List Ent} {c : Cst} (h : rightL l) (ht : c.tag = 3 ∨ c.tag = 5) (hc : rightC c = true) : Grown l c := by
  have hcc : c = ⟨c.tag, c.n, [], [], []⟩ ∧ okE l ⟨c.tag, [], c.n, 0, 0⟩ = true := by
    unfold rightC at hc
    rcases ht with t | t <;> simp [t] at hc
    · refine ⟨by rw [t]; exact hc.1, ?_⟩
      unfold okE
      simp [t]
      exact hc.2
    · refine ⟨by rw [t]; exact hc, ?_⟩
      unfold okE
      simp [t]
  obtain ⟨e1, e2, e3, e4⟩ := addE_ext h hcc.2
  have hg : growP l c = addE l ⟨c.tag, [], c.n, 0, 0⟩ := by unfold growP; rw [if_pos ht]
  have hm : meanP (addE l ⟨c.tag, [], c.n, 0, 0⟩).1 ((addE l ⟨c.tag, [], c.n, 0, 0⟩).2 : Int) = c := by
    unfold meanP
    rw [e4]
    simp only [ht, if_true]
    exact hcc.1.symm
  refine ⟨by rw [hg]; exact e1.mono (fun _ _ => trivial), by rw [hg]; exact e2, by rw [hg]; exact e3, by rw [hg]; exact hm, fun hn j hj hk => ?_⟩
  have hnew : addE l ⟨c.tag, [], c.n, 0, 0⟩ = (withE l ⟨c.tag, [], c.n, 0, 0⟩, l.length) := addE_new (fun j h1 h2 he => by
    refine meansE_none hn j h1 h2 ?_
    unfold meanP
    rw [he]
    simp only [ht, if_true]
    exact hcc.1.symm)
  rw [hg] at hk ⊢
  rw [hnew] at hk
  rw [e1.mean h (by exact hk)]
  exact meansE_none hn j hj hk
theorem grown_class {l : List Ent} {c : Cst} (h : rightL l) (ht : c.tag = 7) (hc : rightC c = true) : Grown l c := by
  have hcc : c = ⟨7, 0, c.cls, [], []⟩ ∧ textB c.cls = true := by
    unfold rightC at hc
    simp [ht] at hc
    exact hc
  obtain ⟨e1, e2, e3, e4⟩ := addE_ext h (okE_utf (l := l) hcc.2)
  have hg : growP l c = addE (addE l (eUtf c.cls)).1 ⟨7, [], 0, ((addE l (eUtf c.cls)).2 : Int), 0⟩ := by unfold growP; rw [if_neg (by omega), if_pos ht]
  generalize (addE l (eUtf c.cls)).1 = L at *
  generalize (addE l (eUtf c.cls)).2 = k at *
  have hk1 : tagE L (k : Int) = 1 := by unfold tagE; rw [e4]; rfl
  obtain ⟨f1, f2, f3, f4⟩ := addE_ext e1.right (okE_class hk1)
  have hkM := f1.at (i := (k : Int)) (by unfold tagE at hk1; omega)
  have hm : meanP (addE L ⟨7, [], 0, (k : Int), 0⟩).1 ((addE L ⟨7, [], 0, (k : Int), 0⟩).2 : Int) = c := by
    unfold meanP
    rw [f4]
    simp
    rw [hkM, e4]
    exact hcc.1.symm
  have e1' := e1.mono (S' := fun _ => True) (fun _ _ => trivial)
  have f1' := f1.mono (S' := fun _ => True) (fun _ _ => trivial)
  refine ⟨by rw [hg]; exact e1'.trans f1', by rw [hg]; exact f2, by rw [hg]; exact f3, by rw [hg]; exact hm, fun hn j hj hk => ?_⟩
  have hLm : ∀ j : Nat, 1 ≤ j → j < L.length → meanP L (j : Int) ≠ c := fun j h1 h2 he => by
    by_cases hjl : j < l.length
    · rw [e1.mean h hjl] at he
      exact meansE_none hn j h1 hjl he
    · have := e1.tags j (by omega) h2
      have h3 : (meanP L (j : Int)).tag = 7 := by rw [he]; exact ht
      unfold meanP at h3
      rcases this with t | t
      · have t' : (atE L (j : Int)).tag = 1 := t
        simp [t', cst0] at h3
      · simp [t, cst0] at h3
  have hnew : addE L ⟨7, [], 0, (k : Int), 0⟩ = (withE L ⟨7, [], 0, (k : Int), 0⟩, L.length) := addE_new (fun j h1 h2 he => by
    refine hLm j h1 h2 ?_
    unfold meanP
    rw [he]
    simp
    rw [e4]
    exact hcc.1.symm)
  rw [hg] at hk ⊢
  rw [hnew] at hk
  rw [f1.mean e1.right (by exact hk)]
  exact hLm j hj hk

end Go.Proofs.Ytnnanlniffjnkaa

/- Pools as plain values: Put of a field or a method; what follows. -/
namespace Go.Proofs.Ytnnanlniffjnkaa
open Go.RowKit
set_option linter.unusedVariables false

theorem grown_ref {l : List Ent} {c : Cst} (h : rightL l) (ht : c.tag = 9 ∨ c.tag = 10) (hc : rightC c = true) : Grown l c := by
  have hcc : c.n = 0 ∧ textB c.cls = true ∧ textB c.name = true ∧ textB c.type = true := by
    unfold rightC at hc
    rcases ht with t | t <;> simp [t] at hc
    · exact ⟨hc.1.1.1, hc.1.1.2, hc.1.2, hc.2⟩
    · exact ⟨hc.1.1.1, hc.1.1.2, hc.1.2, hc.2⟩
  have hg : growP l c = (let t := addE l (eUtf c.cls)
    let k := addE t.1 ⟨7, [], 0, t.2, 0⟩
    let n := addE k.1 (eUtf c.name)
    let y := addE n.1 (eUtf c.type)
    let z := addE y.1 ⟨12, [], 0, n.2, y.2⟩
    addE z.1 ⟨c.tag, [], 0, k.2, z.2⟩) := by unfold growP; rw [if_neg (by omega), if_neg (by omega)]
  simp only at hg
  have S : ∀ {a b : Int}, (a = 1 ∨ a = 7 ∨ a = 12) → b = a ∨ b = 0 → (b = 1 ∨ b = 7 ∨ b = 12 ∨ b = 0) := fun h1 h2 => by omega
  obtain ⟨a1, a2, a3, a4⟩ := addE_ext h (okE_utf (l := l) hcc.2.1)
  have A1 := a1.mono (S' := fun b => b = 1 ∨ b = 7 ∨ b = 12 ∨ b = 0) (fun b hb => S (a := 1) (by omega) hb)
  clear a1
  generalize (addE l (eUtf c.cls)).1 = L1 at *
  generalize (addE l (eUtf c.cls)).2 = k1 at *
  have hk1 : tagE L1 (k1 : Int) = 1 := by unfold tagE; rw [a4]; rfl
  obtain ⟨b1, b2, b3, b4⟩ := addE_ext A1.right (okE_class hk1)
  have B1 := b1.mono (S' := fun b => b = 1 ∨ b = 7 ∨ b = 12 ∨ b = 0) (fun b hb => S (a := 7) (by omega) hb)
  clear b1
  generalize (addE L1 ⟨7, [], 0, (k1 : Int), 0⟩).1 = L2 at *
  generalize (addE L1 ⟨7, [], 0, (k1 : Int), 0⟩).2 = k2 at *
  obtain ⟨c1, c2, c3, c4⟩ := addE_ext B1.right (okE_utf (l := L2) hcc.2.2.1)
  have C1 := c1.mono (S' := fun b => b = 1 ∨ b = 7 ∨ b = 12 ∨ b = 0) (fun b hb => S (a := 1) (by omega) hb)
  clear c1
  generalize (addE L2 (eUtf c.name)).1 = L3 at *
  generalize (addE L2 (eUtf c.name)).2 = k3 at *
  obtain ⟨d1, d2, d3, d4⟩ := addE_ext C1.right (okE_utf (l := L3) hcc.2.2.2)
  have D1 := d1.mono (S' := fun b => b = 1 ∨ b = 7 ∨ b = 12 ∨ b = 0) (fun b hb => S (a := 1) (by omega) hb)
  clear d1
  generalize (addE L3 (eUtf c.type)).1 = L4 at *
  generalize (addE L3 (eUtf c.type)).2 = k4 at *
  have n3 := D1.at (i := (k3 : Int)) (by rw [c4]; simp [eUtf])
  rw [c4] at n3
  have hk3 : tagE L4 (k3 : Int) = 1 := by unfold tagE; rw [n3]; rfl
  have hk4 : tagE L4 (k4 : Int) = 1 := by unfold tagE; rw [d4]; rfl
  obtain ⟨g1, g2, g3, g4⟩ := addE_ext D1.right (okE_name hk3 hk4)
  have G1 := g1.mono (S' := fun b => b = 1 ∨ b = 7 ∨ b = 12 ∨ b = 0) (fun b hb => S (a := 12) (by omega) hb)
  clear g1
  generalize (addE L4 ⟨12, [], 0, (k3 : Int), (k4 : Int)⟩).1 = L5 at *
  generalize (addE L4 ⟨12, [], 0, (k3 : Int), (k4 : Int)⟩).2 = k5 at *
  -- what stands in the last
  have E25 := (C1.trans D1).trans G1
  have E15 := B1.trans E25
  have p2 := E25.at (i := (k2 : Int)) (by rw [b4]; simp)
  rw [b4] at p2
  have p1 := E15.at (i := (k1 : Int)) (by rw [a4]; simp [eUtf])
  rw [a4] at p1
  have p3 := G1.at (i := (k3 : Int)) (by rw [n3]; simp [eUtf])
  rw [n3] at p3
  have p4 := G1.at (i := (k4 : Int)) (by rw [d4]; simp [eUtf])
  rw [d4] at p4
  have hk2 : tagE L5 (k2 : Int) = 7 := by unfold tagE; rw [p2]
  have hk5 : tagE L5 (k5 : Int) = 12 := by unfold tagE; rw [g4]
  obtain ⟨q1, q2, q3, q4⟩ := addE_ext G1.right (okE_ref ht hk2 hk5)
  have E05 := A1.trans E15
  have mref : ∀ {X : List Ent} {i : Int}, atE X i = ⟨c.tag, [], 0, (k2 : Int), (k5 : Int)⟩ → atE X (k2 : Int) = ⟨7, [], 0, (k1 : Int), 0⟩ → atE X (k1 : Int) = eUtf c.cls → atE X (k5 : Int) = ⟨12, [], 0, (k3 : Int), (k4 : Int)⟩ → atE X (k3 : Int) = eUtf c.name → atE X (k4 : Int) = eUtf c.type → meanP X i = c := fun {X i} x1 x2 x3 x4 x5 x6 => by
    unfold meanP
    rw [x1]
    simp only
    rw [if_neg (by omega), if_neg (by omega), if_pos ht, x2, x3, x4]
    simp only
    rw [x5, x6]
    apply (Cst.eq_iff _ _).1
    exact ⟨rfl, hcc.1.symm, rfl, rfl, rfl⟩
  have hm : meanP (addE L5 ⟨c.tag, [], 0, (k2 : Int), (k5 : Int)⟩).1 ((addE L5 ⟨c.tag, [], 0, (k2 : Int), (k5 : Int)⟩).2 : Int) = c := mref q4 ((q1.at (by rw [p2]; simp)).trans p2) ((q1.at (by rw [p1]; simp [eUtf])).trans p1) ((q1.at (by rw [g4]; simp)).trans g4) ((q1.at (by rw [p3]; simp [eUtf])).trans p3) ((q1.at (by rw [p4]; simp [eUtf])).trans p4)
  have F1 := E05.mono (S' := fun _ => True) (fun _ _ => trivial)
  have F2 := q1.mono (S' := fun _ => True) (fun _ _ => trivial)
  refine ⟨by rw [hg]; exact F1.trans F2, by rw [hg]; exact q2, by rw [hg]; exact q3, by rw [hg]; exact hm, fun hn j hj hk => ?_⟩
  have hLm : ∀ j : Nat, 1 ≤ j → j < L5.length → meanP L5 (j : Int) ≠ c := fun j h1 h2 he => by
    by_cases hjl : j < l.length
    · rw [E05.mean h hjl] at he
      exact meansE_none hn j h1 hjl he
    · have t := E05.tags j (by omega) h2
      have h3 : (meanP L5 (j : Int)).tag = c.tag := by rw [he]
      unfold meanP at h3
      rcases t with t | t | t | t <;> simp [t, cst0] at h3 <;> omega
  have hnew : addE L5 ⟨c.tag, [], 0, (k2 : Int), (k5 : Int)⟩ = (withE L5 ⟨c.tag, [], 0, (k2 : Int), (k5 : Int)⟩, L5.length) := addE_new (fun j h1 h2 he => hLm j h1 h2 (mref he p2 p1 g4 p3 p4))
  rw [hg] at hk ⊢
  rw [hnew] at hk
  rw [q1.mean G1.right (by exact hk)]
  exact hLm j hj hk

theorem grown_any {l : List Ent} {c : Cst} (h : rightL l) (hc : rightC c = true) : Grown l c := by
  have ht : c.tag = 3 ∨ c.tag = 5 ∨ c.tag = 7 ∨ c.tag = 9 ∨ c.tag = 10 := by
    unfold rightC at hc
    repeat (split at hc; omega)
    cases hc
  by_cases h1 : c.tag = 3 ∨ c.tag = 5
  · exact grown_num h h1 hc
  · by_cases h2 : c.tag = 7
    · exact grown_class h h2 hc
    · exact grown_ref h (by omega) hc
theorem rightC_tag {c : Cst} (h : rightC c = true) : c.tag ≠ 0 := by
  intro e
  unfold rightC at h
  simp [e] at h

/-- What Put answers where it does: a pool that begins with what was there; its number means it, and is the first that does. -/
structure PutFine (l L : List Ent) (c : Cst) (k : Nat) : Prop where
  ext : ∃ e, L = l ++ e
  right : checkP L = true
  pos : 1 ≤ k
  lt : k < L.length
  mean : meanP L (k : Int) = c
  first : meansE L c = k
theorem putP_fine {l : List Ent} {c : Cst} (h : (putP l c).2.2 = 0) : ∃ k : Nat, (putP l c).2.1 = k ∧ PutFine l (putP l c).1 c k ∧ checkP l = true ∧ rightC c = true := by
  unfold putP at h ⊢
  by_cases h1 : checkP l = false
  · rw [if_pos h1] at h
    exact absurd h (by decide)
  · have h1' : checkP l = true := by cases hc : checkP l <;> simp_all
    have hr := (checkP_right.1 h1').2
    have hlen := (checkP_right.1 h1').1
    rw [if_neg h1] at h ⊢
    by_cases h2 : rightC c = false
    · rw [if_pos h2] at h
      exact absurd h (by decide)
    · have h2' : rightC c = true := by cases hc : rightC c <;> simp_all
      rw [if_neg h2] at h ⊢
      by_cases h3 : meansE l c = 0
      · rw [if_neg (by simp [h3])] at h ⊢
        have g := grown_any hr h2'
        by_cases h4 : 1024 < (growP l c).1.length
        · rw [if_pos h4] at h
          exact absurd h (by decide)
        · rw [if_neg h4]
          have gl := g.ext.len
          refine ⟨(growP l c).2, rfl, ⟨g.ext.ext, checkP_right.2 ⟨⟨by show 1 ≤ (growP l c).1.length; omega, by show (growP l c).1.length ≤ 1024; omega⟩, g.ext.right⟩, g.pos, g.lt, g.mean, meansE_eq g.pos g.lt g.mean (g.first h3)⟩, h1', h2'⟩
      · rw [if_pos h3]
        obtain ⟨m1, m2, m3, m4⟩ := meansE_some h3
        exact ⟨meansE l c, rfl, ⟨⟨[], by simp⟩, h1', m1, m2, m3, rfl⟩, h1', h2'⟩
/-- What was put stays, and put again it is where it was. -/
theorem putP_stays {a b : List Ent} {c : Cst} {n : Nat} (hn : 1 ≤ n) (hl : n < a.length) (hm : meanP a (n : Int) = c) (hf : meansE a c = n) (ha : checkP a = true) (hb : ∃ e, b = a ++ e) (hcb : checkP b = true) (hc : rightC c = true) :
    constP b (n : Int) = (c, 0) ∧ putP b c = (b, (n : Int), 0) := by
  obtain ⟨e, rfl⟩ := hb
  have hr := (checkP_right.1 ha).2
  have hmb : meanP (a ++ e) (n : Int) = c := by rw [meanP_keep e hr hl]; exact hm
  have hfb : meansE (a ++ e) c = n := by
    obtain ⟨_, _, _, h4⟩ := meansE_some (l := a) (c := c) (by omega)
    rw [hf] at h4
    exact meansE_eq hn (by simp; omega) hmb (fun j h1 h2 => by rw [meanP_keep e hr (by omega)]; exact h4 j h1 h2)
  refine ⟨?_, ?_⟩
  · unfold constP
    rw [if_neg (by rw [hcb]; simp), hmb, if_neg (rightC_tag hc)]
  · unfold putP
    rw [if_neg (by rw [hcb]; simp), if_neg (by rw [hc]; simp), hfb, if_pos (by omega)]

end Go.Proofs.Ytnnanlniffjnkaa

/- The landed pool as plain values: entries right one by one; what an entry means, a name too; how Put grows a pool. -/
namespace Go.Proofs.Ytnnanlniffjnkaa
open Go.RowKit
set_option linter.unusedVariables false

def gapE (l : List Ent) (i : Nat) : Bool := decide (i = 0) || decide ((atE l ((i : Int) - 1)).tag = 5)
def rightAt (l : List Ent) (i : Nat) : Bool :=
  if gapE l i = true then decide (atE l (i : Int) = ent0) else okE l (atE l (i : Int)) && (decide ((atE l (i : Int)).tag ≠ 5) || decide (i + 1 < l.length))
theorem gapE_succ (l : List Ent) (i : Nat) : gapE l (i + 1) = decide ((atE l (i : Int)).tag = 5) := by
  unfold gapE
  rw [show ((i + 1 : Nat) : Int) - 1 = (i : Int) by omega]
  simp
theorem drop_atE {l : List Ent} {k : Nat} (h : k < l.length) : l.drop k = atE l (k : Int) :: l.drop (k + 1) := by
  rw [atE_nat, List.getElem?_eq_getElem h]
  exact List.drop_eq_getElem_cons h
theorem right_fwd {l : List Ent} (h : ∀ i, i < l.length → rightAt l i = true) : ∀ m k, l.length - k ≤ m → gapE l k = false → goE l (l.drop k) = true := by
  intro m
  induction m using Nat.strongRecOn with
  | _ m ih =>
    intro k hm hg
    by_cases hk : k < l.length
    · have h1 := h k hk
      unfold rightAt at h1
      rw [if_neg (by rw [hg]; simp), Bool.and_eq_true] at h1
      rw [drop_atE hk]
      by_cases hk2 : k + 1 < l.length
      · rw [drop_atE hk2]
        by_cases h5 : (atE l (k : Int)).tag = 5
        · have g1 : gapE l (k + 1) = true := by rw [gapE_succ]; simpa using h5
          have h2 := h (k + 1) hk2
          unfold rightAt at h2
          rw [if_pos g1, decide_eq_true_eq] at h2
          have g2 : gapE l (k + 1 + 1) = false := by
            rw [gapE_succ, h2]
            rfl
          have := ih (l.length - (k + 1 + 1)) (by omega) (k + 1 + 1) (Nat.le_refl _) g2
          simp only [goE, h1.1, h5, if_true, h2, this]
          simp
        · have g1 : gapE l (k + 1) = false := by rw [gapE_succ]; simpa using h5
          have := ih (l.length - (k + 1)) (by omega) (k + 1) (Nat.le_refl _) g1
          rw [drop_atE hk2] at this
          simp only [goE, h1.1, if_neg h5, this]
          simp
      · rw [List.drop_of_length_le (by omega)]
        have := h1.2
        simp only [goE, h1.1]
        simpa [hk2] using this
    · rw [List.drop_of_length_le (by omega)]
      rfl
theorem right_bwd {l : List Ent} : ∀ m k, l.length - k ≤ m → gapE l k = false → goE l (l.drop k) = true → ∀ i, k ≤ i → i < l.length → rightAt l i = true := by
  intro m
  induction m using Nat.strongRecOn with
  | _ m ih =>
    intro k hm hg hgo i hki hi
    have hk : k < l.length := by omega
    rw [drop_atE hk] at hgo
    by_cases hk2 : k + 1 < l.length
    · rw [drop_atE hk2] at hgo
      simp only [goE, Bool.and_eq_true] at hgo
      obtain ⟨ho, hgo⟩ := hgo
      have hr : rightAt l k = true := by
        unfold rightAt
        rw [if_neg (by rw [hg]; simp), ho]
        simp [hk2]
      by_cases h5 : (atE l (k : Int)).tag = 5
      · rw [if_pos h5, Bool.and_eq_true, decide_eq_true_eq] at hgo
        have g1 : gapE l (k + 1) = true := by rw [gapE_succ]; simpa using h5
        have g2 : gapE l (k + 1 + 1) = false := by rw [gapE_succ, hgo.1]; rfl
        by_cases e1 : i = k
        · subst e1; exact hr
        by_cases e2 : i = k + 1
        · subst e2
          unfold rightAt
          rw [if_pos g1, decide_eq_true_eq]
          exact hgo.1
        exact ih (l.length - (k + 1 + 1)) (by omega) (k + 1 + 1) (Nat.le_refl _) g2 hgo.2 i (by omega) hi
      · rw [if_neg h5, ← drop_atE hk2] at hgo
        have g1 : gapE l (k + 1) = false := by rw [gapE_succ]; simpa using h5
        by_cases e1 : i = k
        · subst e1; exact hr
        exact ih (l.length - (k + 1)) (by omega) (k + 1) (Nat.le_refl _) g1 hgo i (by omega) hi
    · rw [List.drop_of_length_le (l := l) (i := k + 1) (by omega)] at hgo
      simp only [goE, Bool.and_eq_true, decide_eq_true_eq] at hgo
      have e1 : i = k := by omega
      subst e1
      unfold rightAt
      rw [if_neg (by rw [hg]; simp), hgo.1]
      simp [hgo.2]
theorem right_all {l : List Ent} (hl : 1 ≤ l.length) : (∀ i, i < l.length → rightAt l i = true) ↔ rightL l := by
  have h00 : atE l ((0 : Nat) : Int) = l[0]?.getD ent0 := atE_nat l 0
  constructor
  · intro h
    have h0 := h 0 (by omega)
    unfold rightAt at h0
    rw [if_pos (by rfl), decide_eq_true_eq] at h0
    have hg : gapE l 1 = false := by rw [gapE_succ, h0]; rfl
    refine ⟨?_, right_fwd h _ 1 (Nat.le_refl _) hg⟩
    rw [List.getElem?_eq_getElem (by omega)] at h00 ⊢
    rw [h00] at h0
    exact congrArg some h0
  · rintro ⟨h0, hgo⟩ i hi
    have h0' : atE l ((0 : Nat) : Int) = ent0 := by rw [h00, h0]; rfl
    have hg : gapE l 1 = false := by rw [gapE_succ, h0']; rfl
    by_cases e : i = 0
    · subst e
      unfold rightAt
      rw [if_pos (by rfl), decide_eq_true_eq]
      exact h0'
    · exact right_bwd _ 1 (Nat.le_refl _) hg hgo i (by omega) hi
theorem checkP_all (l : List Ent) : checkP l = true ↔ (1 ≤ l.length ∧ l.length ≤ 1024) ∧ ∀ i, i < l.length → rightAt l i = true := by
  rw [checkP_right]
  constructor
  · rintro ⟨h1, h2⟩
    exact ⟨h1, (right_all h1.1).2 h2⟩
  · rintro ⟨h1, h2⟩
    exact ⟨h1, (right_all h1.1).1 h2⟩

/-- What an entry has of all that it may have. -/
def justE (x : Ent) : Ent :=
  if x.tag = 1 then ⟨1, x.text, 0, 0, 0⟩
  else if x.tag = 3 ∨ x.tag = 5 then ⟨x.tag, [], x.n, 0, 0⟩
  else if x.tag = 9 ∨ x.tag = 10 ∨ x.tag = 12 then ⟨x.tag, [], 0, x.a, x.b⟩
  else if x.tag = 7 then ⟨7, [], 0, x.a, 0⟩
  else ent0
def leadsE (l : List Ent) (x : Ent) : Bool :=
  if x.tag = 9 ∨ x.tag = 10 then decide (tagE l x.a = 7) && decide (tagE l x.b = 12)
  else if x.tag = 12 then decide (tagE l x.b = 1) && decide (tagE l x.a = 1)
  else if x.tag = 7 then decide (tagE l x.a = 1)
  else true
def fitsE (t n : Int) : Bool := decide (t ≠ 3) || decide (-2147483648 ≤ n ∧ n ≤ 2147483647)
theorem okE_code (l : List Ent) (x : Ent) : okE l x = (decide (x.tag ≠ 0) && decide (x = justE x) && textB x.text && leadsE l x && fitsE x.tag x.n) := by
  obtain ⟨t, s, n, a, b⟩ := x
  have hnil : textB [] = true := by decide
  unfold okE justE leadsE fitsE eUtf
  simp only
  by_cases h1 : t = 1
  · subst h1
    simp
    rw [Bool.and_comm]
  by_cases h3 : t = 3
  · subst h3
    simp
    by_cases hs : s = []
    · subst hs
      rw [hnil]
      simp
      rw [Bool.and_comm]
    · simp [hs]
  by_cases h5 : t = 5
  · subst h5
    simp
    by_cases hs : s = []
    · subst hs; rw [hnil]; simp
    · simp [hs]
  by_cases h7 : t = 7
  · subst h7
    simp
    by_cases hs : s = []
    · subst hs; rw [hnil]; simp; rw [Bool.and_comm]
    · simp [hs]
  by_cases h12 : t = 12
  · subst h12
    simp
    by_cases hs : s = []
    · subst hs
      rw [hnil]
      simp
      rw [Bool.and_comm]
      congr 1
      rw [Bool.and_comm]
    · simp [hs]
  by_cases h9 : t = 9 ∨ t = 10
  · rcases h9 with rfl | rfl
    · simp
      by_cases hs : s = []
      · subst hs; rw [hnil]; simp; rw [Bool.and_comm]
      · simp [hs]
    · simp
      by_cases hs : s = []
      · subst hs; rw [hnil]; simp; rw [Bool.and_comm]
      · simp [hs]
  · have h9' : t ≠ 9 := fun e => h9 (.inl e)
    have h10 : t ≠ 10 := fun e => h9 (.inr e)
    simp [h1, h3, h5, h7, h12, h9', h10]
    intro h0
    exact fun e => absurd (congrArg Ent.tag e) h0

/-- What an entry means; of a name its two texts. -/
def meanN (l : List Ent) (x : Ent) : Cst :=
  if x.tag = 3 ∨ x.tag = 5 then ⟨x.tag, x.n, [], [], []⟩
  else if x.tag = 7 then ⟨7, 0, (atE l x.a).text, [], []⟩
  else if x.tag = 9 ∨ x.tag = 10 then ⟨x.tag, 0, (atE l (atE l x.a).a).text, (atE l (atE l x.b).a).text, (atE l (atE l x.b).b).text⟩
  else if x.tag = 12 then ⟨12, 0, [], (atE l x.a).text, (atE l x.b).text⟩
  else ⟨x.tag, 0, [], [], []⟩
theorem meanN_tag (l : List Ent) (x : Ent) : (meanN l x).tag = x.tag := by
  unfold meanN
  repeat' split
  all_goals first | rfl | (simp_all; done) | (rename_i h; simp [h])
theorem meanN_keep {l : List Ent} (e : List Ent) (h : rightL l) {x : Ent} (hx : x.tag = 0 ∨ okE l x = true) : meanN (l ++ e) x = meanN l x := by
  unfold meanN
  rcases hx with t | ho
  · simp [t]
  · rcases okE_tag ho with t | t | t | t | t | t | t <;> simp only [t] <;> unfold okE at ho <;> simp [t] at ho ⊢
    · rw [atE_keep e (by have := ho.1; unfold tagE at this; omega)]
    · obtain ⟨⟨h1, h2⟩, _⟩ := ho
      unfold tagE at h1 h2
      rw [atE_keep e (i := x.a) (by omega), atE_keep e (i := x.b) (by omega)]
      exact ⟨rfl, rfl⟩
    all_goals
      obtain ⟨⟨h1, h2⟩, _⟩ := ho
      unfold tagE at h1 h2
      have o1 := right_ok h (i := x.a) (by omega)
      have o2 := right_ok h (i := x.b) (by omega)
      rw [atE_keep e (i := x.a) (by omega), atE_keep e (i := x.b) (by omega)]
      unfold okE at o1 o2
      simp [h1] at o1
      simp [h2] at o2
      have q1 := o1.1
      have q2 := o2.1.1
      have q3 := o2.1.2
      unfold tagE at q1 q2 q3
      rw [atE_keep e (by omega), atE_keep e (by omega), atE_keep e (by omega)]
      exact ⟨rfl, rfl, rfl⟩
theorem right_or {l : List Ent} (h : rightL l) (i : Int) : (atE l i).tag = 0 ∨ okE l (atE l i) = true := by
  by_cases h0 : (atE l i).tag = 0
  · exact .inl h0
  · exact .inr (right_ok h h0)
theorem meanP_N {l : List Ent} {i : Int} {c : Cst} (ht : c.tag = 3 ∨ c.tag = 5 ∨ c.tag = 7 ∨ c.tag = 9 ∨ c.tag = 10) : meanP l i = c ↔ meanN l (atE l i) = c := by
  have hN := meanN_tag l (atE l i)
  by_cases hx : (atE l i).tag = 3 ∨ (atE l i).tag = 5 ∨ (atE l i).tag = 7 ∨ (atE l i).tag = 9 ∨ (atE l i).tag = 10
  · have : meanP l i = meanN l (atE l i) := by
      unfold meanP meanN
      rcases hx with t | t | t | t | t <;> simp [t]
    rw [this]
  · have : meanP l i = cst0 := by
      unfold meanP
      simp only
      rw [if_neg (by omega), if_neg (by omega), if_neg (by omega)]
    rw [this]
    constructor
    · intro e
      rw [← e] at ht
      simp [cst0] at ht
    · intro e
      rw [e] at hN
      omega

/-- The first number that means it; 0: none does. -/
def firstN (l : List Ent) (c : Cst) : Nat := ((List.range l.length).find? fun (i : Nat) => decide (1 ≤ i) && decide (meanN l (atE l (i : Int)) = c)).getD 0
theorem firstN_some {l : List Ent} {c : Cst} (h : firstN l c ≠ 0) : 1 ≤ firstN l c ∧ firstN l c < l.length ∧ meanN l (atE l (firstN l c : Int)) = c := by
  obtain ⟨h1, h2, h3, h4⟩ := first_some (p := fun i => decide (meanN l (atE l (i : Int)) = c)) (k := firstN l c) rfl h
  exact ⟨h1, h2, by simpa using h3⟩
theorem firstN_none {l : List Ent} {c : Cst} (h : firstN l c = 0) : ∀ j : Nat, 1 ≤ j → j < l.length → meanN l (atE l (j : Int)) ≠ c := fun j hj hl => by
  simpa using first_none (p := fun i => decide (meanN l (atE l (i : Int)) = c)) h j hj hl
theorem firstN_eq {l : List Ent} {c : Cst} {k : Nat} (h1 : 1 ≤ k) (h2 : k < l.length) (h3 : meanN l (atE l (k : Int)) = c) (h4 : ∀ j : Nat, 1 ≤ j → j < k → meanN l (atE l (j : Int)) ≠ c) : firstN l c = k :=
  first_eq (p := fun i => decide (meanN l (atE l (i : Int)) = c)) h1 h2 (by simpa using h3) (fun j hj hk => by simpa using h4 j hj hk)
theorem firstN_means {l : List Ent} {c : Cst} (ht : c.tag = 3 ∨ c.tag = 5 ∨ c.tag = 7 ∨ c.tag = 9 ∨ c.tag = 10) : firstN l c = meansE l c := by
  unfold firstN meansE
  congr 2
  funext i
  congr 1
  exact decide_eq_decide.2 (meanP_N ht).symm

def cCls (s : List UInt8) : Cst := ⟨7, 0, s, [], []⟩
def cNam (s t : List UInt8) : Cst := ⟨12, 0, [], s, t⟩
/-- A class, a name, a number: there, or behind. -/
def clsK (l : List Ent) (s : List UInt8) : List Ent × Nat :=
  if firstN l (cCls s) = 0 then (withE (addE l (eUtf s)).1 ⟨7, [], 0, ((addE l (eUtf s)).2 : Int), 0⟩, (addE l (eUtf s)).1.length) else (l, firstN l (cCls s))
def namK (l : List Ent) (s t : List UInt8) : List Ent × Nat :=
  if firstN l (cNam s t) = 0 then (withE (addE (addE l (eUtf s)).1 (eUtf t)).1 ⟨12, [], 0, ((addE l (eUtf s)).2 : Int), ((addE (addE l (eUtf s)).1 (eUtf t)).2 : Int)⟩, (addE (addE l (eUtf s)).1 (eUtf t)).1.length) else (l, firstN l (cNam s t))
def refK (l : List Ent) (c : Cst) : List Ent × Nat :=
  (withE (namK (clsK l c.cls).1 c.name c.type).1 ⟨c.tag, [], 0, ((clsK l c.cls).2 : Int), ((namK (clsK l c.cls).1 c.name c.type).2 : Int)⟩, (namK (clsK l c.cls).1 c.name c.type).1.length)
def numK (l : List Ent) (c : Cst) : List Ent × Nat :=
  if firstN l c ≠ 0 then (l, firstN l c)
  else if c.tag = 3 ∨ c.tag = 5 then (withE l ⟨c.tag, [], c.n, 0, 0⟩, l.length)
  else if c.tag = 7 then clsK l c.cls
  else refK l c
def putK (l : List Ent) (c : Cst) : List Ent × Int × Int :=
  if checkP l = false then ([], 0, 70)
  else if rightC c = false then ([], 0, 2)
  else if 1024 < (numK l c).1.length then ([], 0, 3)
  else ((numK l c).1, ((numK l c).2 : Int), 0)

/-- What comes of growing: the number means it. -/
structure GN (l L : List Ent) (k : Nat) (c : Cst) (S : Int → Prop) : Prop where
  ext : Ext l L S
  pos : 1 ≤ k
  lt : k < L.length
  mean : meanN L (atE L (k : Int)) = c
theorem right_len {l : List Ent} (h : rightL l) : 1 ≤ l.length := by
  cases l with
  | nil => have := h.1; simp at this
  | cons y s => simp
theorem Ext.meanN {l L : List Ent} {S : Int → Prop} (h : Ext l L S) (hr : rightL l) {j : Nat} (hj : j < l.length) : meanN L (atE L (j : Int)) = meanN l (atE l (j : Int)) := by
  obtain ⟨e, rfl⟩ := h.ext
  rw [atE_left e hj]
  exact meanN_keep e hr (right_or hr _)
theorem withE_ext {L : List Ent} {x : Ent} (h : rightL L) (ho : okE L x = true) : Ext L (withE L x) (fun t => t = x.tag ∨ t = 0) ∧ L.length < (withE L x).length ∧ atE (withE L x) (L.length : Int) = x := by
  have hw := withE_eq L x
  have hlen := withE_len L x
  refine ⟨⟨⟨_, hw⟩, right_with h ho, fun j h1 h2 => ?_⟩, by omega, ?_⟩
  · rw [hw, atE_nat, List.getElem?_append_right h1]
    by_cases h5 : x.tag = 5
    · rw [if_pos h5]
      match j - L.length with
      | 0 => exact .inl rfl
      | 1 => exact .inr rfl
      | k + 2 => exact .inr rfl
    · rw [if_neg h5]
      match j - L.length with
      | 0 => exact .inl rfl
      | k + 1 => exact .inr rfl
  · rw [hw, atE_nat, List.getElem?_append_right (Nat.le_refl _), Nat.sub_self]
    split <;> rfl
/-- A new entry behind what has come of it. -/
theorem GN.new {l L : List Ent} {x : Ent} {c : Cst} {S : Int → Prop} (e : Ext l L S) (ho : okE L x = true) (hm : meanN L x = c) (h0 : S 0) (hx : S x.tag) : GN l (withE L x) L.length c S := by
  obtain ⟨w1, w2, w3⟩ := withE_ext e.right ho
  have W1 := w1.mono (S' := S) (fun t ht => by rcases ht with rfl | rfl <;> assumption)
  refine ⟨e.trans W1, right_len e.right, w2, ?_⟩
  rw [w3]
  obtain ⟨ex, hex⟩ := w1.ext
  rw [hex, meanN_keep ex e.right (.inr ho)]
  exact hm
/-- None ahead of it means it. -/
theorem GN.first {l L : List Ent} {c : Cst} {S : Int → Prop} (e : Ext l L S) (hr : rightL l) (hf : firstN l c = 0) (hS : ∀ t, S t → t ≠ c.tag) {x : Ent} {M : List Ent} (hM : ∃ z, M = L ++ z) : ∀ j : Nat, 1 ≤ j → j < L.length → meanN M (atE M (j : Int)) ≠ c := fun j h1 h2 => by
  obtain ⟨z, rfl⟩ := hM
  rw [atE_left z h2, meanN_keep z e.right (right_or e.right _)]
  by_cases hj : j < l.length
  · rw [e.meanN hr hj]
    exact firstN_none hf j h1 hj
  · intro he
    have t1 := e.tags j (by omega) h2
    have t2 := meanN_tag L (atE L (j : Int))
    rw [he] at t2
    exact hS _ t1 t2.symm

end Go.Proofs.Ytnnanlniffjnkaa

/- The landed pool as plain values: what comes of Put. -/
namespace Go.Proofs.Ytnnanlniffjnkaa
open Go.RowKit
set_option linter.unusedVariables false

theorem clsK_fine {l : List Ent} {s : List UInt8} (h : rightL l) (hs : textB s = true) : GN l (clsK l s).1 (clsK l s).2 (cCls s) (fun t => t = 1 ∨ t = 7 ∨ t = 0) := by
  unfold clsK
  by_cases h0 : firstN l (cCls s) = 0
  · rw [if_pos h0]
    obtain ⟨e1, e2, e3, e4⟩ := addE_ext h (okE_utf (l := l) hs)
    generalize (addE l (eUtf s)).1 = L at *
    generalize (addE l (eUtf s)).2 = k at *
    have hk1 : tagE L (k : Int) = 1 := by unfold tagE; rw [e4]; rfl
    have E1 := e1.mono (S' := fun t => t = 1 ∨ t = 7 ∨ t = 0) (fun t ht => by
      have ht' : t = 1 ∨ t = 0 := ht
      omega)
    refine GN.new E1 (okE_class hk1) ?_ (by simp) (by simp)
    unfold meanN cCls
    simp
    rw [e4]
    rfl
  · rw [if_neg h0]
    obtain ⟨h1, h2, h3⟩ := firstN_some h0
    exact ⟨Ext.refl h _, h1, h2, h3⟩
theorem namK_fine {l : List Ent} {s t : List UInt8} (h : rightL l) (hs : textB s = true) (ht : textB t = true) : GN l (namK l s t).1 (namK l s t).2 (cNam s t) (fun t => t = 1 ∨ t = 12 ∨ t = 0) := by
  unfold namK
  by_cases h0 : firstN l (cNam s t) = 0
  · rw [if_pos h0]
    obtain ⟨e1, e2, e3, e4⟩ := addE_ext h (okE_utf (l := l) hs)
    generalize (addE l (eUtf s)).1 = L at *
    generalize (addE l (eUtf s)).2 = k at *
    obtain ⟨f1, f2, f3, f4⟩ := addE_ext e1.right (okE_utf (l := L) ht)
    generalize (addE L (eUtf t)).1 = L2 at *
    generalize (addE L (eUtf t)).2 = k2 at *
    have a1 := f1.at (i := (k : Int)) (by rw [e4]; simp [eUtf])
    rw [e4] at a1
    have hk1 : tagE L2 (k : Int) = 1 := by unfold tagE; rw [a1]; rfl
    have hk2 : tagE L2 (k2 : Int) = 1 := by unfold tagE; rw [f4]; rfl
    have E1 := e1.mono (S' := fun t => t = 1 ∨ t = 12 ∨ t = 0) (fun t ht => by
      have ht' : t = 1 ∨ t = 0 := ht
      omega)
    have F1 := f1.mono (S' := fun t => t = 1 ∨ t = 12 ∨ t = 0) (fun t ht => by
      have ht' : t = 1 ∨ t = 0 := ht
      omega)
    refine GN.new (E1.trans F1) (okE_name hk1 hk2) ?_ (by simp) (by simp)
    unfold meanN cNam
    simp
    rw [a1, f4]
    exact ⟨rfl, rfl⟩
  · rw [if_neg h0]
    obtain ⟨h1, h2, h3⟩ := firstN_some h0
    exact ⟨Ext.refl h _, h1, h2, h3⟩
theorem rightC_tags {c : Cst} (h : rightC c = true) : c.tag = 3 ∨ c.tag = 5 ∨ c.tag = 7 ∨ c.tag = 9 ∨ c.tag = 10 := by
  unfold rightC at h
  repeat (split at h; omega)
  cases h
/-- What the program's Put comes to, where it grows a pool or finds the number. -/
structure NumFine (l : List Ent) (c : Cst) : Prop where
  ext : ∃ e, (numK l c).1 = l ++ e
  right : rightL (numK l c).1
  pos : 1 ≤ (numK l c).2
  lt : (numK l c).2 < (numK l c).1.length
  mean : meanP (numK l c).1 ((numK l c).2 : Int) = c
  first : meansE (numK l c).1 c = (numK l c).2
theorem num_fine {l : List Ent} {c : Cst} (hr : rightL l) (hc : rightC c = true) : NumFine l c := by
  have ht := rightC_tags hc
  by_cases h0 : firstN l c = 0
  case neg =>
    have e1 : numK l c = (l, firstN l c) := if_pos h0
    have hm := firstN_means (l := l) ht
    obtain ⟨h1, h2, h3⟩ := firstN_some h0
    exact ⟨by rw [e1]; exact ⟨[], by simp⟩, by rw [e1]; exact hr, by rw [e1]; exact h1, by rw [e1]; exact h2, by rw [e1]; exact (meanP_N ht).2 h3, by rw [e1]; exact hm.symm⟩
  case pos =>
    -- one shape for all: L with x behind
    have key : ∀ (L : List Ent) (x : Ent) (S : Int → Prop), Ext l L S → okE L x = true → meanN L x = c → (∀ t, S t → t ≠ c.tag) → numK l c = (withE L x, L.length) → NumFine l c := fun L x S e ho hm hS hn => by
      obtain ⟨w1, w2, w3⟩ := withE_ext e.right ho
      have hmean : meanN (withE L x) (atE (withE L x) (L.length : Int)) = c := by
        rw [w3]
        obtain ⟨ex, hex⟩ := w1.ext
        rw [hex, meanN_keep ex e.right (.inr ho)]
        exact hm
      have hfirst := GN.first (x := x) e hr h0 hS w1.ext
      have hpos := right_len e.right
      have hE : ∃ z, withE L x = l ++ z := by
        obtain ⟨z1, hz1⟩ := w1.ext
        obtain ⟨z2, hz2⟩ := e.ext
        exact ⟨z2 ++ z1, by rw [hz1, hz2]; simp⟩
      refine ⟨by rw [hn]; exact hE, by rw [hn]; exact w1.right, by rw [hn]; exact hpos, by rw [hn]; exact w2, by rw [hn]; exact (meanP_N ht).2 hmean, ?_⟩
      rw [hn]
      show meansE (withE L x) c = L.length
      rw [← firstN_means ht]
      exact firstN_eq hpos w2 hmean hfirst
    by_cases t35 : c.tag = 3 ∨ c.tag = 5
    · have hcc : c = ⟨c.tag, c.n, [], [], []⟩ ∧ okE l ⟨c.tag, [], c.n, 0, 0⟩ = true := by
        unfold rightC at hc
        rcases t35 with t | t <;> simp [t] at hc
        · refine ⟨by rw [t]; exact hc.1, ?_⟩
          unfold okE
          simp [t]
          exact hc.2
        · refine ⟨by rw [t]; exact hc, ?_⟩
          unfold okE
          simp [t]
      refine key l ⟨c.tag, [], c.n, 0, 0⟩ (fun _ => False) (Ext.refl hr _) hcc.2 ?_ (fun t ht => ht.elim) ?_
      · unfold meanN
        rw [if_pos t35]
        exact hcc.1.symm
      · unfold numK
        rw [if_neg (by rw [h0]; simp), if_pos t35]
    by_cases t7 : c.tag = 7
    · have hcc : c = ⟨7, 0, c.cls, [], []⟩ ∧ textB c.cls = true := by
        unfold rightC at hc
        simp [t7] at hc
        exact hc
      have h0' : firstN l (cCls c.cls) = 0 := by
        have e : cCls c.cls = c := hcc.1.symm
        rw [e]
        exact h0
      obtain ⟨e1, e2, e3, e4⟩ := addE_ext hr (okE_utf (l := l) hcc.2)
      have hk1 : tagE (addE l (eUtf c.cls)).1 ((addE l (eUtf c.cls)).2 : Int) = 1 := by unfold tagE; rw [e4]; rfl
      refine key (addE l (eUtf c.cls)).1 ⟨7, [], 0, ((addE l (eUtf c.cls)).2 : Int), 0⟩ _ e1 (okE_class hk1) ?_ (fun t ht => ?_) ?_
      · unfold meanN
        simp
        rw [e4]
        exact hcc.1.symm
      · have ht' : t = 1 ∨ t = 0 := ht
        omega
      · unfold numK
        rw [if_neg (by rw [h0]; simp), if_neg t35, if_pos t7]
        exact if_pos h0'
    · have t9 : c.tag = 9 ∨ c.tag = 10 := by omega
      have hcc : c.n = 0 ∧ textB c.cls = true ∧ textB c.name = true ∧ textB c.type = true := by
        unfold rightC at hc
        rcases t9 with t | t <;> simp [t] at hc
        · exact ⟨hc.1.1.1, hc.1.1.2, hc.1.2, hc.2⟩
        · exact ⟨hc.1.1.1, hc.1.1.2, hc.1.2, hc.2⟩
      have g1 := clsK_fine hr hcc.2.1
      have hn : numK l c = refK l c := by
        unfold numK
        rw [if_neg (by rw [h0]; simp), if_neg t35, if_neg t7]
      unfold refK at hn
      generalize (clsK l c.cls).1 = L1 at *
      generalize (clsK l c.cls).2 = k1 at *
      have g2 := namK_fine g1.ext.right hcc.2.2.1 hcc.2.2.2
      generalize (namK L1 c.name c.type).1 = L2 at *
      generalize (namK L1 c.name c.type).2 = k2 at *
      have m1 := g2.ext.meanN g1.ext.right g1.lt
      rw [g1.mean] at m1
      have m2 := g2.mean
      have q1 := meanN_tag L2 (atE L2 (k1 : Int))
      rw [m1] at q1
      have q1' : (atE L2 (k1 : Int)).tag = 7 := q1.symm
      have q2 := meanN_tag L2 (atE L2 (k2 : Int))
      rw [m2] at q2
      have q2' : (atE L2 (k2 : Int)).tag = 12 := q2.symm
      have E1 := g1.ext.mono (S' := fun t => t = 1 ∨ t = 7 ∨ t = 12 ∨ t = 0) (fun t ht => by omega)
      have E2 := g2.ext.mono (S' := fun t => t = 1 ∨ t = 7 ∨ t = 12 ∨ t = 0) (fun t ht => by omega)
      refine key L2 ⟨c.tag, [], 0, (k1 : Int), (k2 : Int)⟩ _ (E1.trans E2) (okE_ref t9 q1' q2') ?_ (fun t ht => by omega) hn
      unfold meanN at m1 m2
      rw [if_neg (by omega), if_pos q1'] at m1
      rw [if_neg (by omega), if_neg (by omega), if_neg (by omega), if_pos q2'] at m2
      have s1 := congrArg Cst.cls m1
      have s2 := congrArg Cst.name m2
      have s3 := congrArg Cst.type m2
      unfold meanN
      simp only
      rw [if_neg (by omega), if_neg (by omega), if_pos t9]
      apply (Cst.eq_iff _ _).1
      exact ⟨rfl, hcc.1.symm, s1, s2, s3⟩

theorem putK_fine {l : List Ent} {c : Cst} (h : (putK l c).2.2 = 0) : ∃ k : Nat, (putK l c).2.1 = k ∧ PutFine l (putK l c).1 c k ∧ checkP l = true ∧ rightC c = true := by
  unfold putK at h ⊢
  by_cases h1 : checkP l = false
  · rw [if_pos h1] at h
    exact absurd h (by decide)
  · have h1' : checkP l = true := by cases hc : checkP l <;> simp_all
    have hr := (checkP_right.1 h1').2
    rw [if_neg h1] at h ⊢
    by_cases h2 : rightC c = false
    · rw [if_pos h2] at h
      exact absurd h (by decide)
    · have h2' : rightC c = true := by cases hc : rightC c <;> simp_all
      rw [if_neg h2] at h ⊢
      by_cases h4 : 1024 < (numK l c).1.length
      · rw [if_pos h4] at h
        exact absurd h (by decide)
      · rw [if_neg h4]
        have g := num_fine hr h2'
        exact ⟨(numK l c).2, rfl, ⟨g.ext, checkP_right.2 ⟨⟨right_len g.right, by show (numK l c).1.length ≤ 1024; omega⟩, g.right⟩, g.pos, g.lt, g.mean, g.first⟩, h1', h2'⟩
theorem putK_stays {a b : List Ent} {c : Cst} {n : Nat} (hn : 1 ≤ n) (hl : n < a.length) (hm : meanP a (n : Int) = c) (hf : meansE a c = n) (ha : checkP a = true) (hb : ∃ e, b = a ++ e) (hcb : checkP b = true) (hc : rightC c = true) :
    constP b (n : Int) = (c, 0) ∧ putK b c = (b, (n : Int), 0) := by
  obtain ⟨h1, h2⟩ := putP_stays hn hl hm hf ha hb hcb hc
  refine ⟨h1, ?_⟩
  obtain ⟨e, rfl⟩ := hb
  have hr := (checkP_right.1 ha).2
  have hmb : meanP (a ++ e) (n : Int) = c := by rw [meanP_keep e hr hl]; exact hm
  have hfb : meansE (a ++ e) c = n := by
    obtain ⟨_, _, _, h4⟩ := meansE_some (l := a) (c := c) (by omega)
    rw [hf] at h4
    exact meansE_eq hn (by simp; omega) hmb (fun j h1 h2 => by rw [meanP_keep e hr (by omega)]; exact h4 j h1 h2)
  have hN : numK (a ++ e) c = (a ++ e, n) := by
    have := firstN_means (l := a ++ e) (rightC_tags hc)
    rw [hfb] at this
    unfold numK
    rw [this, if_pos (by omega)]
  unfold putK
  rw [if_neg (by rw [hcb]; simp), if_neg (by rw [hc]; simp), hN, if_neg (by have := (checkP_right.1 hcb).1; simp at this ⊢; omega)]
theorem putK_err {l : List Ent} {k : Cst} (h : (putK l k).2.2 ≠ 0) : (putK l k).1 = [] ∧ (putK l k).2.1 = 0 := by
  unfold putK at h ⊢
  split
  · exact ⟨rfl, rfl⟩
  · rename_i h1
    rw [if_neg h1] at h
    split
    · exact ⟨rfl, rfl⟩
    · rename_i h2
      rw [if_neg h2] at h
      split
      · exact ⟨rfl, rfl⟩
      · rename_i h4
        rw [if_neg h4] at h
        exact absurd rfl h
theorem putK_len {l : List Ent} {k : Cst} : (putK l k).1.length ≤ 1024 := by
  unfold putK
  split
  · simp
  · split
    · simp
    · split
      · simp
      · show (numK l k).1.length ≤ _
        omega

end Go.Proofs.Ytnnanlniffjnkaa

/- Entries held against one another; the document's find. -/
namespace Go.Proofs.Ytnnanlniffjnkaa
open Go.RowKit
set_option linter.unusedVariables false

theorem str_eq (s t : List UInt8) : ((⟨s.toArray⟩ : ByteArray).toList = (⟨t.toArray⟩ : ByteArray).toList) ↔ s = t := by
  rw [ByteArray.toList_eq, ByteArray.toList_eq]
def entV (x : Ent) : Value := .agg #[.int .i64 x.tag, .string ⟨x.text.toArray⟩, .int .i64 x.n, .int .i64 x.a, .int .i64 x.b]
end Go.Proofs.Ytnnanlniffjnkaa

/- The document's own pool: text, utf, add. -/
namespace Go.Proofs.Ytnnanlniffjnkaa
open Go.RowKit
set_option linter.unusedVariables false

theorem strI (l : List UInt8) (i : Nat) (b : UInt8) (h : l[i]? = some b) : ∀ w, (Instr.index 9 (.string ⟨l.toArray⟩) (.int .i64 (i : Int))).run Try.prog w = .ok (.int .u8 (b.toNat : Int)) w := fun w => by
  have hl : i < l.length := (List.getElem?_eq_some_iff.1 h).1
  have hb := (List.getElem?_eq_some_iff.1 h).2
  have hs : (⟨l.toArray⟩ : ByteArray).size = l.length := by simp [ByteArray.size]
  have := run_index_string (P := Try.prog) (w := w) 9 ⟨l.toArray⟩ .i64 (i : Int) (by kernel_rfl)
  rw [dif_pos ⟨by omega, by rw [hs]; omega⟩] at this
  rw [this]
  have e : (⟨l.toArray⟩ : ByteArray)[(i : Int).toNat]'(by rw [hs]; omega) = b := by
    rw [← hb]
    rfl
  rw [e]
def okB (x : UInt8) : Bool := decide (33 ≤ x.toNat) && decide (x.toNat ≤ 126)
theorem textB_eq (s : List UInt8) : textB s = (s.all okB && decide (s.length ≤ 255)) := rfl

theorem es_of_block {w : World} {q : Nat} {l : List Ent} {e : TypeId} {f : Nat × Nat} (h : w.heap[q]? = some (.cells (ev l).toArray e f)) : EntsAt w (some ⟨q, 0, none⟩) l := fun ad e j u hu => by
  injection e with e
  subst e
  rw [Addr.add_mid, Nat.zero_add, cell_of_row _ _ _ _ _ _ h]
  simpa using hu
theorem entC {w : World} {q : Nat} {x : Ent} {T : TypeId} {f : Nat × Nat} (h : w.heap[q]? = some (.cells #[.int .i64 x.tag, .string ⟨x.text.toArray⟩, .int .i64 x.n, .int .i64 x.a, .int .i64 x.b] T f)) :
    w.cell? ⟨q, 0, none⟩ = some (.int .i64 x.tag) ∧ w.cell? ⟨q, 1, none⟩ = some (.string ⟨x.text.toArray⟩) ∧ w.cell? ⟨q, 2, none⟩ = some (.int .i64 x.n) ∧ w.cell? ⟨q, 3, none⟩ = some (.int .i64 x.a) ∧ w.cell? ⟨q, 4, none⟩ = some (.int .i64 x.b) :=
  ⟨by rw [cell_of_row _ _ _ _ _ _ h]; rfl, by rw [cell_of_row _ _ _ _ _ _ h]; rfl, by rw [cell_of_row _ _ _ _ _ _ h]; rfl, by rw [cell_of_row _ _ _ _ _ _ h]; rfl, by rw [cell_of_row _ _ _ _ _ _ h]; rfl⟩

theorem grown_keep {W W' : World} {B q : Nat} {v : Value} {n : Nat} {xs : List Value} {T : TypeId} (ho : W.ownsRow B T 5 v n xs) (hq : q < B) (hqs : q < W.heap.size) (o : Obj) (g : (W.alloc o).grownBy W' v.ownBlock) : W'.heap[q]? = W.heap[q]? :=
  (g.block q (by simp; omega) (fun e => by have := (ho.lt q e.symm).1; omega)).trans (heap_alloc_old _ _ hqs)
theorem grown_bel {w W W' : World} {n : Nat} {v : Value} {xs : List Value} {T : TypeId} (f : Below w.heap.size w W) (ho : W.ownsRow w.heap.size T 5 v n xs) (o : Obj) (g : (W.alloc o).grownBy W' v.ownBlock) : Below w.heap.size w W' :=
  (f.alloc f.size o).grown g (Nat.le_trans f.size (by simp)) (fun k hk => (ho.lt k hk).1)
theorem own5_base {w : World} {base base' n : Nat} {v : Value} {xs : List Value} {T : TypeId} (h : w.ownsRow base T 5 v n xs) (hb : base' ≤ base) : w.ownsRow base' T 5 v n xs :=
  ⟨h.1, h.2.elim .inl (fun ⟨g, cap, cur, hv, hg, r⟩ => .inr ⟨g, cap, cur, hv, Nat.le_trans hb hg, r⟩)⟩
theorem own5_form {w : World} {base : Nat} {e : TypeId} {v : Value} {n : Nat} {xs : List Value} (h : w.ownsRow base e 5 v n xs) : ∃ a c, v = .slice a n c := by
  rcases h.2 with ⟨rfl, rfl⟩ | ⟨g, cap, cur, rfl, _⟩
  · exact ⟨_, _, rfl⟩
  · exact ⟨_, _, rfl⟩

end Go.Proofs.Ytnnanlniffjnkaa

/- The document's own pool: utf, right. -/
namespace Go.Proofs.Ytnnanlniffjnkaa
open Go.RowKit
set_option linter.unusedVariables false

def cstV (c : Cst) : Value := .agg #[.int .i64 c.tag, .int .i64 c.n, .string ⟨c.cls.toArray⟩, .string ⟨c.name.toArray⟩, .string ⟨c.type.toArray⟩]
theorem cstC {w : World} {q : Nat} {x : Cst} {T : TypeId} {f : Nat × Nat} (h : w.heap[q]? = some (.cells #[.int .i64 x.tag, .int .i64 x.n, .string ⟨x.cls.toArray⟩, .string ⟨x.name.toArray⟩, .string ⟨x.type.toArray⟩] T f)) :
    w.cell? ⟨q, 0, none⟩ = some (.int .i64 x.tag) ∧ w.cell? ⟨q, 1, none⟩ = some (.int .i64 x.n) ∧ w.cell? ⟨q, 2, none⟩ = some (.string ⟨x.cls.toArray⟩) ∧ w.cell? ⟨q, 3, none⟩ = some (.string ⟨x.name.toArray⟩) ∧ w.cell? ⟨q, 4, none⟩ = some (.string ⟨x.type.toArray⟩) :=
  ⟨by rw [cell_of_row _ _ _ _ _ _ h]; rfl, by rw [cell_of_row _ _ _ _ _ _ h]; rfl, by rw [cell_of_row _ _ _ _ _ _ h]; rfl, by rw [cell_of_row _ _ _ _ _ _ h]; rfl, by rw [cell_of_row _ _ _ _ _ _ h]; rfl⟩
def CstFit (c : Cst) : Prop := (-9223372036854775808 ≤ c.tag ∧ c.tag ≤ 9223372036854775807) ∧ (-9223372036854775808 ≤ c.n ∧ c.n ≤ 9223372036854775807) ∧ c.cls.length ≤ 140737488355328 ∧ c.name.length ≤ 140737488355328 ∧ c.type.length ≤ 140737488355328

end Go.Proofs.Ytnnanlniffjnkaa
