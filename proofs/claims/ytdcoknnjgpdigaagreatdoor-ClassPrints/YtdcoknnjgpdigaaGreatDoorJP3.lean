/- Joined: PlG PkA PkA2 PlN. -/
import Derived.Test.YtdcoknnjgpdigaaGreatDoorJP2
import Derived.Test.YtdcoknnjgpdigaaGreatDoorJP1

/- Pools as plain values: Put of a field or a method; what follows. -/
namespace Go.Proofs.YtdcoknnjgpdigaaGreatDoor
open Go.RowKit
set_option linter.unusedVariables false

/-- What Put answers where it does: a pool that begins with what was there; its number means it, and is the first that does. -/
structure PutFine (l L : List Ent) (c : Cst) (k : Nat) : Prop where
  ext : ∃ e, L = l ++ e
  right : checkP L = true
  pos : 1 ≤ k
  lt : k < L.length
  mean : meanP L (k : Int) = c
  first : meansE L c = k
end Go.Proofs.YtdcoknnjgpdigaaGreatDoor

/- The landed pool as plain values: entries right one by one; what an entry means, a name too; how Put grows a pool. -/
namespace Go.Proofs.YtdcoknnjgpdigaaGreatDoor
open Go.RowKit
set_option linter.unusedVariables false

def gapE (l : List Ent) (i : Nat) : Bool := decide (i = 0) || decide ((atE l ((i : Int) - 1)).tag = 5)
def rightAt (l : List Ent) (i : Nat) : Bool :=
  if gapE l i = true then decide (atE l (i : Int) = ent0) else okE l (atE l (i : Int)) && (decide ((atE l (i : Int)).tag ≠ 5) || decide (i + 1 < l.length))
theorem gapE_succ (l : List Ent) (i : Nat) : gapE l (i + 1) = decide ((atE l (i : Int)).tag = 5) := by
  unfold gapE
  rw [show ((i + 1 : Nat) : Int) - 1 = (i : Int) by omega]
  simp
theorem drop_atE {l : List Ent} {k : Nat} (h : k < l.length) : l.drop k = atE l (k : Int) :: l.drop (k + 1) := by
  rw [atE_nat, List.getElem?_eq_getElem h]
  exact List.drop_eq_getElem_cons h
theorem right_fwd {l : List Ent} (h : ∀ i, i < l.length → rightAt l i = true) : ∀ m k, l.length - k ≤ m → gapE l k = false → goE l (l.drop k) = true := by
  intro m
  induction m using Nat.strongRecOn with
  | _ m ih =>
    intro k hm hg
    by_cases hk : k < l.length
    · have h1 := h k hk
      unfold rightAt at h1
      rw [if_neg (by rw [hg]; simp), Bool.and_eq_true] at h1
      rw [drop_atE hk]
      by_cases hk2 : k + 1 < l.length
      · rw [drop_atE hk2]
        by_cases h5 : (atE l (k : Int)).tag = 5
        · have g1 : gapE l (k + 1) = true := by rw [gapE_succ]; simpa using h5
          have h2 := h (k + 1) hk2
          unfold rightAt at h2
          rw [if_pos g1, decide_eq_true_eq] at h2
          have g2 : gapE l (k + 1 + 1) = false := by
            rw [gapE_succ, h2]
            rfl
          have := ih (l.length - (k + 1 + 1)) (by omega) (k + 1 + 1) (Nat.le_refl _) g2
          simp only [goE, h1.1, h5, if_true, h2, this]
          simp
        · have g1 : gapE l (k + 1) = false := by rw [gapE_succ]; simpa using h5
          have := ih (l.length - (k + 1)) (by omega) (k + 1) (Nat.le_refl _) g1
          rw [drop_atE hk2] at this
          simp only [goE, h1.1, if_neg h5, this]
          simp
      · rw [List.drop_of_length_le (by omega)]
        have := h1.2
        simp only [goE, h1.1]
        simpa [hk2] using this
    · rw [List.drop_of_length_le (by omega)]
      rfl
theorem right_bwd {l : List Ent} : ∀ m k, l.length - k ≤ m → gapE l k = false → goE l (l.drop k) = true → ∀ i, k ≤ i → i < l.length → rightAt l i = true := by
  intro m
  induction m using Nat.strongRecOn with
  | _ m ih =>
    intro k hm hg hgo i hki hi
    have hk : k < l.length := by omega
    rw [drop_atE hk] at hgo
    by_cases hk2 : k + 1 < l.length
    · rw [drop_atE hk2] at hgo
      simp only [goE, Bool.and_eq_true] at hgo
      obtain ⟨ho, hgo⟩ := hgo
      have hr : rightAt l k = true := by
        unfold rightAt
        rw [if_neg (by rw [hg]; simp), ho]
        simp [hk2]
      by_cases h5 : (atE l (k : Int)).tag = 5
      · rw [if_pos h5, Bool.and_eq_true, decide_eq_true_eq] at hgo
        have g1 : gapE l (k + 1) = true := by rw [gapE_succ]; simpa using h5
        have g2 : gapE l (k + 1 + 1) = false := by rw [gapE_succ, hgo.1]; rfl
        by_cases e1 : i = k
        · subst e1; exact hr
        by_cases e2 : i = k + 1
        · subst e2
          unfold rightAt
          rw [if_pos g1, decide_eq_true_eq]
          exact hgo.1
        exact ih (l.length - (k + 1 + 1)) (by omega) (k + 1 + 1) (Nat.le_refl _) g2 hgo.2 i (by omega) hi
      · rw [if_neg h5, ← drop_atE hk2] at hgo
        have g1 : gapE l (k + 1) = false := by rw [gapE_succ]; simpa using h5
        by_cases e1 : i = k
        · subst e1; exact hr
        exact ih (l.length - (k + 1)) (by omega) (k + 1) (Nat.le_refl _) g1 hgo i (by omega) hi
    · rw [List.drop_of_length_le (l := l) (i := k + 1) (by omega)] at hgo
      simp only [goE, Bool.and_eq_true, decide_eq_true_eq] at hgo
      have e1 : i = k := by omega
      subst e1
      unfold rightAt
      rw [if_neg (by rw [hg]; simp), hgo.1]
      simp [hgo.2]
theorem right_all {l : List Ent} (hl : 1 ≤ l.length) : (∀ i, i < l.length → rightAt l i = true) ↔ rightL l := by
  have h00 : atE l ((0 : Nat) : Int) = l[0]?.getD ent0 := atE_nat l 0
  constructor
  · intro h
    have h0 := h 0 (by omega)
    unfold rightAt at h0
    rw [if_pos (by rfl), decide_eq_true_eq] at h0
    have hg : gapE l 1 = false := by rw [gapE_succ, h0]; rfl
    refine ⟨?_, right_fwd h _ 1 (Nat.le_refl _) hg⟩
    rw [List.getElem?_eq_getElem (by omega)] at h00 ⊢
    rw [h00] at h0
    exact congrArg some h0
  · rintro ⟨h0, hgo⟩ i hi
    have h0' : atE l ((0 : Nat) : Int) = ent0 := by rw [h00, h0]; rfl
    have hg : gapE l 1 = false := by rw [gapE_succ, h0']; rfl
    by_cases e : i = 0
    · subst e
      unfold rightAt
      rw [if_pos (by rfl), decide_eq_true_eq]
      exact h0'
    · exact right_bwd _ 1 (Nat.le_refl _) hg hgo i (by omega) hi
theorem checkP_all (l : List Ent) : checkP l = true ↔ (1 ≤ l.length ∧ l.length ≤ 1024) ∧ ∀ i, i < l.length → rightAt l i = true := by
  rw [checkP_right]
  constructor
  · rintro ⟨h1, h2⟩
    exact ⟨h1, (right_all h1.1).2 h2⟩
  · rintro ⟨h1, h2⟩
    exact ⟨h1, (right_all h1.1).1 h2⟩

/-- What an entry has of all that it may have. -/
def justE (x : Ent) : Ent :=
  if x.tag = 1 then ⟨1, x.text, 0, 0, 0⟩
  else if x.tag = 3 ∨ x.tag = 5 then ⟨x.tag, [], x.n, 0, 0⟩
  else if x.tag = 9 ∨ x.tag = 10 ∨ x.tag = 12 then ⟨x.tag, [], 0, x.a, x.b⟩
  else if x.tag = 7 then ⟨7, [], 0, x.a, 0⟩
  else ent0
def leadsE (l : List Ent) (x : Ent) : Bool :=
  if x.tag = 9 ∨ x.tag = 10 then decide (tagE l x.a = 7) && decide (tagE l x.b = 12)
  else if x.tag = 12 then decide (tagE l x.b = 1) && decide (tagE l x.a = 1)
  else if x.tag = 7 then decide (tagE l x.a = 1)
  else true
def fitsE (t n : Int) : Bool := decide (t ≠ 3) || decide (-2147483648 ≤ n ∧ n ≤ 2147483647)
theorem okE_code (l : List Ent) (x : Ent) : okE l x = (decide (x.tag ≠ 0) && decide (x = justE x) && textB x.text && leadsE l x && fitsE x.tag x.n) := by
  obtain ⟨t, s, n, a, b⟩ := x
  have hnil : textB [] = true := by decide
  unfold okE justE leadsE fitsE eUtf
  simp only
  by_cases h1 : t = 1
  · subst h1
    simp
    rw [Bool.and_comm]
  by_cases h3 : t = 3
  · subst h3
    simp
    by_cases hs : s = []
    · subst hs
      rw [hnil]
      simp
      rw [Bool.and_comm]
    · simp [hs]
  by_cases h5 : t = 5
  · subst h5
    simp
    by_cases hs : s = []
    · subst hs; rw [hnil]; simp
    · simp [hs]
  by_cases h7 : t = 7
  · subst h7
    simp
    by_cases hs : s = []
    · subst hs; rw [hnil]; simp; rw [Bool.and_comm]
    · simp [hs]
  by_cases h12 : t = 12
  · subst h12
    simp
    by_cases hs : s = []
    · subst hs
      rw [hnil]
      simp
      rw [Bool.and_comm]
      congr 1
      rw [Bool.and_comm]
    · simp [hs]
  by_cases h9 : t = 9 ∨ t = 10
  · rcases h9 with rfl | rfl
    · simp
      by_cases hs : s = []
      · subst hs; rw [hnil]; simp; rw [Bool.and_comm]
      · simp [hs]
    · simp
      by_cases hs : s = []
      · subst hs; rw [hnil]; simp; rw [Bool.and_comm]
      · simp [hs]
  · have h9' : t ≠ 9 := fun e => h9 (.inl e)
    have h10 : t ≠ 10 := fun e => h9 (.inr e)
    simp [h1, h3, h5, h7, h12, h9', h10]
    intro h0
    exact fun e => absurd (congrArg Ent.tag e) h0

/-- What an entry means; of a name its two texts. -/
def meanN (l : List Ent) (x : Ent) : Cst :=
  if x.tag = 3 ∨ x.tag = 5 then ⟨x.tag, x.n, [], [], []⟩
  else if x.tag = 7 then ⟨7, 0, (atE l x.a).text, [], []⟩
  else if x.tag = 9 ∨ x.tag = 10 then ⟨x.tag, 0, (atE l (atE l x.a).a).text, (atE l (atE l x.b).a).text, (atE l (atE l x.b).b).text⟩
  else if x.tag = 12 then ⟨12, 0, [], (atE l x.a).text, (atE l x.b).text⟩
  else ⟨x.tag, 0, [], [], []⟩
theorem meanN_tag (l : List Ent) (x : Ent) : (meanN l x).tag = x.tag := by
  unfold meanN
  repeat' split
  all_goals first | rfl | (simp_all; done) | (rename_i h; simp [h])
theorem meanN_keep {l : List Ent} (e : List Ent) (h : rightL l) {x : Ent} (hx : x.tag = 0 ∨ okE l x = true) : meanN (l ++ e) x = meanN l x := by
  unfold meanN
  rcases hx with t | ho
  · simp [t]
  · rcases okE_tag ho with t | t | t | t | t | t | t <;> simp only [t] <;> unfold okE at ho <;> simp [t] at ho ⊢
    · rw [atE_keep e (by have := ho.1; unfold tagE at this; omega)]
    · obtain ⟨⟨h1, h2⟩, _⟩ := ho
      unfold tagE at h1 h2
      rw [atE_keep e (i := x.a) (by omega), atE_keep e (i := x.b) (by omega)]
      exact ⟨rfl, rfl⟩
    all_goals
      obtain ⟨⟨h1, h2⟩, _⟩ := ho
      unfold tagE at h1 h2
      have o1 := right_ok h (i := x.a) (by omega)
      have o2 := right_ok h (i := x.b) (by omega)
      rw [atE_keep e (i := x.a) (by omega), atE_keep e (i := x.b) (by omega)]
      unfold okE at o1 o2
      simp [h1] at o1
      simp [h2] at o2
      have q1 := o1.1
      have q2 := o2.1.1
      have q3 := o2.1.2
      unfold tagE at q1 q2 q3
      rw [atE_keep e (by omega), atE_keep e (by omega), atE_keep e (by omega)]
      exact ⟨rfl, rfl, rfl⟩
theorem right_or {l : List Ent} (h : rightL l) (i : Int) : (atE l i).tag = 0 ∨ okE l (atE l i) = true := by
  by_cases h0 : (atE l i).tag = 0
  · exact .inl h0
  · exact .inr (right_ok h h0)
/-- The first number that means it; 0: none does. -/
def firstN (l : List Ent) (c : Cst) : Nat := ((List.range l.length).find? fun (i : Nat) => decide (1 ≤ i) && decide (meanN l (atE l (i : Int)) = c)).getD 0
theorem firstN_none {l : List Ent} {c : Cst} (h : firstN l c = 0) : ∀ j : Nat, 1 ≤ j → j < l.length → meanN l (atE l (j : Int)) ≠ c := fun j hj hl => by
  simpa using first_none (p := fun i => decide (meanN l (atE l (i : Int)) = c)) h j hj hl
def cCls (s : List UInt8) : Cst := ⟨7, 0, s, [], []⟩
def cNam (s t : List UInt8) : Cst := ⟨12, 0, [], s, t⟩
/-- A class, a name, a number: there, or behind. -/
def clsK (l : List Ent) (s : List UInt8) : List Ent × Nat :=
  if firstN l (cCls s) = 0 then (withE (addE l (eUtf s)).1 ⟨7, [], 0, ((addE l (eUtf s)).2 : Int), 0⟩, (addE l (eUtf s)).1.length) else (l, firstN l (cCls s))
def namK (l : List Ent) (s t : List UInt8) : List Ent × Nat :=
  if firstN l (cNam s t) = 0 then (withE (addE (addE l (eUtf s)).1 (eUtf t)).1 ⟨12, [], 0, ((addE l (eUtf s)).2 : Int), ((addE (addE l (eUtf s)).1 (eUtf t)).2 : Int)⟩, (addE (addE l (eUtf s)).1 (eUtf t)).1.length) else (l, firstN l (cNam s t))
def refK (l : List Ent) (c : Cst) : List Ent × Nat :=
  (withE (namK (clsK l c.cls).1 c.name c.type).1 ⟨c.tag, [], 0, ((clsK l c.cls).2 : Int), ((namK (clsK l c.cls).1 c.name c.type).2 : Int)⟩, (namK (clsK l c.cls).1 c.name c.type).1.length)
def numK (l : List Ent) (c : Cst) : List Ent × Nat :=
  if firstN l c ≠ 0 then (l, firstN l c)
  else if c.tag = 3 ∨ c.tag = 5 then (withE l ⟨c.tag, [], c.n, 0, 0⟩, l.length)
  else if c.tag = 7 then clsK l c.cls
  else refK l c
/-- What comes of growing: the number means it. -/
structure GN (l L : List Ent) (k : Nat) (c : Cst) (S : Int → Prop) : Prop where
  ext : Ext l L S
  pos : 1 ≤ k
  lt : k < L.length
  mean : meanN L (atE L (k : Int)) = c
theorem right_len {l : List Ent} (h : rightL l) : 1 ≤ l.length := by
  cases l with
  | nil => have := h.1; simp at this
  | cons y s => simp
theorem Ext.meanN {l L : List Ent} {S : Int → Prop} (h : Ext l L S) (hr : rightL l) {j : Nat} (hj : j < l.length) : meanN L (atE L (j : Int)) = meanN l (atE l (j : Int)) := by
  obtain ⟨e, rfl⟩ := h.ext
  rw [atE_left e hj]
  exact meanN_keep e hr (right_or hr _)
theorem withE_ext {L : List Ent} {x : Ent} (h : rightL L) (ho : okE L x = true) : Ext L (withE L x) (fun t => t = x.tag ∨ t = 0) ∧ L.length < (withE L x).length ∧ atE (withE L x) (L.length : Int) = x := by
  have hw := withE_eq L x
  have hlen := withE_len L x
  refine ⟨⟨⟨_, hw⟩, right_with h ho, fun j h1 h2 => ?_⟩, by omega, ?_⟩
  · rw [hw, atE_nat, List.getElem?_append_right h1]
    by_cases h5 : x.tag = 5
    · rw [if_pos h5]
      match j - L.length with
      | 0 => exact .inl rfl
      | 1 => exact .inr rfl
      | k + 2 => exact .inr rfl
    · rw [if_neg h5]
      match j - L.length with
      | 0 => exact .inl rfl
      | k + 1 => exact .inr rfl
  · rw [hw, atE_nat, List.getElem?_append_right (Nat.le_refl _), Nat.sub_self]
    split <;> rfl
/-- A new entry behind what has come of it. -/
theorem GN.new {l L : List Ent} {x : Ent} {c : Cst} {S : Int → Prop} (e : Ext l L S) (ho : okE L x = true) (hm : meanN L x = c) (h0 : S 0) (hx : S x.tag) : GN l (withE L x) L.length c S := by
  obtain ⟨w1, w2, w3⟩ := withE_ext e.right ho
  have W1 := w1.mono (S' := S) (fun t ht => by rcases ht with rfl | rfl <;> assumption)
  refine ⟨e.trans W1, right_len e.right, w2, ?_⟩
  rw [w3]
  obtain ⟨ex, hex⟩ := w1.ext
  rw [hex, meanN_keep ex e.right (.inr ho)]
  exact hm
/-- None ahead of it means it. -/
theorem GN.first {l L : List Ent} {c : Cst} {S : Int → Prop} (e : Ext l L S) (hr : rightL l) (hf : firstN l c = 0) (hS : ∀ t, S t → t ≠ c.tag) {x : Ent} {M : List Ent} (hM : ∃ z, M = L ++ z) : ∀ j : Nat, 1 ≤ j → j < L.length → meanN M (atE M (j : Int)) ≠ c := fun j h1 h2 => by
  obtain ⟨z, rfl⟩ := hM
  rw [atE_left z h2, meanN_keep z e.right (right_or e.right _)]
  by_cases hj : j < l.length
  · rw [e.meanN hr hj]
    exact firstN_none hf j h1 hj
  · intro he
    have t1 := e.tags j (by omega) h2
    have t2 := meanN_tag L (atE L (j : Int))
    rw [he] at t2
    exact hS _ t1 t2.symm

end Go.Proofs.YtdcoknnjgpdigaaGreatDoor

/- The landed pool as plain values: what comes of Put. -/
namespace Go.Proofs.YtdcoknnjgpdigaaGreatDoor
open Go.RowKit
set_option linter.unusedVariables false

/-- What the program's Put comes to, where it grows a pool or finds the number. -/
structure NumFine (l : List Ent) (c : Cst) : Prop where
  ext : ∃ e, (numK l c).1 = l ++ e
  right : rightL (numK l c).1
  pos : 1 ≤ (numK l c).2
  lt : (numK l c).2 < (numK l c).1.length
  mean : meanP (numK l c).1 ((numK l c).2 : Int) = c
  first : meansE (numK l c).1 c = (numK l c).2
end Go.Proofs.YtdcoknnjgpdigaaGreatDoor

/- Entries held against one another; the document's find. -/
namespace Go.Proofs.YtdcoknnjgpdigaaGreatDoor
open Go.RowKit
set_option linter.unusedVariables false

theorem str_eq (s t : List UInt8) : ((⟨s.toArray⟩ : ByteArray).toList = (⟨t.toArray⟩ : ByteArray).toList) ↔ s = t := by
  rw [ByteArray.toList_eq, ByteArray.toList_eq]
theorem ent_cmp (w : World) (x y : Ent) :
    (binOp .eql 55 (.agg #[.int .i64 x.tag, .string ⟨x.text.toArray⟩, .int .i64 x.n, .int .i64 x.a, .int .i64 x.b]) (.agg #[.int .i64 y.tag, .string ⟨y.text.toArray⟩, .int .i64 y.n, .int .i64 y.a, .int .i64 y.b])).run Tryz.prog w = .ok (.bool (decide (x = y))) w := by
  rw [run_eql_struct]
  go_simp
  have e := Ent.eq_iff x y
  have es := str_eq x.text y.text
  repeat' split
  all_goals
    congr 2
    simp only [Bool.true_eq, Bool.false_eq, decide_eq_true_eq, decide_eq_false_iff_not, ← e, ← es]
    simp_all
theorem ent_cmpN (w : World) (x y : Ent) :
    (binOp .neq 55 (.agg #[.int .i64 x.tag, .string ⟨x.text.toArray⟩, .int .i64 x.n, .int .i64 x.a, .int .i64 x.b]) (.agg #[.int .i64 y.tag, .string ⟨y.text.toArray⟩, .int .i64 y.n, .int .i64 y.a, .int .i64 y.b])).run Tryz.prog w = .ok (.bool (!decide (x = y))) w := by
  rw [run_neq_struct]
  have h := ent_cmp w x y
  rw [run_eql_struct] at h
  cases hq : (Op.equalIn 10000 55 (.agg #[.int .i64 x.tag, .string ⟨x.text.toArray⟩, .int .i64 x.n, .int .i64 x.a, .int .i64 x.b]) (.agg #[.int .i64 y.tag, .string ⟨y.text.toArray⟩, .int .i64 y.n, .int .i64 y.a, .int .i64 y.b])).run Tryz.prog w with
  | ok b w' =>
    rw [hq] at h
    simp only [Result.andThen_ok, Result.ok.injEq, Value.bool.injEq] at h
    rw [h.1, h.2]
    rfl
  | halt h1 w' =>
    rw [hq] at h
    simp [Result.andThen] at h

def entV (x : Ent) : Value := .agg #[.int .i64 x.tag, .string ⟨x.text.toArray⟩, .int .i64 x.n, .int .i64 x.a, .int .i64 x.b]
end Go.Proofs.YtdcoknnjgpdigaaGreatDoor
