/- Joined: BsA WdA PlA PlB PlC PlD PlE PlX0 PlF PlG PkA PkA2. -/
import Derived.Test.YthenefjoidckkaaGreatDoorProg
import Derived.WalkKit
import Derived.WalkSpells
import Derived.WalkLawsBesides
import Derived.BigQuiet
import Derived.Deep.MidRow
import Derived.Deep.WholeRow
import Derived.Laws.AppendOwnNone
import Derived.Deep.AppendLies
import Derived.Deep.RegionHeldLaw
import Derived.Great.BuildSlice

/- What every layer's texts stand on: bytes in memory, copies of one's own, Among. -/
namespace Go.Proofs.YthenefjoidckkaaGreatDoor
open Go.RowKit
set_option linter.unusedVariables false

theorem hide {p : Prop} (h : p) : Hid p := h

theorem unhide {p : Prop} (h : Hid p) : p := h

theorem cell_alloc {w : World} {a : Addr} {v : Value} (h : w.cell? a = some v) (ob : Obj) : (w.alloc ob).cell? a = some v := by
  rw [World.cell?_alloc_lt _ _ _ (World.block_lt_of_cell? w _ h)]; exact h

def bv (l : List UInt8) : List Value := l.map fun b => Value.int .u8 (b.toNat : Int)

theorem bv_length (l : List UInt8) : (bv l).length = l.length := by simp [bv]

theorem bv_append (a b : List UInt8) : bv (a ++ b) = bv a ++ bv b := by simp [bv]

theorem lt_of_heap {w : World} {k : Nat} {o : Obj} (h : w.heap[k]? = some o) : k < w.heap.size := (Array.getElem?_eq_some_iff.1 h).1

theorem own_of_block {w w' : World} {B : Nat} {e : TypeId} {size n : Nat} {v : Value} {xs : List Value} (h : w.ownsRow B e size v n xs) (hk : ∀ k, v.ownBlock = some k → w'.heap[k]? = w.heap[k]?) : w'.ownsRow B e size v n xs := by
  refine ⟨h.1, ?_⟩
  rcases h.2 with h2 | ⟨q, cap, cur, rfl, hb, hq, r⟩
  · exact .inl h2
  · exact .inr ⟨q, cap, cur, rfl, hb, by rw [hk q rfl]; exact hq, r⟩

theorem ret_int {k : IntKind} {a b : Int} (h : a = b) : Ending.returned (.int k a) = .returned (.int k b) := by rw [h]

/-- A number as one from 0 to n - 1. -/
def among (x : Int) (n : Nat) : Nat := ((x % 18446744073709551616) % (n : Int)).toNat

/-- At address a lie the bytes l. -/
def BytesAt (w : World) (a : Option Addr) (l : List UInt8) : Prop := (a = none → l = []) ∧ ∀ ad, a = some ad → ∀ j u, (bv l)[j]? = some u → w.cell? (ad.add j) = some u

/-- A slice of bytes that came in, or is one's own. -/
def BytesOf (w : World) (a : Option Addr) (n c : Nat) (l : List UInt8) : Prop := l.length = n ∧ n ≤ c ∧ c ≤ 9223372036854775807 ∧ ((a = none ∧ n = 0 ∧ c = 0) ∨ ∃ b o, a = some ⟨b, o, none⟩ ∧ BytesAt w (some ⟨b, o, none⟩) l) ∨ (l.length = n ∧ n = 0 ∧ c ≤ 9223372036854775807 ∧ ∃ ad, a = some ad)

theorem BytesAt.below {w w' : World} {a : Option Addr} {l : List UInt8} (h : BytesAt w a l) (hb : Below w.heap.size w w') : BytesAt w' a l :=
  ⟨h.1, fun ad e j u hu => by
    have h1 := h.2 ad e j u hu
    have hlt := World.block_lt_of_cell? w _ h1
    exact (hb.cell hlt).trans h1⟩

theorem BytesOf.at {w : World} {a : Option Addr} {n c : Nat} {l : List UInt8} (h : BytesOf w a n c l) : BytesAt w a l := by
  rcases h with ⟨hn, _, _, ⟨rfl, rfl, rfl⟩ | ⟨b, o, rfl, h⟩⟩ | ⟨hn, rfl, _, ad, rfl⟩
  · exact ⟨fun _ => List.eq_nil_of_length_eq_zero hn, fun ad e => by cases e⟩
  · exact h
  · obtain rfl : l = [] := List.eq_nil_of_length_eq_zero hn
    exact ⟨fun _ => rfl, fun _ _ j u hu => by simp [bv] at hu⟩

theorem BytesOf.len {w : World} {a : Option Addr} {n c : Nat} {l : List UInt8} (h : BytesOf w a n c l) : l.length = n := by
  rcases h with h | h
  · exact h.1
  · exact h.1

end Go.Proofs.YthenefjoidckkaaGreatDoor

/- Numbers in bytes, as plain values. -/
namespace Go.Proofs.YthenefjoidckkaaGreatDoor
open Go.RowKit
set_option linter.unusedVariables false

/-- The number that bytes are, the highest first. -/
def numB (l : List UInt8) : Nat := l.foldl (fun a x => a * 256 + x.toNat) 0
/-- A number's bytes, so many. -/
def beK : Nat → Nat → List UInt8
  | 0, _ => []
  | k + 1, x => beK k (x / 256) ++ [UInt8.ofNat x]
theorem beK_len (k : Nat) : ∀ x, (beK k x).length = k := by
  induction k with
  | zero => intro x; rfl
  | succ k ih => intro x; rw [beK, List.length_append, ih, List.length_singleton]
def wide (k : Int) : Prop := k = 1 ∨ k = 2 ∨ k = 4 ∨ k = 8
instance (k : Int) : Decidable (wide k) := by unfold wide; infer_instance
/-- Does a number fit so many bytes? -/
def fitsW (k n : Int) (sg : Bool) : Prop := wide k ∧ (if k = 8 then sg = true ∨ 0 ≤ n else if sg = true then -((256 ^ k.toNat : Nat) : Int) ≤ 2 * n ∧ 2 * n < ((256 ^ k.toNat : Nat) : Int) else 0 ≤ n ∧ n < ((256 ^ k.toNat : Nat) : Int))
instance (k n : Int) (sg : Bool) : Decidable (fitsW k n sg) := by unfold fitsW; infer_instance
def bytesW (k n : Int) : List UInt8 := beK k.toNat (n % 18446744073709551616).toNat
/-- What bytes tell; none: it is too great. -/
def valW (l : List UInt8) (sg : Bool) : Option Int :=
  if l.length = 8 then
    if sg = true then some (if numB l < 9223372036854775808 then (numB l : Int) else (numB l : Int) - 18446744073709551616)
    else if numB l < 9223372036854775808 then some (numB l : Int) else none
  else if sg = true ∧ 256 ^ l.length ≤ 2 * numB l then some ((numB l : Int) - ((256 ^ l.length : Nat) : Int)) else some (numB l : Int)
end Go.Proofs.YthenefjoidckkaaGreatDoor

/- Pools as plain values: entries, constants; right, read, written, meant, put. -/
namespace Go.Proofs.YthenefjoidckkaaGreatDoor
open Go.RowKit
set_option linter.unusedVariables false

structure Ent where
  tag : Int
  text : List UInt8
  n : Int
  a : Int
  b : Int
structure Cst where
  tag : Int
  n : Int
  cls : List UInt8
  name : List UInt8
  type : List UInt8
theorem Ent.eq_iff (x y : Ent) : (x.tag = y.tag ∧ x.text = y.text ∧ x.n = y.n ∧ x.a = y.a ∧ x.b = y.b) ↔ x = y := by
  obtain ⟨a, b, c, d, e⟩ := x
  obtain ⟨a', b', c', d', e'⟩ := y
  constructor
  · rintro ⟨h1, h2, h3, h4, h5⟩
    simp only at h1 h2 h3 h4 h5
    subst h1 h2 h3 h4 h5
    rfl
  · intro h
    injection h with h1 h2 h3 h4 h5
    exact ⟨h1, h2, h3, h4, h5⟩
theorem Cst.eq_iff (x y : Cst) : (x.tag = y.tag ∧ x.n = y.n ∧ x.cls = y.cls ∧ x.name = y.name ∧ x.type = y.type) ↔ x = y := by
  obtain ⟨a, b, c, d, e⟩ := x
  obtain ⟨a', b', c', d', e'⟩ := y
  constructor
  · rintro ⟨h1, h2, h3, h4, h5⟩
    simp only at h1 h2 h3 h4 h5
    subst h1 h2 h3 h4 h5
    rfl
  · intro h
    injection h with h1 h2 h3 h4 h5
    exact ⟨h1, h2, h3, h4, h5⟩
instance : DecidableEq Ent := fun x y => decidable_of_iff _ (Ent.eq_iff x y)
instance : DecidableEq Cst := fun x y => decidable_of_iff _ (Cst.eq_iff x y)
def ent0 : Ent := ⟨0, [], 0, 0, 0⟩
def cst0 : Cst := ⟨0, 0, [], [], []⟩
def eUtf (s : List UInt8) : Ent := ⟨1, s, 0, 0, 0⟩
def textB (s : List UInt8) : Bool := s.all (fun x => decide (33 ≤ x.toNat) && decide (x.toNat ≤ 126)) && decide (s.length ≤ 255)
def atE (l : List Ent) (i : Int) : Ent := if 0 ≤ i then l[i.toNat]?.getD ent0 else ent0
def tagE (l : List Ent) (i : Int) : Int := (atE l i).tag
/-- An entry that may stand in a pool. -/
def okE (l : List Ent) (x : Ent) : Bool :=
  if x.tag = 1 then textB x.text && decide (x = eUtf x.text)
  else if x.tag = 3 then decide (-2147483648 ≤ x.n ∧ x.n ≤ 2147483647) && decide (x = ⟨3, [], x.n, 0, 0⟩)
  else if x.tag = 5 then decide (x = ⟨5, [], x.n, 0, 0⟩)
  else if x.tag = 7 then decide (tagE l x.a = 1) && decide (x = ⟨7, [], 0, x.a, 0⟩)
  else if x.tag = 12 then decide (tagE l x.a = 1 ∧ tagE l x.b = 1) && decide (x = ⟨12, [], 0, x.a, x.b⟩)
  else if x.tag = 9 ∨ x.tag = 10 then decide (tagE l x.a = 7 ∧ tagE l x.b = 12) && decide (x = ⟨x.tag, [], 0, x.a, x.b⟩)
  else false
/-- Entries, one behind the other; behind a long a zero entry. -/
def goE (l : List Ent) : List Ent → Bool
  | [] => true
  | [x] => okE l x && decide (x.tag ≠ 5)
  | x :: z :: r => okE l x && (if x.tag = 5 then decide (z = ent0) && goE l r else goE l (z :: r))
def checkP (l : List Ent) : Bool := decide (1 ≤ l.length ∧ l.length ≤ 1024) && decide (l[0]? = some ent0) && goE l (l.drop 1)

/-- An entry more, behind a long with its zero. -/
def withE (l : List Ent) (x : Ent) : List Ent := if x.tag = 5 then l ++ [x, ent0] else l ++ [x]
/-- What an entry means; none: nothing. -/
def meanP (l : List Ent) (i : Int) : Cst :=
  let x := atE l i
  if x.tag = 3 ∨ x.tag = 5 then ⟨x.tag, x.n, [], [], []⟩
  else if x.tag = 7 then ⟨7, 0, (atE l x.a).text, [], []⟩
  else if x.tag = 9 ∨ x.tag = 10 then ⟨x.tag, 0, (atE l (atE l x.a).a).text, (atE l (atE l x.b).a).text, (atE l (atE l x.b).b).text⟩
  else cst0
def constP (l : List Ent) (i : Int) : Cst × Int := if checkP l = false then (cst0, 70) else if (meanP l i).tag = 0 then (cst0, 2) else (meanP l i, 0)
/-- The first number of an entry; 0: there is none. -/
def findE (l : List Ent) (x : Ent) : Nat := ((List.range l.length).find? fun i => decide (1 ≤ i) && decide (l[i]? = some x)).getD 0
def addE (l : List Ent) (x : Ent) : List Ent × Nat := if findE l x = 0 then (withE l x, l.length) else (l, findE l x)
/-- The first number that means a constant; 0: none does. -/
def meansE (l : List Ent) (c : Cst) : Nat := ((List.range l.length).find? fun (i : Nat) => decide (1 ≤ i) && decide (meanP l (i : Int) = c)).getD 0
/-- A pool with what a constant wants. -/
def growP (l : List Ent) (c : Cst) : List Ent × Nat :=
  if c.tag = 3 ∨ c.tag = 5 then addE l ⟨c.tag, [], c.n, 0, 0⟩
  else if c.tag = 7 then
    let t := addE l (eUtf c.cls)
    addE t.1 ⟨7, [], 0, t.2, 0⟩
  else
    let t := addE l (eUtf c.cls)
    let k := addE t.1 ⟨7, [], 0, t.2, 0⟩
    let n := addE k.1 (eUtf c.name)
    let y := addE n.1 (eUtf c.type)
    let z := addE y.1 ⟨12, [], 0, n.2, y.2⟩
    addE z.1 ⟨c.tag, [], 0, k.2, z.2⟩
end Go.Proofs.YthenefjoidckkaaGreatDoor

/- Pools as plain values: what is written is read. -/
namespace Go.Proofs.YthenefjoidckkaaGreatDoor
open Go.RowKit
set_option linter.unusedVariables false

def EntFit (x : Ent) : Prop := (-9223372036854775808 ≤ x.tag ∧ x.tag ≤ 9223372036854775807) ∧ (-9223372036854775808 ≤ x.n ∧ x.n ≤ 9223372036854775807) ∧ (-9223372036854775808 ≤ x.a ∧ x.a ≤ 9223372036854775807) ∧ (-9223372036854775808 ≤ x.b ∧ x.b ≤ 9223372036854775807)
theorem tagE_in {l : List Ent} {i : Int} (h : tagE l i ≠ 0) : 0 ≤ i ∧ i < l.length := by
  unfold tagE atE at h
  by_cases h0 : 0 ≤ i
  · rw [if_pos h0] at h
    refine ⟨h0, ?_⟩
    by_cases h1 : i.toNat < l.length
    · omega
    · rw [List.getElem?_eq_none (by omega)] at h
      exact absurd rfl h
  · rw [if_neg h0] at h
    exact absurd rfl h
/-- An entry's tag is one of seven. -/
theorem okE_tag {l : List Ent} {x : Ent} (h : okE l x = true) : x.tag = 1 ∨ x.tag = 3 ∨ x.tag = 5 ∨ x.tag = 7 ∨ x.tag = 12 ∨ x.tag = 9 ∨ x.tag = 10 := by
  unfold okE at h
  repeat (split at h; omega)
  cases h

end Go.Proofs.YthenefjoidckkaaGreatDoor

/- Pools as plain values: a right pool's bytes are read as it. -/
namespace Go.Proofs.YthenefjoidckkaaGreatDoor
open Go.RowKit
set_option linter.unusedVariables false

theorem withE_len (l : List Ent) (x : Ent) : l.length + 1 ≤ (withE l x).length := by
  unfold withE
  split <;> simp
theorem checkP_iff {l : List Ent} : checkP l = true ↔ (1 ≤ l.length ∧ l.length ≤ 1024) ∧ l[0]? = some ent0 ∧ goE l (l.drop 1) = true := by
  unfold checkP
  simp [and_assoc]
end Go.Proofs.YthenefjoidckkaaGreatDoor

/- Pools as plain values: what is read is written as it was. -/
namespace Go.Proofs.YthenefjoidckkaaGreatDoor
open Go.RowKit
set_option linter.unusedVariables false

end Go.Proofs.YthenefjoidckkaaGreatDoor

/- Pools as plain values: what was put is meant by its number, and what was there stays. -/
namespace Go.Proofs.YthenefjoidckkaaGreatDoor
open Go.RowKit
set_option linter.unusedVariables false

def rightL (l : List Ent) : Prop := l[0]? = some ent0 ∧ goE l (l.drop 1) = true
theorem checkP_right {l : List Ent} : checkP l = true ↔ (1 ≤ l.length ∧ l.length ≤ 1024) ∧ rightL l := checkP_iff
theorem atE_nat (l : List Ent) (i : Nat) : atE l (i : Int) = l[i]?.getD ent0 := by
  unfold atE
  rw [if_pos (by omega), Int.toNat_natCast]
theorem atE_in {l : List Ent} {i : Int} (h : (atE l i).tag ≠ 0) : ∃ j : Nat, i = j ∧ j < l.length ∧ l[j]? = some (atE l i) := by
  obtain ⟨h1, h2⟩ := tagE_in (l := l) (i := i) h
  obtain ⟨j, rfl⟩ : ∃ j : Nat, i = j := ⟨i.toNat, by omega⟩
  have hj : j < l.length := by omega
  refine ⟨j, rfl, hj, ?_⟩
  rw [atE_nat, List.getElem?_eq_getElem hj]
  rfl
theorem atE_left {l : List Ent} (e : List Ent) {j : Nat} (h : j < l.length) : atE (l ++ e) (j : Int) = atE l (j : Int) := by rw [atE_nat, atE_nat, List.getElem?_append_left h]
theorem atE_keep {l : List Ent} (e : List Ent) {i : Int} (h : (atE l i).tag ≠ 0) : atE (l ++ e) i = atE l i := by
  obtain ⟨j, rfl, hj, _⟩ := atE_in h
  exact atE_left e hj
theorem tagE_keep {l : List Ent} (e : List Ent) {i t : Int} (h : tagE l i = t) (h0 : t ≠ 0) : tagE (l ++ e) i = t := by
  unfold tagE at h ⊢
  rw [atE_keep e (by rw [h]; exact h0), h]
theorem okE_keep {l : List Ent} (e : List Ent) {x : Ent} (h : okE l x = true) : okE (l ++ e) x = true := by
  rcases okE_tag h with t | t | t | t | t | t | t <;> unfold okE at h ⊢ <;> simp [t] at h ⊢
  · exact h
  · exact h
  · exact h
  · exact ⟨tagE_keep e h.1 (by decide), h.2⟩
  · exact ⟨⟨tagE_keep e h.1.1 (by decide), tagE_keep e h.1.2 (by decide)⟩, h.2⟩
  · exact ⟨⟨tagE_keep e h.1.1 (by decide), tagE_keep e h.1.2 (by decide)⟩, h.2⟩
  · exact ⟨⟨tagE_keep e h.1.1 (by decide), tagE_keep e h.1.2 (by decide)⟩, h.2⟩
theorem goE_keep {l : List Ent} (e : List Ent) : ∀ s, goE l s = true → goE (l ++ e) s = true
  | [], _ => rfl
  | [x], h => by
    simp only [goE, Bool.and_eq_true, decide_eq_true_eq] at h ⊢
    exact ⟨okE_keep e h.1, h.2⟩
  | x :: z :: s, h => by
    simp only [goE, Bool.and_eq_true] at h ⊢
    refine ⟨okE_keep e h.1, ?_⟩
    have h2 := h.2
    split
    · rename_i h5
      rw [if_pos h5, Bool.and_eq_true] at h2
      rw [Bool.and_eq_true]
      exact ⟨h2.1, goE_keep e s h2.2⟩
    · rename_i h5
      rw [if_neg h5] at h2
      exact goE_keep e (z :: s) h2
theorem goE_mem {l : List Ent} : ∀ s, goE l s = true → ∀ x ∈ s, x.tag ≠ 0 → okE l x = true
  | [], _, x, hx, _ => by simp at hx
  | [y], h, x, hx, _ => by
    simp only [goE, Bool.and_eq_true] at h
    simp at hx
    subst hx
    exact h.1
  | y :: z :: s, h, x, hx, ht => by
    simp only [goE, Bool.and_eq_true] at h
    have h2 := h.2
    rcases List.mem_cons.1 hx with rfl | hx
    · exact h.1
    · split at h2
      · rw [Bool.and_eq_true, decide_eq_true_eq] at h2
        rcases List.mem_cons.1 hx with rfl | hx
        · rw [h2.1] at ht
          exact absurd rfl ht
        · exact goE_mem s h2.2 x hx ht
      · exact goE_mem (z :: s) h2 x hx ht
theorem goE_append {l : List Ent} (t : List Ent) : ∀ s, goE l s = true → goE l t = true → goE l (s ++ t) = true
  | [], _, h => h
  | [x], h, ht => by
    simp only [goE, Bool.and_eq_true, decide_eq_true_eq] at h
    cases t with
    | nil => simp only [List.append_nil, goE, Bool.and_eq_true, decide_eq_true_eq]; exact h
    | cons z t =>
      show goE l (x :: z :: t) = true
      simp only [goE, Bool.and_eq_true]
      refine ⟨h.1, ?_⟩
      rw [if_neg h.2]
      exact ht
  | x :: z :: s, h, ht => by
    simp only [goE, Bool.and_eq_true] at h
    show goE l (x :: z :: (s ++ t)) = true
    simp only [goE, Bool.and_eq_true]
    refine ⟨h.1, ?_⟩
    have h2 := h.2
    split
    · rename_i h5
      rw [if_pos h5, Bool.and_eq_true] at h2
      rw [Bool.and_eq_true]
      exact ⟨h2.1, goE_append t s h2.2 ht⟩
    · rename_i h5
      rw [if_neg h5] at h2
      exact goE_append t (z :: s) h2 ht
theorem right_ok {l : List Ent} (h : rightL l) {i : Int} (ht : (atE l i).tag ≠ 0) : okE l (atE l i) = true := by
  obtain ⟨j, rfl, hj, e⟩ := atE_in ht
  cases j with
  | zero =>
    rw [h.1] at e
    injection e with e
    rw [← e] at ht
    exact absurd rfl ht
  | succ j =>
    refine goE_mem _ h.2 _ ?_ ht
    refine List.mem_of_getElem? (i := j) ?_
    rw [List.getElem?_drop, Nat.add_comm]
    exact e
/-- What an entry means stays. -/
theorem meanP_keep {l : List Ent} (e : List Ent) (h : rightL l) {j : Nat} (hj : j < l.length) : meanP (l ++ e) (j : Int) = meanP l (j : Int) := by
  unfold meanP
  rw [atE_left e hj]
  by_cases h0 : (atE l (j : Int)).tag = 0
  · simp [h0]
  · have ho := right_ok h h0
    generalize atE l (j : Int) = x at *
    rcases okE_tag ho with t | t | t | t | t | t | t <;> simp only [t] <;> unfold okE at ho <;> simp [t] at ho ⊢
    · rw [atE_keep e (by have := ho.1; unfold tagE at this; omega)]
    all_goals
      obtain ⟨⟨h1, h2⟩, _⟩ := ho
      unfold tagE at h1 h2
      have o1 := right_ok h (i := x.a) (by omega)
      have o2 := right_ok h (i := x.b) (by omega)
      rw [atE_keep e (i := x.a) (by omega), atE_keep e (i := x.b) (by omega)]
      unfold okE at o1 o2
      simp [h1] at o1
      simp [h2] at o2
      have q1 := o1.1
      have q2 := o2.1.1
      have q3 := o2.1.2
      unfold tagE at q1 q2 q3
      rw [atE_keep e (by omega), atE_keep e (by omega), atE_keep e (by omega)]
      exact ⟨rfl, rfl, rfl⟩
theorem withE_eq (l : List Ent) (x : Ent) : withE l x = l ++ (if x.tag = 5 then [x, ent0] else [x]) := by
  unfold withE
  split <;> rfl
theorem right_with {l : List Ent} {x : Ent} (h : rightL l) (ho : okE l x = true) : rightL (withE l x) := by
  rw [withE_eq]
  have hl : 1 ≤ l.length := by
    cases l with
    | nil => have := h.1; simp at this
    | cons y s => simp
  refine ⟨?_, ?_⟩
  · rw [List.getElem?_append_left (by omega)]
    exact h.1
  · rw [List.drop_append_of_le_length hl]
    refine goE_append _ _ (goE_keep _ _ h.2) ?_
    have := okE_keep (if x.tag = 5 then [x, ent0] else [x]) ho
    split
    · rename_i h5
      simp only [h5, if_true] at this
      simp [goE, this, h5]
    · rename_i h5
      simp only [h5, if_false] at this
      simp [goE, this, h5]
theorem first_none {n : Nat} {p : Nat → Bool} (h : ((List.range n).find? fun i => decide (1 ≤ i) && p i).getD 0 = 0) : ∀ j, 1 ≤ j → j < n → p j = false := by
  intro j hj hjn
  cases hf : (List.range n).find? fun i => decide (1 ≤ i) && p i with
  | none =>
    have := List.find?_eq_none.1 hf j (List.mem_range.2 hjn)
    simpa [hj] using this
  | some q =>
    rw [hf] at h
    have hq : q = 0 := h
    subst hq
    have := List.find?_some hf
    simp at this
end Go.Proofs.YthenefjoidckkaaGreatDoor

/- Entries that fit. -/
namespace Go.Proofs.YthenefjoidckkaaGreatDoor
open Go.RowKit
set_option linter.unusedVariables false

def EntsFit7 (l : List Ent) : Prop := (∀ x ∈ l, x.text.length ≤ 140737488355328) ∧ ∀ x ∈ l, EntFit x
theorem fit0 : EntFit ent0 := by
  refine ⟨?_, ?_, ?_, ?_⟩ <;> decide
theorem EntsFit7.more {l : List Ent} {x : Ent} (h : EntsFit7 l) (hx : EntFit x ∧ x.text.length ≤ 1000000) : EntsFit7 (withE l x) := by
  rw [withE_eq]
  refine ⟨fun y hy => ?_, fun y hy => ?_⟩
  · rcases List.mem_append.1 hy with hy | hy
    · exact h.1 y hy
    · split at hy
      · simp at hy
        rcases hy with rfl | rfl
        · omega
        · decide
      · simp at hy
        subst hy
        omega
  · rcases List.mem_append.1 hy with hy | hy
    · exact h.2 y hy
    · split at hy
      · simp at hy
        rcases hy with rfl | rfl
        · exact hx.1
        · exact fit0
      · simp at hy
        subst hy
        exact hx.1

end Go.Proofs.YthenefjoidckkaaGreatDoor

/- Pools as plain values: Put. -/
namespace Go.Proofs.YthenefjoidckkaaGreatDoor
open Go.RowKit
set_option linter.unusedVariables false

/-- L is l with entries more, whose tags are among these. -/
structure Ext (l L : List Ent) (S : Int → Prop) : Prop where
  ext : ∃ e, L = l ++ e
  right : rightL L
  tags : ∀ j : Nat, l.length ≤ j → j < L.length → S (atE L (j : Int)).tag
theorem Ext.refl {l : List Ent} (h : rightL l) (S : Int → Prop) : Ext l l S := ⟨⟨[], by simp⟩, h, fun j h1 h2 => by omega⟩
theorem Ext.len {l L : List Ent} {S : Int → Prop} (h : Ext l L S) : l.length ≤ L.length := by
  obtain ⟨e, rfl⟩ := h.ext
  simp
theorem Ext.mean {l L : List Ent} {S : Int → Prop} (h : Ext l L S) (hr : rightL l) {j : Nat} (hj : j < l.length) : meanP L (j : Int) = meanP l (j : Int) := by
  obtain ⟨e, rfl⟩ := h.ext
  exact meanP_keep e hr hj
theorem Ext.at {l L : List Ent} {S : Int → Prop} (h : Ext l L S) {i : Int} (hi : (atE l i).tag ≠ 0) : atE L i = atE l i := by
  obtain ⟨e, rfl⟩ := h.ext
  exact atE_keep e hi
theorem Ext.trans {l L M : List Ent} {S : Int → Prop} (h : Ext l L S) (h2 : Ext L M S) : Ext l M S := by
  obtain ⟨e, rfl⟩ := h.ext
  obtain ⟨e2, rfl⟩ := h2.ext
  refine ⟨⟨e ++ e2, by simp⟩, h2.right, fun j h3 h4 => ?_⟩
  by_cases hj : j < (l ++ e).length
  · rw [atE_left e2 hj]
    exact h.tags j h3 hj
  · exact h2.tags j (by omega) h4
theorem Ext.mono {l L : List Ent} {S S' : Int → Prop} (h : Ext l L S) (hs : ∀ t, S t → S' t) : Ext l L S' := ⟨h.ext, h.right, fun j h1 h2 => hs _ (h.tags j h1 h2)⟩

/-- A pool with what a constant wants. -/
structure Grown (l : List Ent) (c : Cst) : Prop where
  ext : Ext l (growP l c).1 (fun _ => True)
  pos : 1 ≤ (growP l c).2
  lt : (growP l c).2 < (growP l c).1.length
  mean : meanP (growP l c).1 ((growP l c).2 : Int) = c
  first : meansE l c = 0 → ∀ j : Nat, 1 ≤ j → j < (growP l c).2 → meanP (growP l c).1 (j : Int) ≠ c

end Go.Proofs.YthenefjoidckkaaGreatDoor

/- Pools as plain values: Put of a field or a method; what follows. -/
namespace Go.Proofs.YthenefjoidckkaaGreatDoor
open Go.RowKit
set_option linter.unusedVariables false

/-- What Put answers where it does: a pool that begins with what was there; its number means it, and is the first that does. -/
structure PutFine (l L : List Ent) (c : Cst) (k : Nat) : Prop where
  ext : ∃ e, L = l ++ e
  right : checkP L = true
  pos : 1 ≤ k
  lt : k < L.length
  mean : meanP L (k : Int) = c
  first : meansE L c = k
end Go.Proofs.YthenefjoidckkaaGreatDoor

/- The landed pool as plain values: entries right one by one; what an entry means, a name too; how Put grows a pool. -/
namespace Go.Proofs.YthenefjoidckkaaGreatDoor
open Go.RowKit
set_option linter.unusedVariables false

def gapE (l : List Ent) (i : Nat) : Bool := decide (i = 0) || decide ((atE l ((i : Int) - 1)).tag = 5)
def rightAt (l : List Ent) (i : Nat) : Bool :=
  if gapE l i = true then decide (atE l (i : Int) = ent0) else okE l (atE l (i : Int)) && (decide ((atE l (i : Int)).tag ≠ 5) || decide (i + 1 < l.length))
theorem gapE_succ (l : List Ent) (i : Nat) : gapE l (i + 1) = decide ((atE l (i : Int)).tag = 5) := by
  unfold gapE
  rw [show ((i + 1 : Nat) : Int) - 1 = (i : Int) by omega]
  simp
theorem drop_atE {l : List Ent} {k : Nat} (h : k < l.length) : l.drop k = atE l (k : Int) :: l.drop (k + 1) := by
  rw [atE_nat, List.getElem?_eq_getElem h]
  exact List.drop_eq_getElem_cons h
theorem right_fwd {l : List Ent} (h : ∀ i, i < l.length → rightAt l i = true) : ∀ m k, l.length - k ≤ m → gapE l k = false → goE l (l.drop k) = true := by
  intro m
  induction m using Nat.strongRecOn with
  | _ m ih =>
    intro k hm hg
    by_cases hk : k < l.length
    · have h1 := h k hk
      unfold rightAt at h1
      rw [if_neg (by rw [hg]; simp), Bool.and_eq_true] at h1
      rw [drop_atE hk]
      by_cases hk2 : k + 1 < l.length
      · rw [drop_atE hk2]
        by_cases h5 : (atE l (k : Int)).tag = 5
        · have g1 : gapE l (k + 1) = true := by rw [gapE_succ]; simpa using h5
          have h2 := h (k + 1) hk2
          unfold rightAt at h2
          rw [if_pos g1, decide_eq_true_eq] at h2
          have g2 : gapE l (k + 1 + 1) = false := by
            rw [gapE_succ, h2]
            rfl
          have := ih (l.length - (k + 1 + 1)) (by omega) (k + 1 + 1) (Nat.le_refl _) g2
          simp only [goE, h1.1, h5, if_true, h2, this]
          simp
        · have g1 : gapE l (k + 1) = false := by rw [gapE_succ]; simpa using h5
          have := ih (l.length - (k + 1)) (by omega) (k + 1) (Nat.le_refl _) g1
          rw [drop_atE hk2] at this
          simp only [goE, h1.1, if_neg h5, this]
          simp
      · rw [List.drop_of_length_le (by omega)]
        have := h1.2
        simp only [goE, h1.1]
        simpa [hk2] using this
    · rw [List.drop_of_length_le (by omega)]
      rfl
theorem right_bwd {l : List Ent} : ∀ m k, l.length - k ≤ m → gapE l k = false → goE l (l.drop k) = true → ∀ i, k ≤ i → i < l.length → rightAt l i = true := by
  intro m
  induction m using Nat.strongRecOn with
  | _ m ih =>
    intro k hm hg hgo i hki hi
    have hk : k < l.length := by omega
    rw [drop_atE hk] at hgo
    by_cases hk2 : k + 1 < l.length
    · rw [drop_atE hk2] at hgo
      simp only [goE, Bool.and_eq_true] at hgo
      obtain ⟨ho, hgo⟩ := hgo
      have hr : rightAt l k = true := by
        unfold rightAt
        rw [if_neg (by rw [hg]; simp), ho]
        simp [hk2]
      by_cases h5 : (atE l (k : Int)).tag = 5
      · rw [if_pos h5, Bool.and_eq_true, decide_eq_true_eq] at hgo
        have g1 : gapE l (k + 1) = true := by rw [gapE_succ]; simpa using h5
        have g2 : gapE l (k + 1 + 1) = false := by rw [gapE_succ, hgo.1]; rfl
        by_cases e1 : i = k
        · subst e1; exact hr
        by_cases e2 : i = k + 1
        · subst e2
          unfold rightAt
          rw [if_pos g1, decide_eq_true_eq]
          exact hgo.1
        exact ih (l.length - (k + 1 + 1)) (by omega) (k + 1 + 1) (Nat.le_refl _) g2 hgo.2 i (by omega) hi
      · rw [if_neg h5, ← drop_atE hk2] at hgo
        have g1 : gapE l (k + 1) = false := by rw [gapE_succ]; simpa using h5
        by_cases e1 : i = k
        · subst e1; exact hr
        exact ih (l.length - (k + 1)) (by omega) (k + 1) (Nat.le_refl _) g1 hgo i (by omega) hi
    · rw [List.drop_of_length_le (l := l) (i := k + 1) (by omega)] at hgo
      simp only [goE, Bool.and_eq_true, decide_eq_true_eq] at hgo
      have e1 : i = k := by omega
      subst e1
      unfold rightAt
      rw [if_neg (by rw [hg]; simp), hgo.1]
      simp [hgo.2]
theorem right_all {l : List Ent} (hl : 1 ≤ l.length) : (∀ i, i < l.length → rightAt l i = true) ↔ rightL l := by
  have h00 : atE l ((0 : Nat) : Int) = l[0]?.getD ent0 := atE_nat l 0
  constructor
  · intro h
    have h0 := h 0 (by omega)
    unfold rightAt at h0
    rw [if_pos (by rfl), decide_eq_true_eq] at h0
    have hg : gapE l 1 = false := by rw [gapE_succ, h0]; rfl
    refine ⟨?_, right_fwd h _ 1 (Nat.le_refl _) hg⟩
    rw [List.getElem?_eq_getElem (by omega)] at h00 ⊢
    rw [h00] at h0
    exact congrArg some h0
  · rintro ⟨h0, hgo⟩ i hi
    have h0' : atE l ((0 : Nat) : Int) = ent0 := by rw [h00, h0]; rfl
    have hg : gapE l 1 = false := by rw [gapE_succ, h0']; rfl
    by_cases e : i = 0
    · subst e
      unfold rightAt
      rw [if_pos (by rfl), decide_eq_true_eq]
      exact h0'
    · exact right_bwd _ 1 (Nat.le_refl _) hg hgo i (by omega) hi
theorem checkP_all (l : List Ent) : checkP l = true ↔ (1 ≤ l.length ∧ l.length ≤ 1024) ∧ ∀ i, i < l.length → rightAt l i = true := by
  rw [checkP_right]
  constructor
  · rintro ⟨h1, h2⟩
    exact ⟨h1, (right_all h1.1).2 h2⟩
  · rintro ⟨h1, h2⟩
    exact ⟨h1, (right_all h1.1).1 h2⟩

/-- What an entry has of all that it may have. -/
def justE (x : Ent) : Ent :=
  if x.tag = 1 then ⟨1, x.text, 0, 0, 0⟩
  else if x.tag = 3 ∨ x.tag = 5 then ⟨x.tag, [], x.n, 0, 0⟩
  else if x.tag = 9 ∨ x.tag = 10 ∨ x.tag = 12 then ⟨x.tag, [], 0, x.a, x.b⟩
  else if x.tag = 7 then ⟨7, [], 0, x.a, 0⟩
  else ent0
def leadsE (l : List Ent) (x : Ent) : Bool :=
  if x.tag = 9 ∨ x.tag = 10 then decide (tagE l x.a = 7) && decide (tagE l x.b = 12)
  else if x.tag = 12 then decide (tagE l x.b = 1) && decide (tagE l x.a = 1)
  else if x.tag = 7 then decide (tagE l x.a = 1)
  else true
def fitsE (t n : Int) : Bool := decide (t ≠ 3) || decide (-2147483648 ≤ n ∧ n ≤ 2147483647)
theorem okE_code (l : List Ent) (x : Ent) : okE l x = (decide (x.tag ≠ 0) && decide (x = justE x) && textB x.text && leadsE l x && fitsE x.tag x.n) := by
  obtain ⟨t, s, n, a, b⟩ := x
  have hnil : textB [] = true := by decide
  unfold okE justE leadsE fitsE eUtf
  simp only
  by_cases h1 : t = 1
  · subst h1
    simp
    rw [Bool.and_comm]
  by_cases h3 : t = 3
  · subst h3
    simp
    by_cases hs : s = []
    · subst hs
      rw [hnil]
      simp
      rw [Bool.and_comm]
    · simp [hs]
  by_cases h5 : t = 5
  · subst h5
    simp
    by_cases hs : s = []
    · subst hs; rw [hnil]; simp
    · simp [hs]
  by_cases h7 : t = 7
  · subst h7
    simp
    by_cases hs : s = []
    · subst hs; rw [hnil]; simp; rw [Bool.and_comm]
    · simp [hs]
  by_cases h12 : t = 12
  · subst h12
    simp
    by_cases hs : s = []
    · subst hs
      rw [hnil]
      simp
      rw [Bool.and_comm]
      congr 1
      rw [Bool.and_comm]
    · simp [hs]
  by_cases h9 : t = 9 ∨ t = 10
  · rcases h9 with rfl | rfl
    · simp
      by_cases hs : s = []
      · subst hs; rw [hnil]; simp; rw [Bool.and_comm]
      · simp [hs]
    · simp
      by_cases hs : s = []
      · subst hs; rw [hnil]; simp; rw [Bool.and_comm]
      · simp [hs]
  · have h9' : t ≠ 9 := fun e => h9 (.inl e)
    have h10 : t ≠ 10 := fun e => h9 (.inr e)
    simp [h1, h3, h5, h7, h12, h9', h10]
    intro h0
    exact fun e => absurd (congrArg Ent.tag e) h0

/-- What an entry means; of a name its two texts. -/
def meanN (l : List Ent) (x : Ent) : Cst :=
  if x.tag = 3 ∨ x.tag = 5 then ⟨x.tag, x.n, [], [], []⟩
  else if x.tag = 7 then ⟨7, 0, (atE l x.a).text, [], []⟩
  else if x.tag = 9 ∨ x.tag = 10 then ⟨x.tag, 0, (atE l (atE l x.a).a).text, (atE l (atE l x.b).a).text, (atE l (atE l x.b).b).text⟩
  else if x.tag = 12 then ⟨12, 0, [], (atE l x.a).text, (atE l x.b).text⟩
  else ⟨x.tag, 0, [], [], []⟩
theorem meanN_tag (l : List Ent) (x : Ent) : (meanN l x).tag = x.tag := by
  unfold meanN
  repeat' split
  all_goals first | rfl | (simp_all; done) | (rename_i h; simp [h])
theorem meanN_keep {l : List Ent} (e : List Ent) (h : rightL l) {x : Ent} (hx : x.tag = 0 ∨ okE l x = true) : meanN (l ++ e) x = meanN l x := by
  unfold meanN
  rcases hx with t | ho
  · simp [t]
  · rcases okE_tag ho with t | t | t | t | t | t | t <;> simp only [t] <;> unfold okE at ho <;> simp [t] at ho ⊢
    · rw [atE_keep e (by have := ho.1; unfold tagE at this; omega)]
    · obtain ⟨⟨h1, h2⟩, _⟩ := ho
      unfold tagE at h1 h2
      rw [atE_keep e (i := x.a) (by omega), atE_keep e (i := x.b) (by omega)]
      exact ⟨rfl, rfl⟩
    all_goals
      obtain ⟨⟨h1, h2⟩, _⟩ := ho
      unfold tagE at h1 h2
      have o1 := right_ok h (i := x.a) (by omega)
      have o2 := right_ok h (i := x.b) (by omega)
      rw [atE_keep e (i := x.a) (by omega), atE_keep e (i := x.b) (by omega)]
      unfold okE at o1 o2
      simp [h1] at o1
      simp [h2] at o2
      have q1 := o1.1
      have q2 := o2.1.1
      have q3 := o2.1.2
      unfold tagE at q1 q2 q3
      rw [atE_keep e (by omega), atE_keep e (by omega), atE_keep e (by omega)]
      exact ⟨rfl, rfl, rfl⟩
theorem right_or {l : List Ent} (h : rightL l) (i : Int) : (atE l i).tag = 0 ∨ okE l (atE l i) = true := by
  by_cases h0 : (atE l i).tag = 0
  · exact .inl h0
  · exact .inr (right_ok h h0)
theorem meanP_N {l : List Ent} {i : Int} {c : Cst} (ht : c.tag = 3 ∨ c.tag = 5 ∨ c.tag = 7 ∨ c.tag = 9 ∨ c.tag = 10) : meanP l i = c ↔ meanN l (atE l i) = c := by
  have hN := meanN_tag l (atE l i)
  by_cases hx : (atE l i).tag = 3 ∨ (atE l i).tag = 5 ∨ (atE l i).tag = 7 ∨ (atE l i).tag = 9 ∨ (atE l i).tag = 10
  · have : meanP l i = meanN l (atE l i) := by
      unfold meanP meanN
      rcases hx with t | t | t | t | t <;> simp [t]
    rw [this]
  · have : meanP l i = cst0 := by
      unfold meanP
      simp only
      rw [if_neg (by omega), if_neg (by omega), if_neg (by omega)]
    rw [this]
    constructor
    · intro e
      rw [← e] at ht
      simp [cst0] at ht
    · intro e
      rw [e] at hN
      omega

/-- The first number that means it; 0: none does. -/
def firstN (l : List Ent) (c : Cst) : Nat := ((List.range l.length).find? fun (i : Nat) => decide (1 ≤ i) && decide (meanN l (atE l (i : Int)) = c)).getD 0
theorem firstN_none {l : List Ent} {c : Cst} (h : firstN l c = 0) : ∀ j : Nat, 1 ≤ j → j < l.length → meanN l (atE l (j : Int)) ≠ c := fun j hj hl => by
  simpa using first_none (p := fun i => decide (meanN l (atE l (i : Int)) = c)) h j hj hl
def cCls (s : List UInt8) : Cst := ⟨7, 0, s, [], []⟩
def cNam (s t : List UInt8) : Cst := ⟨12, 0, [], s, t⟩
/-- A class, a name, a number: there, or behind. -/
def clsK (l : List Ent) (s : List UInt8) : List Ent × Nat :=
  if firstN l (cCls s) = 0 then (withE (addE l (eUtf s)).1 ⟨7, [], 0, ((addE l (eUtf s)).2 : Int), 0⟩, (addE l (eUtf s)).1.length) else (l, firstN l (cCls s))
def namK (l : List Ent) (s t : List UInt8) : List Ent × Nat :=
  if firstN l (cNam s t) = 0 then (withE (addE (addE l (eUtf s)).1 (eUtf t)).1 ⟨12, [], 0, ((addE l (eUtf s)).2 : Int), ((addE (addE l (eUtf s)).1 (eUtf t)).2 : Int)⟩, (addE (addE l (eUtf s)).1 (eUtf t)).1.length) else (l, firstN l (cNam s t))
def refK (l : List Ent) (c : Cst) : List Ent × Nat :=
  (withE (namK (clsK l c.cls).1 c.name c.type).1 ⟨c.tag, [], 0, ((clsK l c.cls).2 : Int), ((namK (clsK l c.cls).1 c.name c.type).2 : Int)⟩, (namK (clsK l c.cls).1 c.name c.type).1.length)
def numK (l : List Ent) (c : Cst) : List Ent × Nat :=
  if firstN l c ≠ 0 then (l, firstN l c)
  else if c.tag = 3 ∨ c.tag = 5 then (withE l ⟨c.tag, [], c.n, 0, 0⟩, l.length)
  else if c.tag = 7 then clsK l c.cls
  else refK l c
/-- What comes of growing: the number means it. -/
structure GN (l L : List Ent) (k : Nat) (c : Cst) (S : Int → Prop) : Prop where
  ext : Ext l L S
  pos : 1 ≤ k
  lt : k < L.length
  mean : meanN L (atE L (k : Int)) = c
theorem right_len {l : List Ent} (h : rightL l) : 1 ≤ l.length := by
  cases l with
  | nil => have := h.1; simp at this
  | cons y s => simp
theorem Ext.meanN {l L : List Ent} {S : Int → Prop} (h : Ext l L S) (hr : rightL l) {j : Nat} (hj : j < l.length) : meanN L (atE L (j : Int)) = meanN l (atE l (j : Int)) := by
  obtain ⟨e, rfl⟩ := h.ext
  rw [atE_left e hj]
  exact meanN_keep e hr (right_or hr _)
theorem withE_ext {L : List Ent} {x : Ent} (h : rightL L) (ho : okE L x = true) : Ext L (withE L x) (fun t => t = x.tag ∨ t = 0) ∧ L.length < (withE L x).length ∧ atE (withE L x) (L.length : Int) = x := by
  have hw := withE_eq L x
  have hlen := withE_len L x
  refine ⟨⟨⟨_, hw⟩, right_with h ho, fun j h1 h2 => ?_⟩, by omega, ?_⟩
  · rw [hw, atE_nat, List.getElem?_append_right h1]
    by_cases h5 : x.tag = 5
    · rw [if_pos h5]
      match j - L.length with
      | 0 => exact .inl rfl
      | 1 => exact .inr rfl
      | k + 2 => exact .inr rfl
    · rw [if_neg h5]
      match j - L.length with
      | 0 => exact .inl rfl
      | k + 1 => exact .inr rfl
  · rw [hw, atE_nat, List.getElem?_append_right (Nat.le_refl _), Nat.sub_self]
    split <;> rfl
/-- A new entry behind what has come of it. -/
theorem GN.new {l L : List Ent} {x : Ent} {c : Cst} {S : Int → Prop} (e : Ext l L S) (ho : okE L x = true) (hm : meanN L x = c) (h0 : S 0) (hx : S x.tag) : GN l (withE L x) L.length c S := by
  obtain ⟨w1, w2, w3⟩ := withE_ext e.right ho
  have W1 := w1.mono (S' := S) (fun t ht => by rcases ht with rfl | rfl <;> assumption)
  refine ⟨e.trans W1, right_len e.right, w2, ?_⟩
  rw [w3]
  obtain ⟨ex, hex⟩ := w1.ext
  rw [hex, meanN_keep ex e.right (.inr ho)]
  exact hm
/-- None ahead of it means it. -/
theorem GN.first {l L : List Ent} {c : Cst} {S : Int → Prop} (e : Ext l L S) (hr : rightL l) (hf : firstN l c = 0) (hS : ∀ t, S t → t ≠ c.tag) {x : Ent} {M : List Ent} (hM : ∃ z, M = L ++ z) : ∀ j : Nat, 1 ≤ j → j < L.length → meanN M (atE M (j : Int)) ≠ c := fun j h1 h2 => by
  obtain ⟨z, rfl⟩ := hM
  rw [atE_left z h2, meanN_keep z e.right (right_or e.right _)]
  by_cases hj : j < l.length
  · rw [e.meanN hr hj]
    exact firstN_none hf j h1 hj
  · intro he
    have t1 := e.tags j (by omega) h2
    have t2 := meanN_tag L (atE L (j : Int))
    rw [he] at t2
    exact hS _ t1 t2.symm

end Go.Proofs.YthenefjoidckkaaGreatDoor

/- The landed pool as plain values: what comes of Put. -/
namespace Go.Proofs.YthenefjoidckkaaGreatDoor
open Go.RowKit
set_option linter.unusedVariables false

/-- What the program's Put comes to, where it grows a pool or finds the number. -/
structure NumFine (l : List Ent) (c : Cst) : Prop where
  ext : ∃ e, (numK l c).1 = l ++ e
  right : rightL (numK l c).1
  pos : 1 ≤ (numK l c).2
  lt : (numK l c).2 < (numK l c).1.length
  mean : meanP (numK l c).1 ((numK l c).2 : Int) = c
  first : meansE (numK l c).1 c = (numK l c).2
end Go.Proofs.YthenefjoidckkaaGreatDoor
