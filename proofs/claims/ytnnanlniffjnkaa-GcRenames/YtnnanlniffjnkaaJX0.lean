/- Joined: BsA WdA PlA BsB PlM PlB PlC PlD PlE. -/
import Derived.Test.YtnnanlniffjnkaaProg
import Derived.WalkKit
import Derived.WalkSpells
import Derived.WalkLawsBesides
import Derived.BigQuiet
import Derived.Deep.MidRow
import Derived.Deep.WholeRow
import Derived.Laws.AppendOwnNone
import Derived.Deep.AppendLies
import Derived.Deep.RegionHeldLaw
import Derived.Great.BuildSlice
import Derived.Laws.BitsAllLaws

/- What every layer's texts stand on: bytes in memory, copies of one's own, Among. -/
namespace Go.Proofs.Ytnnanlniffjnkaa
open Go.RowKit
set_option linter.unusedVariables false

theorem hide {p : Prop} (h : p) : Hid p := h

theorem unhide {p : Prop} (h : Hid p) : p := h

theorem cell_alloc {w : World} {a : Addr} {v : Value} (h : w.cell? a = some v) (ob : Obj) : (w.alloc ob).cell? a = some v := by
  rw [World.cell?_alloc_lt _ _ _ (World.block_lt_of_cell? w _ h)]; exact h

def bv (l : List UInt8) : List Value := l.map fun b => Value.int .u8 (b.toNat : Int)

theorem bv_length (l : List UInt8) : (bv l).length = l.length := by simp [bv]

theorem bv_one (l : List UInt8) : ∀ v ∈ bv l, v.oneCell' = true := by
  intro v hv
  simp only [bv, List.mem_map] at hv
  obtain ⟨b, _, rfl⟩ := hv
  rfl

theorem bv_append (a b : List UInt8) : bv (a ++ b) = bv a ++ bv b := by simp [bv]

theorem lt_of_heap {w : World} {k : Nat} {o : Obj} (h : w.heap[k]? = some o) : k < w.heap.size := (Array.getElem?_eq_some_iff.1 h).1

theorem own_of_block {w w' : World} {B : Nat} {e : TypeId} {size n : Nat} {v : Value} {xs : List Value} (h : w.ownsRow B e size v n xs) (hk : ∀ k, v.ownBlock = some k → w'.heap[k]? = w.heap[k]?) : w'.ownsRow B e size v n xs := by
  refine ⟨h.1, ?_⟩
  rcases h.2 with h2 | ⟨q, cap, cur, rfl, hb, hq, r⟩
  · exact .inl h2
  · exact .inr ⟨q, cap, cur, rfl, hb, by rw [hk q rfl]; exact hq, r⟩

theorem ret_int {k : IntKind} {a b : Int} (h : a = b) : Ending.returned (.int k a) = .returned (.int k b) := by rw [h]

/-- A number as one from 0 to n - 1. -/
def among (x : Int) (n : Nat) : Nat := ((x % 18446744073709551616) % (n : Int)).toNat

theorem among_lt (x : Int) (n : Nat) (hn : 1 ≤ n) : among x n < n := by
  unfold among
  have := Int.emod_lt_of_pos (x % 18446744073709551616) (show (0 : Int) < n by omega)
  have := Int.emod_nonneg (x % 18446744073709551616) (show (n : Int) ≠ 0 by omega)
  omega

theorem among_eq (x : Int) (n : Nat) (hn : 1 ≤ n) (hn' : (n : Int) ≤ 9223372036854775807) : wrap64 ((IntKind.u64.wrap x).tmod n) = (among x n : Int) := by
  have h0 : 0 ≤ x % 18446744073709551616 := Int.emod_nonneg _ (by decide)
  rw [IntKind.wrap_u64, Int.tmod_eq_emod_of_nonneg h0]
  have h1 := Int.emod_lt_of_pos (x % 18446744073709551616) (show (0 : Int) < n by omega)
  have h2 := Int.emod_nonneg (x % 18446744073709551616) (show (n : Int) ≠ 0 by omega)
  unfold among
  rw [Int.toNat_of_nonneg h2]
  unfold wrap64
  omega

/-- At address a lie the bytes l. -/
def BytesAt (w : World) (a : Option Addr) (l : List UInt8) : Prop := (a = none → l = []) ∧ ∀ ad, a = some ad → ∀ j u, (bv l)[j]? = some u → w.cell? (ad.add j) = some u

theorem foldl_push (l : List UInt8) : ∀ (s : ByteArray), ((l.map fun b => (b.toNat : Int)).foldl (fun r n => r.push (UInt8.ofNat n.toNat)) s) = ⟨s.data ++ l.toArray⟩ := by
  induction l with
  | nil => intro s; simp
  | cons x l ih =>
    intro s
    simp only [List.map_cons, List.foldl_cons]
    rw [ih]
    have : UInt8.ofNat (Int.toNat (x.toNat : Int)) = x := by simp
    rw [this]
    apply ByteArray.ext
    simp [ByteArray.push]

theorem bytes_of_block {w : World} {q : Nat} {l : List UInt8} {e : TypeId} {f : Nat × Nat} (h : w.heap[q]? = some (.cells (bv l).toArray e f)) : BytesAt w (some ⟨q, 0, none⟩) l :=
  ⟨(fun h => by cases h), fun ad e => by injection e with e; subst e; exact World.news_of_block h⟩

set_option maxHeartbeats 400000 in
theorem Among_any (w : World) (x : Int) (n : Nat) (hn : 1 ≤ n) (hn' : (n : Int) ≤ 9223372036854775807) :
    Calls Try.prog 26 #[.int .i64 x, .int .i64 n] w fun e w' => e = .returned (.int .i64 (among x n)) ∧ w' = w := by
  have h := among_eq x n hn hn'
  have H := hide h
  clear h
  go_enter Try.func26, Try.ntmps26
  go_wp2
  go_ret
  exact ⟨ret_int (unhide H), rfl⟩

theorem own_form {w : World} {base : Nat} {e : TypeId} {v : Value} {n : Nat} {xs : List Value} (h : w.ownsRow base e 1 v n xs) : ∃ a c, v = .slice a n c ∧ (0 < n → ∃ q, a = some ⟨q, 0, none⟩ ∧ ∀ j u, xs[j]? = some u → w.cell? ⟨q, j, none⟩ = some u) := by
  rcases h.2 with ⟨rfl, rfl⟩ | ⟨q, cap, cur, rfl, _⟩
  · exact ⟨none, 0, rfl, fun h => by omega⟩
  · refine ⟨_, cap, rfl, fun _ => ⟨q, rfl, fun j u hu => ?_⟩⟩
    have := h.cells (g := q) rfl j u hu
    rw [Addr.add_mid, Nat.zero_add] at this
    exact this

theorem own_below {w w' : World} {base n : Nat} {e : TypeId} {v : Value} {xs : List Value} (h : w.ownsRow base e 1 v n xs) (f : Below w.heap.size w w') : w'.ownsRow base e 1 v n xs :=
  own_of_block h (fun k hk => f.block k (h.lt k hk).2)

theorem own_bytes {w : World} {base n c : Nat} {a : Option Addr} {l : List UInt8} (h : w.ownsRow base 5 1 (.slice a n c) n (bv l)) : BytesAt w a l := by
  rcases h.2 with ⟨e, h0⟩ | ⟨q, cap, cur, e, _⟩
  · have := h.1
    rw [bv_length, h0] at this
    have e2 : l = [] := List.eq_nil_of_length_eq_zero (by simpa using this)
    injection e with ea _ _
    subst ea
    exact ⟨fun _ => e2, fun ad e3 => by cases e3⟩
  · injection e with ea _ _
    subst ea
    refine ⟨(fun e3 => by cases e3), fun ad e3 => ?_⟩
    injection e3 with e4
    subst e4
    exact h.cells (g := q) rfl

theorem infoB : (Try.prog.info? 5).map (fun i => (i.zero, i.size, i.bytes)) = some (some (.int .u8 0), 1, 1) := by kernel_rfl

/-- A slice of bytes that came in, or is one's own. -/
def BytesOf (w : World) (a : Option Addr) (n c : Nat) (l : List UInt8) : Prop := l.length = n ∧ n ≤ c ∧ c ≤ 9223372036854775807 ∧ ((a = none ∧ n = 0 ∧ c = 0) ∨ ∃ b o, a = some ⟨b, o, none⟩ ∧ BytesAt w (some ⟨b, o, none⟩) l) ∨ (l.length = n ∧ n = 0 ∧ c ≤ 9223372036854775807 ∧ ∃ ad, a = some ad)

theorem BytesAt.below {w w' : World} {a : Option Addr} {l : List UInt8} (h : BytesAt w a l) (hb : Below w.heap.size w w') : BytesAt w' a l :=
  ⟨h.1, fun ad e j u hu => by
    have h1 := h.2 ad e j u hu
    have hlt := World.block_lt_of_cell? w _ h1
    exact (hb.cell hlt).trans h1⟩

theorem BytesOf.at {w : World} {a : Option Addr} {n c : Nat} {l : List UInt8} (h : BytesOf w a n c l) : BytesAt w a l := by
  rcases h with ⟨hn, _, _, ⟨rfl, rfl, rfl⟩ | ⟨b, o, rfl, h⟩⟩ | ⟨hn, rfl, _, ad, rfl⟩
  · exact ⟨fun _ => List.eq_nil_of_length_eq_zero hn, fun ad e => by cases e⟩
  · exact h
  · obtain rfl : l = [] := List.eq_nil_of_length_eq_zero hn
    exact ⟨fun _ => rfl, fun _ _ j u hu => by simp [bv] at hu⟩

theorem BytesOf.len {w : World} {a : Option Addr} {n c : Nat} {l : List UInt8} (h : BytesOf w a n c l) : l.length = n := by
  rcases h with h | h
  · exact h.1
  · exact h.1

theorem own_cell {w : World} {base q n c k : Nat} {xs : List Value} (h : w.ownsRow base 5 1 (.slice (some ⟨q, 0, none⟩) n c) n xs) (hk : k < n) : (∃ u, w.cell? ⟨q, k, none⟩ = some u) ∧ w.frozen? ⟨q, k, none⟩ = false := by
  rcases h.2 with ⟨e1, _⟩ | ⟨q', cap', cur, e1, _, hq, h3, _, h5, _⟩
  · cases e1
  · injection e1 with e2 _ e3; injection e2 with e2; injection e2 with e2
    subst e2; subst e3
    exact ⟨⟨cur[k]'(by omega), by rw [cell_of_row _ _ _ _ _ _ hq, Array.getElem?_eq_getElem (by omega)]⟩, frozen_of_row _ _ _ _ _ hq⟩

end Go.Proofs.Ytnnanlniffjnkaa

/- Numbers in bytes, as plain values. -/
namespace Go.Proofs.Ytnnanlniffjnkaa
open Go.RowKit
set_option linter.unusedVariables false

/-- The number that bytes are, the highest first. -/
def numB (l : List UInt8) : Nat := l.foldl (fun a x => a * 256 + x.toNat) 0
theorem numB_from (l : List UInt8) : ∀ a, l.foldl (fun a x => a * 256 + x.toNat) a = a * 256 ^ l.length + numB l := by
  unfold numB
  induction l with
  | nil => intro a; simp
  | cons x l ih =>
    intro a
    rw [List.foldl_cons, List.foldl_cons, ih, ih (0 * 256 + x.toNat)]
    simp only [List.length_cons, Nat.pow_succ]
    rw [Nat.add_mul, Nat.mul_assoc, Nat.mul_comm 256 (256 ^ l.length), Nat.zero_mul, Nat.zero_add]
    omega
theorem numB_snoc (l : List UInt8) (x : UInt8) : numB (l ++ [x]) = numB l * 256 + x.toNat := by
  unfold numB
  rw [List.foldl_append]
  rfl
theorem snoc_ind {P : List UInt8 → Prop} (h0 : P []) (h1 : ∀ l x, P l → P (l ++ [x])) (l : List UInt8) : P l := by
  have h : ∀ l : List UInt8, P l.reverse := fun l => by
    induction l with
    | nil => exact h0
    | cons x l ih => rw [List.reverse_cons]; exact h1 _ _ ih
  have := h l.reverse
  rwa [List.reverse_reverse] at this
theorem numB_lt (l : List UInt8) : numB l < 256 ^ l.length := by
  refine snoc_ind (P := fun l => numB l < 256 ^ l.length) (by simp [numB]) (fun l x ih => ?_) l
  · rw [numB_snoc, List.length_append, List.length_singleton, Nat.pow_succ]
    have := x.toNat_lt
    omega
/-- A number's bytes, so many. -/
def beK : Nat → Nat → List UInt8
  | 0, _ => []
  | k + 1, x => beK k (x / 256) ++ [UInt8.ofNat x]
theorem beK_len (k : Nat) : ∀ x, (beK k x).length = k := by
  induction k with
  | zero => intro x; rfl
  | succ k ih => intro x; rw [beK, List.length_append, ih, List.length_singleton]
theorem numB_beK (k : Nat) : ∀ x, numB (beK k x) = x % 256 ^ k := by
  induction k with
  | zero => intro x; rw [beK, Nat.pow_zero, Nat.mod_one]; rfl
  | succ k ih =>
    intro x
    rw [beK, numB_snoc, ih, Nat.pow_succ, Nat.mul_comm (256 ^ k) 256, Nat.mod_mul]
    have : (UInt8.ofNat x).toNat = x % 256 := by simp
    omega
/-- Bytes are those of their number. -/
theorem beK_numB (l : List UInt8) : beK l.length (numB l) = l := by
  refine snoc_ind (P := fun l => beK l.length (numB l) = l) rfl (fun l x ih => ?_) l
  · rw [List.length_append, List.length_singleton, beK, numB_snoc]
    have hx := x.toNat_lt
    have h1 : (numB l * 256 + x.toNat) / 256 = numB l := by omega
    have h2 : UInt8.ofNat (numB l * 256 + x.toNat) = x := by
      apply UInt8.toNat_inj.1
      simp
    rw [h1, h2, ih]

def wide (k : Int) : Prop := k = 1 ∨ k = 2 ∨ k = 4 ∨ k = 8
instance (k : Int) : Decidable (wide k) := by unfold wide; infer_instance
/-- Does a number fit so many bytes? -/
def fitsW (k n : Int) (sg : Bool) : Prop := wide k ∧ (if k = 8 then sg = true ∨ 0 ≤ n else if sg = true then -((256 ^ k.toNat : Nat) : Int) ≤ 2 * n ∧ 2 * n < ((256 ^ k.toNat : Nat) : Int) else 0 ≤ n ∧ n < ((256 ^ k.toNat : Nat) : Int))
instance (k n : Int) (sg : Bool) : Decidable (fitsW k n sg) := by unfold fitsW; infer_instance
def bytesW (k n : Int) : List UInt8 := beK k.toNat (n % 18446744073709551616).toNat
theorem bytesW_len (k n : Int) : (bytesW k n).length = k.toNat := beK_len _ _
/-- What bytes tell; none: it is too great. -/
def valW (l : List UInt8) (sg : Bool) : Option Int :=
  if l.length = 8 then
    if sg = true then some (if numB l < 9223372036854775808 then (numB l : Int) else (numB l : Int) - 18446744073709551616)
    else if numB l < 9223372036854775808 then some (numB l : Int) else none
  else if sg = true ∧ 256 ^ l.length ≤ 2 * numB l then some ((numB l : Int) - ((256 ^ l.length : Nat) : Int)) else some (numB l : Int)
theorem wide_nat {k : Int} (h : wide k) : ∃ m : Nat, k = m ∧ (m = 1 ∨ m = 2 ∨ m = 4 ∨ m = 8) := by
  rcases h with rfl | rfl | rfl | rfl
  · exact ⟨1, rfl, by simp⟩
  · exact ⟨2, rfl, by simp⟩
  · exact ⟨4, rfl, by simp⟩
  · exact ⟨8, rfl, by simp⟩
/-- What is written is read. -/
theorem val_bytes {k n : Int} {sg : Bool} (h : fitsW k n sg) (hn : -9223372036854775808 ≤ n ∧ n ≤ 9223372036854775807) : valW (bytesW k n) sg = some n := by
  obtain ⟨hw, hf⟩ := h
  unfold valW
  rw [bytesW_len]
  unfold bytesW
  rw [numB_beK]
  rcases hw with rfl | rfl | rfl | rfl
  · rw [if_neg (by decide)] at hf
    cases sg with
    | false =>
      simp at hf ⊢
      omega
    | true =>
      simp at hf ⊢
      split
      · congr 1; omega
      · congr 1; omega
  · rw [if_neg (by decide)] at hf
    cases sg with
    | false =>
      simp at hf ⊢
      omega
    | true =>
      simp at hf ⊢
      split
      · congr 1; omega
      · congr 1; omega
  · rw [if_neg (by decide)] at hf
    cases sg with
    | false =>
      simp at hf ⊢
      omega
    | true =>
      simp at hf ⊢
      split
      · congr 1; omega
      · congr 1; omega
  · rw [if_pos rfl] at hf
    cases sg with
    | false =>
      simp at hf ⊢
      omega
    | true =>
      simp at hf ⊢
      split
      · omega
      · omega

/-- Read: the value, the error, where the reader stands then. -/
def getW (bs : List UInt8) (i : Nat) (k : Int) (sg : Bool) : Int × Int × Nat :=
  if wide k then
    if (bs.length : Int) - i < k then (0, 7, i)
    else match valW ((bs.drop i).take k.toNat) sg with
      | none => (0, 3, i)
      | some n => (n, 0, i + k.toNat)
  else (0, 2, i)
def takeW (bs : List UInt8) (i : Nat) (n : Int) : List UInt8 × Int × Nat :=
  if n < 0 then ([], 2, i) else if (bs.length : Int) - i < n then ([], 7, i) else ((bs.drop i).take n.toNat, 0, i + n.toNat)
def putW (bs : List UInt8) (k : Int) (sg : Bool) (l : List Int) : List UInt8 × Int :=
  if wide k ∧ ∀ n ∈ l, fitsW k n sg then (bs ++ l.flatMap (bytesW k), 0) else (bs, 2)
def patchW (bs : List UInt8) (at_ k n : Int) : List UInt8 × Int :=
  if fitsW k n false ∧ 0 ≤ at_ ∧ at_ ≤ (bs.length : Int) - k then (bs.take at_.toNat ++ bytesW k n ++ bs.drop (at_.toNat + k.toNat), 0) else (bs, 2)
theorem getW_le {bs : List UInt8} {i : Nat} {k : Int} {sg : Bool} (h : i ≤ bs.length) : (getW bs i k sg).2.2 ≤ bs.length := by
  unfold getW
  split
  · rename_i hw
    obtain ⟨m, rfl, _⟩ := wide_nat hw
    split
    · exact h
    · split
      · exact h
      · show i + (m : Int).toNat ≤ bs.length
        omega
  · exact h
theorem takeW_le {bs : List UInt8} {i : Nat} {n : Int} (h : i ≤ bs.length) : (takeW bs i n).2.2 ≤ bs.length := by
  unfold takeW
  split
  · exact h
  · split
    · exact h
    · show i + n.toNat ≤ bs.length
      omega

end Go.Proofs.Ytnnanlniffjnkaa

/- Pools as plain values: entries, constants; right, read, written, meant, put. -/
namespace Go.Proofs.Ytnnanlniffjnkaa
open Go.RowKit
set_option linter.unusedVariables false

structure Ent where
  tag : Int
  text : List UInt8
  n : Int
  a : Int
  b : Int
structure Cst where
  tag : Int
  n : Int
  cls : List UInt8
  name : List UInt8
  type : List UInt8
theorem Ent.eq_iff (x y : Ent) : (x.tag = y.tag ∧ x.text = y.text ∧ x.n = y.n ∧ x.a = y.a ∧ x.b = y.b) ↔ x = y := by
  obtain ⟨a, b, c, d, e⟩ := x
  obtain ⟨a', b', c', d', e'⟩ := y
  constructor
  · rintro ⟨h1, h2, h3, h4, h5⟩
    simp only at h1 h2 h3 h4 h5
    subst h1 h2 h3 h4 h5
    rfl
  · intro h
    injection h with h1 h2 h3 h4 h5
    exact ⟨h1, h2, h3, h4, h5⟩
theorem Cst.eq_iff (x y : Cst) : (x.tag = y.tag ∧ x.n = y.n ∧ x.cls = y.cls ∧ x.name = y.name ∧ x.type = y.type) ↔ x = y := by
  obtain ⟨a, b, c, d, e⟩ := x
  obtain ⟨a', b', c', d', e'⟩ := y
  constructor
  · rintro ⟨h1, h2, h3, h4, h5⟩
    simp only at h1 h2 h3 h4 h5
    subst h1 h2 h3 h4 h5
    rfl
  · intro h
    injection h with h1 h2 h3 h4 h5
    exact ⟨h1, h2, h3, h4, h5⟩
instance : DecidableEq Ent := fun x y => decidable_of_iff _ (Ent.eq_iff x y)
instance : DecidableEq Cst := fun x y => decidable_of_iff _ (Cst.eq_iff x y)
def ent0 : Ent := ⟨0, [], 0, 0, 0⟩
def cst0 : Cst := ⟨0, 0, [], [], []⟩
def eUtf (s : List UInt8) : Ent := ⟨1, s, 0, 0, 0⟩
def textB (s : List UInt8) : Bool := s.all (fun x => decide (33 ≤ x.toNat) && decide (x.toNat ≤ 126)) && decide (s.length ≤ 255)
def atE (l : List Ent) (i : Int) : Ent := if 0 ≤ i then l[i.toNat]?.getD ent0 else ent0
def tagE (l : List Ent) (i : Int) : Int := (atE l i).tag
/-- An entry that may stand in a pool. -/
def okE (l : List Ent) (x : Ent) : Bool :=
  if x.tag = 1 then textB x.text && decide (x = eUtf x.text)
  else if x.tag = 3 then decide (-2147483648 ≤ x.n ∧ x.n ≤ 2147483647) && decide (x = ⟨3, [], x.n, 0, 0⟩)
  else if x.tag = 5 then decide (x = ⟨5, [], x.n, 0, 0⟩)
  else if x.tag = 7 then decide (tagE l x.a = 1) && decide (x = ⟨7, [], 0, x.a, 0⟩)
  else if x.tag = 12 then decide (tagE l x.a = 1 ∧ tagE l x.b = 1) && decide (x = ⟨12, [], 0, x.a, x.b⟩)
  else if x.tag = 9 ∨ x.tag = 10 then decide (tagE l x.a = 7 ∧ tagE l x.b = 12) && decide (x = ⟨x.tag, [], 0, x.a, x.b⟩)
  else false
/-- Entries, one behind the other; behind a long a zero entry. -/
def goE (l : List Ent) : List Ent → Bool
  | [] => true
  | [x] => okE l x && decide (x.tag ≠ 5)
  | x :: z :: r => okE l x && (if x.tag = 5 then decide (z = ent0) && goE l r else goE l (z :: r))
def checkP (l : List Ent) : Bool := decide (1 ≤ l.length ∧ l.length ≤ 1024) && decide (l[0]? = some ent0) && goE l (l.drop 1)

/-- An entry's bytes. -/
def bodyE (x : Ent) : List UInt8 :=
  if x.tag = 1 then bytesW 2 x.text.length ++ x.text
  else if x.tag = 3 then bytesW 4 x.n
  else if x.tag = 5 then bytesW 8 x.n
  else if x.tag = 7 then bytesW 2 x.a
  else bytesW 2 x.a ++ bytesW 2 x.b
def bytesE (x : Ent) : List UInt8 := if x.tag = 0 then [] else UInt8.ofNat x.tag.toNat :: bodyE x
def bytesP (l : List Ent) : List UInt8 := bytesW 2 l.length ++ (l.drop 1).flatMap bytesE

/-- The entry whose bytes come: what it is, the error, the place then. -/
def entR (bs : List UInt8) (i : Nat) : Ent × Int × Nat :=
  let g := getW bs i 1 false
  let x : Ent := ⟨g.1, [], 0, 0, 0⟩
  if g.2.1 ≠ 0 then (x, g.2)
  else if g.1 = 1 then
    let k := getW bs g.2.2 2 false
    if k.2.1 ≠ 0 then (x, k.2) else
      let t := takeW bs k.2.2 k.1
      ({ x with text := t.1 }, t.2)
  else if g.1 = 3 then let k := getW bs g.2.2 4 true; ({ x with n := k.1 }, k.2)
  else if g.1 = 5 then let k := getW bs g.2.2 8 true; ({ x with n := k.1 }, k.2)
  else if g.1 = 7 then let k := getW bs g.2.2 2 false; ({ x with a := k.1 }, k.2)
  else if g.1 = 9 ∨ g.1 = 10 ∨ g.1 = 12 then
    let k := getW bs g.2.2 2 false
    if k.2.1 ≠ 0 then ({ x with a := k.1 }, k.2) else
      let m := getW bs k.2.2 2 false
      ({ x with a := k.1, b := m.1 }, m.2)
  else (x, 70, g.2.2)
/-- An entry more, behind a long with its zero. -/
def withE (l : List Ent) (x : Ent) : List Ent := if x.tag = 5 then l ++ [x, ent0] else l ++ [x]
/-- Entries till there are n: the list, the error, the place then. -/
def entsR (bs : List UInt8) (n : Nat) : Nat → List Ent → Nat → List Ent × Int × Nat
  | 0, l, i => (l, 0, i)
  | f + 1, l, i => if n ≤ l.length then (l, 0, i) else
      let x := entR bs i
      if x.2.1 ≠ 0 then (l, x.2) else entsR bs n f (withE l x.1) x.2.2
/-- The pool whose bytes come. -/
def readP (bs : List UInt8) (i : Nat) : List Ent × Int × Nat :=
  let g := getW bs i 2 false
  if g.2.1 ≠ 0 then ([], g.2)
  else if g.1 < 1 ∨ 1024 < g.1 then ([], 70, g.2.2)
  else
    let r := entsR bs g.1.toNat g.1.toNat [ent0] g.2.2
    if r.2.1 ≠ 0 then ([], r.2)
    else if g.1 < r.1.length ∨ checkP r.1 = false then ([], 70, r.2.2)
    else r

/-- What an entry means; none: nothing. -/
def meanP (l : List Ent) (i : Int) : Cst :=
  let x := atE l i
  if x.tag = 3 ∨ x.tag = 5 then ⟨x.tag, x.n, [], [], []⟩
  else if x.tag = 7 then ⟨7, 0, (atE l x.a).text, [], []⟩
  else if x.tag = 9 ∨ x.tag = 10 then ⟨x.tag, 0, (atE l (atE l x.a).a).text, (atE l (atE l x.b).a).text, (atE l (atE l x.b).b).text⟩
  else cst0
def textP (l : List Ent) (i : Int) : List UInt8 × Int := if checkP l = false then ([], 70) else if tagE l i ≠ 1 then ([], 2) else ((atE l i).text, 0)
def constP (l : List Ent) (i : Int) : Cst × Int := if checkP l = false then (cst0, 70) else if (meanP l i).tag = 0 then (cst0, 2) else (meanP l i, 0)
/-- The first number of an entry; 0: there is none. -/
def findE (l : List Ent) (x : Ent) : Nat := ((List.range l.length).find? fun i => decide (1 ≤ i) && decide (l[i]? = some x)).getD 0
def addE (l : List Ent) (x : Ent) : List Ent × Nat := if findE l x = 0 then (withE l x, l.length) else (l, findE l x)
def rightC (c : Cst) : Bool :=
  if c.tag = 3 then decide (c = ⟨3, c.n, [], [], []⟩) && decide (-2147483648 ≤ c.n ∧ c.n ≤ 2147483647)
  else if c.tag = 5 then decide (c = ⟨5, c.n, [], [], []⟩)
  else if c.tag = 7 then decide (c = ⟨7, 0, c.cls, [], []⟩) && textB c.cls
  else if c.tag = 9 ∨ c.tag = 10 then decide (c.n = 0) && textB c.cls && textB c.name && textB c.type
  else false
/-- The first number that means a constant; 0: none does. -/
def meansE (l : List Ent) (c : Cst) : Nat := ((List.range l.length).find? fun (i : Nat) => decide (1 ≤ i) && decide (meanP l (i : Int) = c)).getD 0
/-- A pool with what a constant wants. -/
def growP (l : List Ent) (c : Cst) : List Ent × Nat :=
  if c.tag = 3 ∨ c.tag = 5 then addE l ⟨c.tag, [], c.n, 0, 0⟩
  else if c.tag = 7 then
    let t := addE l (eUtf c.cls)
    addE t.1 ⟨7, [], 0, t.2, 0⟩
  else
    let t := addE l (eUtf c.cls)
    let k := addE t.1 ⟨7, [], 0, t.2, 0⟩
    let n := addE k.1 (eUtf c.name)
    let y := addE n.1 (eUtf c.type)
    let z := addE y.1 ⟨12, [], 0, n.2, y.2⟩
    addE z.1 ⟨c.tag, [], 0, k.2, z.2⟩
def putP (l : List Ent) (c : Cst) : List Ent × Int × Int :=
  if checkP l = false then ([], 0, 70)
  else if rightC c = false then ([], 0, 2)
  else if meansE l c ≠ 0 then (l, meansE l c, 0)
  else if 1024 < (growP l c).1.length then ([], 0, 3)
  else ((growP l c).1, (growP l c).2, 0)

end Go.Proofs.Ytnnanlniffjnkaa

/- Slices of bytes that came in, or are one's own: read, copied, cut. -/
namespace Go.Proofs.Ytnnanlniffjnkaa
open Go.RowKit
set_option linter.unusedVariables false

theorem bA {a w : World} (h : Below a.heap.size a w) (o : Obj) : Below a.heap.size a (w.alloc o) := h.alloc h.size o
theorem bT {a X Y : World} (k : Below X.heap.size X Y) (h : Below a.heap.size a X) : Below a.heap.size a Y := h.trans (k.mono h.size)

theorem gen_below {w w' : World} {base n size : Nat} {e : TypeId} {v : Value} {xs : List Value} (h : w.ownsRow base e size v n xs) (f : Below w.heap.size w w') : w'.ownsRow base e size v n xs :=
  own_of_block h (fun k hk => f.block k (h.lt k hk).2)

/-- A slice of the bytes l. -/
def Bs (w : World) (a : Option Addr) (n : Nat) (l : List UInt8) : Prop := l.length = n ∧ (n = 0 ∨ ∃ b o, a = some ⟨b, o, none⟩ ∧ BytesAt w (some ⟨b, o, none⟩) l)

theorem Bs.below {w w' : World} {a : Option Addr} {n : Nat} {l : List UInt8} (h : Bs w a n l) (f : Below w.heap.size w w') : Bs w' a n l := by
  rcases h with ⟨h1, h2 | ⟨b, o, e, h2⟩⟩
  · exact ⟨h1, .inl h2⟩
  · exact ⟨h1, .inr ⟨b, o, e, h2.below f⟩⟩

theorem Bs.at {w : World} {a : Option Addr} {n : Nat} {l : List UInt8} (h : Bs w a n l) : BytesAt w a l := by
  rcases h with ⟨h1, h2 | ⟨b, o, e, h2⟩⟩
  · have : l = [] := List.eq_nil_of_length_eq_zero (by omega)
    subst this
    exact ⟨fun _ => rfl, fun ad e j u hu => by simp [bv] at hu⟩
  · rw [e]; exact h2

theorem bs_of_own {w : World} {base n c : Nat} {a : Option Addr} {l : List UInt8} (hn : l.length = n) (h : w.ownsRow base 5 1 (.slice a n c) n (bv l)) : Bs w a n l := by
  have hb := own_bytes h
  rcases h.2 with ⟨e, h0⟩ | ⟨q, cap, cur, e, _⟩
  · exact ⟨hn, .inl (by omega)⟩
  · injection e with e
    subst e
    exact ⟨hn, .inr ⟨q, 0, rfl, hb⟩⟩

theorem bytes_get {w : World} {b o : Nat} {l : List UInt8} (h : BytesAt w (some ⟨b, o, none⟩) l) {k : Nat} (hk : k < l.length) : w.cell? ⟨b, o + k, none⟩ = some (.int .u8 (l[k].toNat : Int)) := by
  have := h.2 _ rfl k (.int .u8 (l[k].toNat : Int)) (by simp [bv, hk])
  simpa [Addr.add_mid] using this

theorem ret_bool {a b : Bool} (h : a = b) : Ending.returned (.bool a) = .returned (.bool b) := by rw [h]

theorem bytes_drew {w : World} {a : Option Addr} {l : List UInt8} (h : BytesAt w a l) : BytesAt w.drew a l := h

theorem bytes_take {w : World} {a : Option Addr} {l : List UInt8} (h : BytesAt w a l) (k : Nat) : BytesAt w a (l.take k) :=
  ⟨fun e => by rw [h.1 e]; simp, fun ad e j u hu => h.2 ad e j u (by
    simp only [bv, List.map_take, List.getElem?_take] at hu ⊢
    split at hu
    · exact hu
    · cases hu)⟩

theorem own_cap {w : World} {base n c : Nat} {a : Option Addr} {xs : List Value} (h : w.ownsRow base 5 1 (.slice a n c) n xs) : n ≤ c ∧ c ≤ 9223372036854775807 := by
  rcases h.2 with ⟨e, h0⟩ | ⟨g, cap, cur, e, _, _, h1, h2, _⟩
  · injection e with _ e2 e3
    subst e3
    omega
  · injection e with _ _ ec
    subst ec
    unfold maxLen at h2
    exact ⟨h1, by omega⟩

/-- A slice of bytes that came in. -/
structure Arg (w : World) (a : Option Addr) (n cap : Nat) (l : List UInt8) : Prop where
  bs : Bs w a n l
  room : n ≤ cap
  most : cap ≤ 9223372036854775807
  nil : a = none → n = 0 ∧ cap = 0

theorem Arg.below {w w' : World} {a : Option Addr} {n cap : Nat} {l : List UInt8} (h : Arg w a n cap l) (f : Below w.heap.size w w') : Arg w' a n cap l := ⟨h.bs.below f, h.room, h.most, h.nil⟩

theorem arg_of_own {w : World} {base n c : Nat} {a : Option Addr} {l : List UInt8} (hn : l.length = n) (h : w.ownsRow base 5 1 (.slice a n c) n (bv l)) : Arg w a n c l := by
  refine ⟨bs_of_own hn h, (own_cap h).1, (own_cap h).2, fun e => ?_⟩
  rcases h.2 with ⟨e1, h0⟩ | ⟨q, cap, cur, e1, _⟩
  · injection e1 with _ e2 e3
    exact ⟨h0, e3⟩
  · injection e1 with e1
    rw [e] at e1
    cases e1

theorem own_some {w W : World} {base n c : Nat} {a : Option Addr} {l : List UInt8} (hb : w.heap.size ≤ base) (h : W.ownsRow base 5 1 (.slice a n c) n (bv l)) (hn : 0 < n) :
    ∃ q, a = some ⟨q, 0, none⟩ ∧ w.heap.size ≤ q ∧ (∀ k b, l[k]? = some b → W.cell? ⟨q, k, none⟩ = some (.int .u8 (b.toNat : Int)) ∧ W.frozen? ⟨q, k, none⟩ = false) ∧
      (∀ k v, Arg (W.setCell ⟨q, k, none⟩ (.int .u8 ((v : UInt8).toNat : Int))) (some ⟨q, 0, none⟩) n c (l.set k v)) := by
  have hl : l.length = n := by have := h.1; rw [bv_length] at this; omega
  have hcap := own_cap h
  rcases h.2 with ⟨_, h0⟩ | ⟨q, cap, cur, e, hq, hblk, h1, h2, h3, h4⟩
  · omega
  · injection e with e1 _ e3
    subst e1
    subst e3
    have hcells := h.cells (g := q) rfl
    refine ⟨q, rfl, Nat.le_trans hb hq, fun k b hk => ⟨?_, frozen_of_row _ _ _ _ _ hblk⟩, fun k v => ?_⟩
    · have := hcells k (.int .u8 (b.toNat : Int)) (by simp [bv, hk])
      simpa [Addr.add_mid] using this
    · have hs := (h.stored k (.int .u8 (v.toNat : Int))).1
      have hb' : (bv l).set k (.int .u8 (v.toNat : Int)) = bv (l.set k v) := by simp [bv, List.map_set]
      refine arg_of_own (base := base) (by simp; exact hl) ?_
      rw [← hb']
      exact hs

theorem own_base {w : World} {base base' n : Nat} {v : Value} {xs : List Value} (h : w.ownsRow base 5 1 v n xs) (hb : base' ≤ base) : w.ownsRow base' 5 1 v n xs :=
  ⟨h.1, h.2.elim .inl (fun ⟨g, cap, cur, hv, hg, r⟩ => .inr ⟨g, cap, cur, hv, Nat.le_trans hb hg, r⟩)⟩

/-- append to a row of one's own, in an operation that is guarded, and wanted. -/
theorem append_own_wanted {P : Program} (w : World) {ops : Array Oper} {rest : List Oper} {o : Oper} {a : Act} {Q : Exit → Act → World → Prop} (hw : Region.wanted o (yielded ops a.tmps) = true) (s x : Operand) (t : TypeId)
    (ho : o.op = .call { callee := .builtin .append, args := #[s, x], argTypes := #[t, t] })
    (base : Nat) (e : TypeId) (i : TypeInfo) (z : Value) (size bytes : Nat) (ht : P.underlying t = some (.slice e)) (hi : P.info? e = some i) (hz : i.zero = some z)
    (hsize : i.size = size) (hby : i.bytes = bytes) (hzs : z.cells.size = size) (hsz : 0 < size)
    (v : Value) (n : Nat) (xs : List Value) (hs : a.eval s = v) (hown : w.ownsRow base e size v n xs)
    (ad : Addr) (m c : Nat) (news : List Value) (hx : a.eval x = .slice (some ad) m c) (hl : news.length = m * size) (hnews : ∀ j u, news[j]? = some u → w.cell? (ad.add j) = some u) (h1 : ∀ u ∈ news, u.oneCell' = true)
    (h63 : n + m ≤ maxLen) (hbytes : (n + m) * bytes ≤ 140737488355328) (hbase : base ≤ w.heap.size)
    (h : ∀ v' w', w'.ownsRow base e size v' (n + m) (xs ++ news) → w.grownBy w' v.ownBlock → (v' = .slice none 0 0 ↔ v = .slice none 0 0 ∧ m = 0) → wpList P ops Q rest (a.put o.dst v') w') : wpList P ops Q (o :: rest) a w :=
  wpList_step fun K hK => by
    rw [if_pos hw]
    exact wp_append_own w s x t ho base e i z size bytes ht hi hz hsize hby hzs hsz v n xs hs hown ad m c news hx hl hnews h1 h63 hbytes hbase fun v' w' h2 h3 h4 => hK _ _ (h v' w' h2 h3 h4)

/-- A piece of a slice. -/
theorem sub_bs {w : World} {a : Option Addr} {n cap : Nat} {l : List UInt8} (h : Arg w a n cap l) (d k : Nat) (hd : d ≤ k) (hk : k ≤ n) : Bs w (if cap = d then a else Option.map (fun x => x.add d) a) (k - d) ((l.take k).drop d) := by
  have hl := h.bs.1
  refine ⟨by simp; omega, ?_⟩
  by_cases h0 : k - d = 0
  · exact .inl h0
  · obtain ⟨b, o, rfl, hb⟩ := h.bs.2.resolve_left (by omega)
    have := h.room
    rw [if_neg (by omega)]
    refine .inr ⟨b, o + d, by simp [Addr.add_mid], ⟨(fun e => by cases e), fun ad e i u hu => ?_⟩⟩
    injection e with e
    subst e
    have hu' : (bv l)[d + i]? = some u := by
      simp only [bv, List.map_drop, List.map_take, List.getElem?_drop, List.getElem?_take] at hu ⊢
      split at hu
      · exact hu
      · cases hu
    have := hb.2 _ rfl (d + i) u hu'
    rw [Addr.add_mid] at this ⊢
    rw [Nat.add_assoc]
    exact this

end Go.Proofs.Ytnnanlniffjnkaa

/- Entries in memory. -/
namespace Go.Proofs.Ytnnanlniffjnkaa
open Go.RowKit
set_option linter.unusedVariables false

/-- An entry's five cells. -/
def ec (x : Ent) : List Value := [.int .i64 x.tag, .string ⟨x.text.toArray⟩, .int .i64 x.n, .int .i64 x.a, .int .i64 x.b]
def ev (l : List Ent) : List Value := l.flatMap ec
theorem ec_len (x : Ent) : (ec x).length = 5 := rfl
theorem ev_len (l : List Ent) : (ev l).length = l.length * 5 := by
  induction l with
  | nil => rfl
  | cons x l ih =>
    have : ev (x :: l) = ec x ++ ev l := rfl
    rw [this, List.length_append, ih, ec_len, List.length_cons]
    omega
theorem ev_append (a b : List Ent) : ev (a ++ b) = ev a ++ ev b := by simp [ev]
theorem ev_one (l : List Ent) : ∀ v ∈ ev l, v.oneCell' = true := by
  intro v hv
  simp only [ev, ec, List.mem_flatMap, List.mem_cons, List.not_mem_nil, or_false] at hv
  obtain ⟨x, _, rfl | rfl | rfl | rfl | rfl⟩ := hv <;> rfl
theorem ev_get {l : List Ent} {k : Nat} {x : Ent} (h : l[k]? = some x) (q : Nat) (hq : q < 5) : (ev l)[5 * k + q]? = (ec x)[q]? := by
  induction l generalizing k with
  | nil => simp at h
  | cons y l ih =>
    have e : ev (y :: l) = ec y ++ ev l := rfl
    rw [e]
    cases k with
    | zero =>
      simp at h
      subst h
      rw [Nat.mul_zero, Nat.zero_add, List.getElem?_append_left (by rw [ec_len]; exact hq)]
    | succ k =>
      rw [List.getElem?_append_right (by rw [ec_len]; omega), ec_len, show 5 * (k + 1) + q - 5 = 5 * k + q by omega]
      exact ih (by simpa using h)
/-- Entries that lie in memory. -/
def EntsAt (w : World) (a : Option Addr) (l : List Ent) : Prop := ∀ ad, a = some ad → ∀ j u, (ev l)[j]? = some u → w.cell? (ad.add j) = some u
def Es (w : World) (a : Option Addr) (n : Nat) (l : List Ent) : Prop := l.length = n ∧ (n = 0 ∨ ∃ b o, a = some ⟨b, o, none⟩ ∧ EntsAt w (some ⟨b, o, none⟩) l)
theorem EntsAt.below {w w' : World} {a : Option Addr} {l : List Ent} (h : EntsAt w a l) (f : Below w.heap.size w w') : EntsAt w' a l := fun ad e j u hu => by
  have h1 := h ad e j u hu
  exact (f.cell (World.block_lt_of_cell? w _ h1)).trans h1
theorem Es.below {w w' : World} {a : Option Addr} {n : Nat} {l : List Ent} (h : Es w a n l) (f : Below w.heap.size w w') : Es w' a n l := by
  rcases h with ⟨h1, h2 | ⟨b, o, e, h2⟩⟩
  · exact ⟨h1, .inl h2⟩
  · exact ⟨h1, .inr ⟨b, o, e, h2.below f⟩⟩
theorem ents_get {w : World} {b o : Nat} {l : List Ent} (h : EntsAt w (some ⟨b, o, none⟩) l) {k : Nat} {x : Ent} (hk : l[k]? = some x) :
    w.cell? ⟨b, o + k * 5, none⟩ = some (.int .i64 x.tag) ∧ w.cell? ⟨b, o + k * 5 + 1, none⟩ = some (.string ⟨x.text.toArray⟩) ∧ w.cell? ⟨b, o + k * 5 + 2, none⟩ = some (.int .i64 x.n) ∧ w.cell? ⟨b, o + k * 5 + 3, none⟩ = some (.int .i64 x.a) ∧ w.cell? ⟨b, o + k * 5 + 4, none⟩ = some (.int .i64 x.b) := by
  have key : ∀ q u, q < 5 → (ec x)[q]? = some u → w.cell? ⟨b, o + k * 5 + q, none⟩ = some u := fun q u hq hu => by
    have h1 := h _ rfl (5 * k + q) u (by rw [ev_get hk q hq]; exact hu)
    rw [Addr.add_mid, show o + (5 * k + q) = o + k * 5 + q by omega] at h1
    exact h1
  exact ⟨key 0 _ (by omega) rfl, key 1 _ (by omega) rfl, key 2 _ (by omega) rfl, key 3 _ (by omega) rfl, key 4 _ (by omega) rfl⟩
/-- A slice of entries that came in. -/
structure EArg (w : World) (a : Option Addr) (n cap : Nat) (l : List Ent) : Prop where
  es : Es w a n l
  room : n ≤ cap
  most : cap ≤ 9223372036854775807
  nil : a = none → n = 0 ∧ cap = 0
theorem EArg.below {w w' : World} {a : Option Addr} {n cap : Nat} {l : List Ent} (h : EArg w a n cap l) (f : Below w.heap.size w w') : EArg w' a n cap l := ⟨h.es.below f, h.room, h.most, h.nil⟩
theorem own_capE {w : World} {base n c : Nat} {a : Option Addr} {xs : List Value} {e : TypeId} (h : w.ownsRow base e 5 (.slice a n c) n xs) : n ≤ c ∧ c ≤ 9223372036854775807 := by
  rcases h.2 with ⟨e, h0⟩ | ⟨q, cap, cur, e, _, _, h1, h2, _⟩
  · injection e with _ _ e
    omega
  · injection e with _ _ e
    subst e
    unfold maxLen at h2
    exact ⟨h1, h2⟩
end Go.Proofs.Ytnnanlniffjnkaa

/- Pools as plain values: what is written is read. -/
namespace Go.Proofs.Ytnnanlniffjnkaa
open Go.RowKit
set_option linter.unusedVariables false

theorem getW_at {p r : List UInt8} {k n : Int} {sg : Bool} (h : fitsW k n sg) (hn : -9223372036854775808 ≤ n ∧ n ≤ 9223372036854775807) : getW (p ++ (bytesW k n ++ r)) p.length k sg = (n, 0, p.length + k.toNat) := by
  unfold getW
  have hl := bytesW_len k n
  have hk : 0 ≤ k := by rcases h.1 with rfl | rfl | rfl | rfl <;> omega
  rw [if_pos h.1, if_neg (by rw [List.length_append, List.length_append, hl]; omega), List.drop_left, ← hl, List.take_left, val_bytes h hn]
theorem takeW_at (p t r : List UInt8) : takeW (p ++ (t ++ r)) p.length t.length = (t, 0, p.length + t.length) := by
  unfold takeW
  rw [if_neg (by omega), if_neg (by rw [List.length_append, List.length_append]; omega), Int.toNat_natCast, List.drop_left, List.take_left]

def EntFit (x : Ent) : Prop := (-9223372036854775808 ≤ x.tag ∧ x.tag ≤ 9223372036854775807) ∧ (-9223372036854775808 ≤ x.n ∧ x.n ≤ 9223372036854775807) ∧ (-9223372036854775808 ≤ x.a ∧ x.a ≤ 9223372036854775807) ∧ (-9223372036854775808 ≤ x.b ∧ x.b ≤ 9223372036854775807)
theorem tagE_in {l : List Ent} {i : Int} (h : tagE l i ≠ 0) : 0 ≤ i ∧ i < l.length := by
  unfold tagE atE at h
  by_cases h0 : 0 ≤ i
  · rw [if_pos h0] at h
    refine ⟨h0, ?_⟩
    by_cases h1 : i.toNat < l.length
    · omega
    · rw [List.getElem?_eq_none (by omega)] at h
      exact absurd rfl h
  · rw [if_neg h0] at h
    exact absurd rfl h
theorem bytesE_tag {x : Ent} (h : 0 ≤ x.tag ∧ x.tag ≤ 255) (h0 : x.tag ≠ 0) : bytesE x = bytesW 1 x.tag ++ bodyE x := by
  unfold bytesE
  rw [if_neg h0]
  have : bytesW 1 x.tag = [UInt8.ofNat x.tag.toNat] := by
    show beK 0 _ ++ [UInt8.ofNat (x.tag % 18446744073709551616).toNat] = _
    rw [show x.tag % 18446744073709551616 = x.tag by omega]
    rfl
  rw [this]
  rfl
theorem fits2 {n : Int} (h : 0 ≤ n ∧ n < 65536) : fitsW 2 n false := by
  refine ⟨by unfold wide; omega, ?_⟩
  rw [if_neg (by decide), if_neg (by decide)]
  simp
  omega
theorem fits1 {n : Int} (h : 0 ≤ n ∧ n < 256) : fitsW 1 n false := by
  refine ⟨by unfold wide; omega, ?_⟩
  rw [if_neg (by decide), if_neg (by decide)]
  simp
  omega
theorem fits4 {n : Int} (h : -2147483648 ≤ n ∧ n ≤ 2147483647) : fitsW 4 n true := by
  refine ⟨by unfold wide; omega, ?_⟩
  rw [if_neg (by decide), if_pos rfl]
  simp
  omega
theorem fits8 (n : Int) : fitsW 8 n true := ⟨by unfold wide; omega, by rw [if_pos rfl]; exact .inl rfl⟩

/-- An entry's tag is one of seven. -/
theorem okE_tag {l : List Ent} {x : Ent} (h : okE l x = true) : x.tag = 1 ∨ x.tag = 3 ∨ x.tag = 5 ∨ x.tag = 7 ∨ x.tag = 12 ∨ x.tag = 9 ∨ x.tag = 10 := by
  unfold okE at h
  repeat (split at h; omega)
  cases h

theorem entR_at {l : List Ent} {x : Ent} (p r : List UInt8) (h : okE l x = true) (hl : l.length ≤ 1024) (hf : EntFit x) : entR (p ++ (bytesE x ++ r)) p.length = (x, 0, p.length + (bytesE x).length) := by
  have ht := okE_tag h
  have hb := bytesE_tag (x := x) (by omega) (by omega)
  have hg : getW (p ++ (bytesE x ++ r)) p.length 1 false = (x.tag, 0, p.length + 1) := by
    rw [hb, List.append_assoc]
    exact getW_at (fits1 (by omega)) (by omega)
  have hlen : (bytesE x).length = 1 + (bodyE x).length := by rw [hb, List.length_append, bytesW_len]; rfl
  obtain ⟨P, hP⟩ : ∃ P, P = p ++ bytesW 1 x.tag := ⟨_, rfl⟩
  have hPl : P.length = p.length + 1 := by rw [hP, List.length_append, bytesW_len]; rfl
  have hbs : p ++ (bytesE x ++ r) = P ++ (bodyE x ++ r) := by rw [hb, hP]; simp
  rw [hbs] at hg ⊢
  rw [← hPl] at hg
  rw [hlen, show p.length + (1 + (bodyE x).length) = P.length + (bodyE x).length by omega]
  clear hb hbs hlen
  unfold entR
  simp only [hg]
  rw [if_neg (by simp)]
  unfold okE at h
  rcases ht with e | e | e | e | e | e | e
  · simp only [e, if_true] at h ⊢
    rw [Bool.and_eq_true, decide_eq_true_eq] at h
    obtain ⟨h1, h2⟩ := h
    unfold textB at h1
    rw [Bool.and_eq_true, decide_eq_true_eq] at h1
    have hbody : bodyE x = bytesW 2 x.text.length ++ x.text := by unfold bodyE; rw [if_pos e]
    have g2 := getW_at (p := P) (r := x.text ++ r) (k := 2) (n := x.text.length) (sg := false) (fits2 (by omega)) (by omega)
    have t2 := takeW_at (P ++ bytesW 2 x.text.length) x.text r
    have hl2 : (P ++ bytesW 2 x.text.length).length = P.length + 2 := by rw [List.length_append, bytesW_len]; rfl
    rw [hl2, List.append_assoc] at t2
    rw [hbody, List.append_assoc, g2]
    simp only [ne_eq, not_true_eq_false, if_false]
    rw [show Int.toNat 2 = 2 from rfl, t2]
    refine Prod.ext ?_ (Prod.ext rfl ?_)
    · rw [h2]; rfl
    · simp only [List.length_append, bytesW_len]
      show P.length + 2 + _ = P.length + (2 + _)
      omega
  · simp only [e] at h ⊢
    simp only [Bool.and_eq_true, decide_eq_true_eq, if_true, show ¬ (3 : Int) = 1 by decide, if_false] at h ⊢
    obtain ⟨h1, h2⟩ := h
    have hbody : bodyE x = bytesW 4 x.n := by unfold bodyE; rw [e]; rfl
    rw [hbody, getW_at (fits4 h1) hf.2.1]
    refine Prod.ext ?_ (Prod.ext rfl (by rw [bytesW_len]))
    rw [h2]
  · simp only [e] at h ⊢
    simp only [decide_eq_true_eq, if_true, show ¬ (5 : Int) = 1 by decide, show ¬ (5 : Int) = 3 by decide, if_false] at h ⊢
    have hbody : bodyE x = bytesW 8 x.n := by unfold bodyE; rw [e]; rfl
    rw [hbody, getW_at (fits8 _) hf.2.1]
    refine Prod.ext ?_ (Prod.ext rfl (by rw [bytesW_len]))
    rw [h]
  · simp only [e] at h ⊢
    simp only [Bool.and_eq_true, decide_eq_true_eq, if_true, show ¬ (7 : Int) = 1 by decide, show ¬ (7 : Int) = 3 by decide, show ¬ (7 : Int) = 5 by decide, if_false] at h ⊢
    obtain ⟨h1, h2⟩ := h
    have hi := tagE_in (l := l) (i := x.a) (by omega)
    have hbody : bodyE x = bytesW 2 x.a := by unfold bodyE; rw [e]; rfl
    rw [hbody, getW_at (fits2 (by omega)) (by omega)]
    refine Prod.ext ?_ (Prod.ext rfl (by rw [bytesW_len]))
    rw [h2]
  all_goals
    have hbody : bodyE x = bytesW 2 x.a ++ bytesW 2 x.b := by unfold bodyE; rw [e]; rfl
    have hx : (x = ⟨x.tag, [], 0, x.a, x.b⟩) ∧ (0 ≤ x.a ∧ x.a < l.length) ∧ (0 ≤ x.b ∧ x.b < l.length) := by
      simp only [e] at h ⊢
      simp at h
      exact ⟨h.2, tagE_in (by omega), tagE_in (by omega)⟩
    obtain ⟨h1, h2, h3⟩ := hx
    have g2 := getW_at (p := P) (r := bytesW 2 x.b ++ r) (k := 2) (n := x.a) (sg := false) (fits2 (by omega)) (by omega)
    have g3 := getW_at (p := P ++ bytesW 2 x.a) (r := r) (k := 2) (n := x.b) (sg := false) (fits2 (by omega)) (by omega)
    have hl2 : (P ++ bytesW 2 x.a).length = P.length + 2 := by rw [List.length_append, bytesW_len]; rfl
    rw [hl2, List.append_assoc] at g3
    rw [hbody, List.append_assoc, g2]
    simp only [e]
    rw [show Int.toNat 2 = 2 from rfl, g3]
    simp
    refine ⟨?_, ?_⟩
    · rw [h1, e]
    · simp only [bytesW_len]
      show P.length + 2 + 2 = P.length + (2 + 2)
      omega

end Go.Proofs.Ytnnanlniffjnkaa

/- Pools as plain values: a right pool's bytes are read as it. -/
namespace Go.Proofs.Ytnnanlniffjnkaa
open Go.RowKit
set_option linter.unusedVariables false

theorem bytesE_zero : bytesE ent0 = [] := rfl
theorem withE_len (l : List Ent) (x : Ent) : l.length + 1 ≤ (withE l x).length := by
  unfold withE
  split <;> simp
theorem entsR_at {l : List Ent} (hl : l.length ≤ 1024) (r : List UInt8) : ∀ (s pre : List Ent) (p : List UInt8) (f : Nat), goE l s = true → (∀ x ∈ s, EntFit x) → s.length ≤ f →
    entsR (p ++ (s.flatMap bytesE ++ r)) (pre ++ s).length f pre p.length = (pre ++ s, 0, p.length + (s.flatMap bytesE).length)
  | [], pre, p, f, _, _, _ => by
    cases f with
    | zero => simp [entsR]
    | succ f => simp [entsR]
  | [x], pre, p, f, h, hf, hfu => by
    obtain ⟨f, rfl⟩ : ∃ g, f = g + 1 := ⟨f - 1, by simp at hfu; omega⟩
    simp only [goE, Bool.and_eq_true, decide_eq_true_eq] at h
    have e1 := entR_at p r h.1 hl (hf x (by simp))
    have e2 : withE pre x = pre ++ [x] := by unfold withE; rw [if_neg h.2]
    simp only [List.flatMap_cons, List.flatMap_nil, List.append_nil]
    rw [entsR, if_neg (by simp), e1]
    simp only [ne_eq, not_true_eq_false, if_false, e2]
    cases f with
    | zero => simp [entsR]
    | succ f => simp [entsR]
  | x :: z :: s, pre, p, f, h, hf, hfu => by
    obtain ⟨f, rfl⟩ : ∃ g, f = g + 1 := ⟨f - 1, by simp at hfu; omega⟩
    rw [goE, Bool.and_eq_true] at h
    have e1 := entR_at p (((z :: s).flatMap bytesE) ++ r) h.1 hl (hf x (by simp))
    have hsp : p ++ ((x :: z :: s).flatMap bytesE ++ r) = p ++ (bytesE x ++ ((z :: s).flatMap bytesE ++ r)) := by simp
    have hpl : p.length + (bytesE x).length = (p ++ bytesE x).length := by simp
    rw [entsR, if_neg (by simp), hsp, e1]
    simp only [ne_eq, not_true_eq_false, if_false]
    rw [hpl, ← List.append_assoc p]
    by_cases h5 : x.tag = 5
    · rw [if_pos h5, Bool.and_eq_true, decide_eq_true_eq] at h
      obtain ⟨_, rfl, h2⟩ := h
      have e2 : withE pre x = pre ++ [x, ent0] := by unfold withE; rw [if_pos h5]
      have ih := entsR_at hl r s (pre ++ [x, ent0]) (p ++ bytesE x) f h2 (fun y hy => hf y (by simp [hy])) (by simp at hfu; omega)
      have e3 : (ent0 :: s).flatMap bytesE = s.flatMap bytesE := by simp [bytesE_zero]
      have e4 : pre ++ [x, ent0] ++ s = pre ++ x :: ent0 :: s := by simp
      rw [e2, e3, ← e4, ih]
      simp [bytesE_zero, Nat.add_assoc]
    · rw [if_neg h5] at h
      have e2 : withE pre x = pre ++ [x] := by unfold withE; rw [if_neg h5]
      have ih := entsR_at hl r (z :: s) (pre ++ [x]) (p ++ bytesE x) f h.2 (fun y hy => hf y (by simp at hy ⊢; exact .inr hy)) (by simp at hfu ⊢; omega)
      have e4 : pre ++ [x] ++ (z :: s) = pre ++ x :: z :: s := by simp
      rw [e2, ← e4, ih]
      simp [Nat.add_assoc]
theorem checkP_iff {l : List Ent} : checkP l = true ↔ (1 ≤ l.length ∧ l.length ≤ 1024) ∧ l[0]? = some ent0 ∧ goE l (l.drop 1) = true := by
  unfold checkP
  simp [and_assoc]
theorem readP_at {l : List Ent} (p r : List UInt8) (h : checkP l = true) (hf : ∀ x ∈ l, EntFit x) : readP (p ++ (bytesP l ++ r)) p.length = (l, 0, p.length + (bytesP l).length) := by
  obtain ⟨⟨h1, h2⟩, h3, h4⟩ := checkP_iff.1 h
  obtain ⟨x, s, rfl⟩ : ∃ x s, l = x :: s := by
    cases l with
    | nil => simp at h1
    | cons x s => exact ⟨x, s, rfl⟩
  have hx : x = ent0 := by simpa using h3
  subst hx
  have hbp : bytesP (ent0 :: s) = bytesW 2 ((ent0 :: s).length : Int) ++ s.flatMap bytesE := rfl
  have g1 := getW_at (p := p) (r := s.flatMap bytesE ++ r) (k := 2) (n := ((ent0 :: s).length : Int)) (sg := false) (fits2 (by omega)) (by omega)
  have hpl : (p ++ bytesW 2 ((ent0 :: s).length : Int)).length = p.length + 2 := by rw [List.length_append, bytesW_len]; rfl
  have e1 := entsR_at h2 r s [ent0] (p ++ bytesW 2 ((ent0 :: s).length : Int)) (ent0 :: s).length h4 (fun y hy => hf y (by simp [hy])) (by simp)
  rw [hpl, List.append_assoc] at e1
  unfold readP
  rw [hbp, List.append_assoc, g1]
  simp only [ne_eq, not_true_eq_false, if_false]
  rw [if_neg (by omega), Int.toNat_natCast, show Int.toNat 2 = 2 from rfl]
  have e2 : [ent0] ++ s = ent0 :: s := rfl
  rw [e2] at e1
  rw [e1]
  simp only [not_true_eq_false, if_false]
  rw [if_neg (by rw [h]; simp)]
  simp only [List.length_append, bytesW_len, Prod.mk.injEq, true_and]
  show p.length + 2 + _ = p.length + (2 + _)
  omega

end Go.Proofs.Ytnnanlniffjnkaa

/- Pools as plain values: what is read is written as it was. -/
namespace Go.Proofs.Ytnnanlniffjnkaa
open Go.RowKit
set_option linter.unusedVariables false

theorem beK_mod (k : Nat) : ∀ x y, x % 256 ^ k = y % 256 ^ k → beK k x = beK k y := by
  induction k with
  | zero => intro x y _; rfl
  | succ k ih =>
    intro x y h
    rw [beK, beK]
    have h1 : x % 256 = y % 256 := by
      have h2 := congrArg (· % 256) h
      simp only [Nat.pow_succ, Nat.mul_comm (256 ^ k) 256, Nat.mod_mul_right_mod] at h2
      exact h2
    have h3 : x / 256 % 256 ^ k = y / 256 % 256 ^ k := by
      rw [Nat.pow_succ, Nat.mul_comm (256 ^ k) 256, Nat.mod_mul, Nat.mod_mul] at h
      omega
    rw [ih _ _ h3]
    congr 2
    apply UInt8.toNat_inj.1
    simp
    omega
/-- The bytes of what bytes tell are these. -/
theorem bytes_val {l : List UInt8} {k n : Int} {sg : Bool} (hw : wide k) (hl : l.length = k.toNat) (h : valW l sg = some n) : bytesW k n = l := by
  have hb := beK_numB l
  have hlt := numB_lt l
  unfold bytesW
  rw [← hl]
  conv => rhs; rw [← hb]
  refine beK_mod _ _ _ ?_
  unfold valW at h
  rcases hw with rfl | rfl | rfl | rfl
  · have e : l.length = 1 := hl
    rw [e] at h hlt ⊢
    rw [if_neg (by decide)] at h
    split at h
    · injection h with h; subst h; simp at *; omega
    · injection h with h; subst h; simp at *; omega
  · have e : l.length = 2 := hl
    rw [e] at h hlt ⊢
    rw [if_neg (by decide)] at h
    split at h
    · injection h with h; subst h; simp at *; omega
    · injection h with h; subst h; simp at *; omega
  · have e : l.length = 4 := hl
    rw [e] at h hlt ⊢
    rw [if_neg (by decide)] at h
    split at h
    · injection h with h; subst h; simp at *; omega
    · injection h with h; subst h; simp at *; omega
  · have e : l.length = 8 := hl
    rw [e] at h hlt ⊢
    rw [if_pos rfl] at h
    split at h
    · injection h with h
      subst h
      simp at *
      split <;> omega
    · split at h
      · injection h with h; subst h; simp at *; omega
      · cases h
/-- A piece of bytes. -/
def cutB (b : List UInt8) (i j : Nat) : List UInt8 := (b.drop i).take (j - i)
theorem cutB_join {b : List UInt8} {i j k : Nat} (h1 : i ≤ j) (h2 : j ≤ k) : cutB b i j ++ cutB b j k = cutB b i k := by
  unfold cutB
  have e : b.drop j = (b.drop i).drop (j - i) := by rw [List.drop_drop]; congr 1; omega
  rw [e, show k - i = (j - i) + (k - j) by omega, List.take_add]
theorem getW_back {b : List UInt8} {i : Nat} {k : Int} {sg : Bool} (h : (getW b i k sg).2.1 = 0) (hi : i ≤ b.length) :
    bytesW k (getW b i k sg).1 = cutB b i (getW b i k sg).2.2 ∧ (getW b i k sg).2.2 = i + k.toNat ∧ i + k.toNat ≤ b.length := by
  unfold getW at h ⊢
  by_cases hw : wide k
  · rw [if_pos hw] at h ⊢
    obtain ⟨m, rfl, hm⟩ := wide_nat hw
    by_cases hs : (b.length : Int) - i < (m : Int)
    · rw [if_pos hs] at h
      exact absurd h (by simp)
    · rw [if_neg hs] at h ⊢
      cases hv : valW ((b.drop i).take (m : Int).toNat) sg with
      | none => rw [hv] at h; exact absurd h (by simp)
      | some n =>
        have := bytes_val hw (by rw [List.length_take, List.length_drop]; omega) hv
        refine ⟨?_, rfl, by omega⟩
        show bytesW (m : Int) n = cutB b i (i + (m : Int).toNat)
        rw [this]
        unfold cutB
        rw [Nat.add_sub_cancel_left]
  · rw [if_neg hw] at h
    exact absurd h (by simp)
theorem takeW_back {b : List UInt8} {i : Nat} {n : Int} (h : (takeW b i n).2.1 = 0) (hi : i ≤ b.length) :
    (takeW b i n).1 = cutB b i (takeW b i n).2.2 ∧ (takeW b i n).2.2 = i + n.toNat ∧ i + n.toNat ≤ b.length ∧ ((takeW b i n).1.length : Int) = n := by
  unfold takeW at h ⊢
  by_cases h0 : n < 0
  · rw [if_pos h0] at h
    exact absurd h (by simp)
  · rw [if_neg h0] at h ⊢
    by_cases hs : (b.length : Int) - i < n
    · rw [if_pos hs] at h
      exact absurd h (by simp)
    · rw [if_neg hs]
      refine ⟨?_, rfl, by omega, ?_⟩
      · unfold cutB
        rw [Nat.add_sub_cancel_left]
      · rw [List.length_take, List.length_drop]
        omega
/-- What is read without a sign is from 0 on. -/
theorem getW_pos {b : List UInt8} {i : Nat} {k : Int} : 0 ≤ (getW b i k false).1 := by
  unfold getW
  split
  · split
    · exact Int.le_refl _
    · cases hv : valW ((b.drop i).take k.toNat) false with
      | none => exact Int.le_refl _
      | some n =>
        show 0 ≤ n
        unfold valW at hv
        split at hv
        · rw [if_neg (by decide)] at hv
          split at hv
          · injection hv with hv; omega
          · cases hv
        · rw [if_neg (by simp)] at hv
          injection hv with hv
          omega
  · exact Int.le_refl _
theorem getW1_le {b : List UInt8} {i : Nat} : (getW b i 1 false).1 ≤ 255 := by
  unfold getW
  rw [if_pos (by unfold wide; omega)]
  split
  · show (0 : Int) ≤ 255
    omega
  · have hl := numB_lt ((b.drop i).take (1 : Int).toNat)
    rename_i hs
    have hle : ((b.drop i).take (1 : Int).toNat).length = 1 := by rw [List.length_take, List.length_drop]; omega
    unfold valW
    rw [hle] at hl ⊢
    rw [if_neg (by decide), if_neg (by simp)]
    show ((numB _ : Nat) : Int) ≤ 255
    omega

theorem entR_back {b : List UInt8} {i : Nat} (h : (entR b i).2.1 = 0) (hi : i ≤ b.length) : bytesE (entR b i).1 = cutB b i (entR b i).2.2 ∧ i ≤ (entR b i).2.2 ∧ (entR b i).2.2 ≤ b.length := by
  have hpos := getW_pos (b := b) (i := i) (k := 1)
  have hle := getW1_le (b := b) (i := i)
  unfold entR at h ⊢
  by_cases h0 : (getW b i 1 false).2.1 = 0
  · obtain ⟨g1, g2, g3⟩ := getW_back h0 hi
    have g2' : (getW b i 1 false).2.2 = i + 1 := g2
    have g3' : i + 1 ≤ b.length := g3
    simp only [h0, ne_eq, not_true_eq_false, if_false] at h ⊢
    generalize hT : (getW b i 1 false).1 = T at *
    generalize hI : (getW b i 1 false).2.2 = I at *
    subst g2'
    have key : ∀ x : Ent, x.tag = T → T ≠ 0 → bytesE x = cutB b i (i + 1) ++ bodyE x := fun x e ht => by
      rw [bytesE_tag (by omega) (by omega), e, g1]
    by_cases e1 : T = 1
    · simp only [e1, if_true] at h ⊢
      by_cases k0 : (getW b (i + 1) 2 false).2.1 = 0
      · obtain ⟨k1, k2, k3⟩ := getW_back k0 g3'
        have k2' : (getW b (i + 1) 2 false).2.2 = i + 1 + 2 := k2
        simp only [k0, not_true_eq_false, if_false] at h ⊢
        rw [k2'] at h k1 ⊢
        obtain ⟨t1, t2, t3, t4⟩ := takeW_back h k3
        have hkp := getW_pos (b := b) (i := i + 1) (k := 2)
        refine ⟨?_, by rw [t2]; omega, by rw [t2]; exact t3⟩
        rw [key _ (by rw [e1]) (by omega)]
        have hb : bodyE { tag := 1, text := (takeW b (i + 1 + 2) (getW b (i + 1) 2 false).1).1, n := 0, a := 0, b := 0 } = bytesW 2 ((takeW b (i + 1 + 2) (getW b (i + 1) 2 false).1).1.length : Int) ++ (takeW b (i + 1 + 2) (getW b (i + 1) 2 false).1).1 := rfl
        rw [hb, t4, k1]
        conv => lhs; rhs; rhs; rw [t1]
        rw [cutB_join (by omega) (by rw [t2]; omega), cutB_join (by omega) (by rw [t2]; omega)]
      · simp only [k0, not_false_eq_true, if_true] at h
    · simp only [e1, if_false] at h ⊢
      by_cases e3 : T = 3
      · simp only [e3, if_true] at h ⊢
        obtain ⟨k1, k2, k3⟩ := getW_back h g3'
        refine ⟨?_, by rw [k2]; omega, by rw [k2]; exact k3⟩
        rw [key _ (by rw [e3]) (by omega)]
        show _ ++ bytesW 4 _ = _
        rw [k1, cutB_join (by omega) (by rw [k2]; omega)]
      · simp only [e3, if_false] at h ⊢
        by_cases e5 : T = 5
        · simp only [e5, if_true] at h ⊢
          obtain ⟨k1, k2, k3⟩ := getW_back h g3'
          refine ⟨?_, by rw [k2]; omega, by rw [k2]; exact k3⟩
          rw [key _ (by rw [e5]) (by omega)]
          show _ ++ bytesW 8 _ = _
          rw [k1, cutB_join (by omega) (by rw [k2]; omega)]
        · simp only [e5, if_false] at h ⊢
          by_cases e7 : T = 7
          · simp only [e7, if_true] at h ⊢
            obtain ⟨k1, k2, k3⟩ := getW_back h g3'
            refine ⟨?_, by rw [k2]; omega, by rw [k2]; exact k3⟩
            rw [key _ (by rw [e7]) (by omega)]
            show _ ++ bytesW 2 _ = _
            rw [k1, cutB_join (by omega) (by rw [k2]; omega)]
          · simp only [e7, if_false] at h ⊢
            by_cases e9 : T = 9 ∨ T = 10 ∨ T = 12
            · simp only [e9, if_true] at h ⊢
              by_cases k0 : (getW b (i + 1) 2 false).2.1 = 0
              · obtain ⟨k1, k2, k3⟩ := getW_back k0 g3'
                have k2' : (getW b (i + 1) 2 false).2.2 = i + 1 + 2 := k2
                simp only [k0, not_true_eq_false, if_false] at h ⊢
                rw [k2'] at h k1 ⊢
                obtain ⟨m1, m2, m3⟩ := getW_back h k3
                refine ⟨?_, by rw [m2]; omega, by rw [m2]; exact m3⟩
                rw [key _ rfl (by omega)]
                have hb : ∀ A B : Int, bodyE { tag := T, text := [], n := 0, a := A, b := B } = bytesW 2 A ++ bytesW 2 B := fun A B => by
                  unfold bodyE
                  rw [if_neg e1, if_neg e3, if_neg e5, if_neg e7]
                rw [hb, k1, m1, cutB_join (by omega) (by rw [m2]; omega), cutB_join (by omega) (by rw [m2]; omega)]
              · simp only [k0, not_false_eq_true, if_true] at h
            · simp only [e9, if_false] at h
              exact absurd h (by decide)
  · simp only [ne_eq, h0, not_false_eq_true, if_true] at h

theorem entsR_back {b : List UInt8} {n : Nat} : ∀ (f : Nat) (l : List Ent) (i : Nat), (entsR b n f l i).2.1 = 0 → i ≤ b.length →
    ∃ s, (entsR b n f l i).1 = l ++ s ∧ s.flatMap bytesE = cutB b i (entsR b n f l i).2.2 ∧ i ≤ (entsR b n f l i).2.2 ∧ (entsR b n f l i).2.2 ≤ b.length ∧ (n ≤ l.length + f → n ≤ (l ++ s).length)
  | 0, l, i, _, hi => ⟨[], by simp [entsR], by simp [entsR, cutB], Nat.le_refl _, hi, by simp⟩
  | f + 1, l, i, h, hi => by
    rw [entsR] at h ⊢
    by_cases hn : n ≤ l.length
    · rw [if_pos hn] at h ⊢
      exact ⟨[], by simp, by simp [cutB], Nat.le_refl _, hi, fun _ => by simpa using hn⟩
    · rw [if_neg hn] at h ⊢
      by_cases h0 : (entR b i).2.1 = 0
      · simp only [h0, ne_eq, not_true_eq_false, if_false] at h ⊢
        obtain ⟨e1, e2, e3⟩ := entR_back h0 hi
        obtain ⟨s, s1, s2, s3, s4, s5⟩ := entsR_back f (withE l (entR b i).1) (entR b i).2.2 h e3
        have hwl := withE_len l (entR b i).1
        refine ⟨(if (entR b i).1.tag = 5 then [(entR b i).1, ent0] else [(entR b i).1]) ++ s, ?_, ?_, Nat.le_trans e2 s3, s4, fun h5 => ?_⟩
        · rw [s1, ← List.append_assoc]
          congr 1
          unfold withE
          split <;> rfl
        · rw [List.flatMap_append, s2]
          have : (if (entR b i).1.tag = 5 then [(entR b i).1, ent0] else [(entR b i).1]).flatMap bytesE = bytesE (entR b i).1 := by
            split <;> simp [bytesE_zero]
          rw [this, e1, cutB_join e2 s3]
        · have := s5 (by omega)
          have e : withE l (entR b i).1 ++ s = l ++ ((if (entR b i).1.tag = 5 then [(entR b i).1, ent0] else [(entR b i).1]) ++ s) := by
            rw [← List.append_assoc]
            congr 1
            unfold withE
            split <;> rfl
          rw [← e]
          exact this
      · simp only [ne_eq, h0, not_false_eq_true, if_true] at h

/-- Bytes that are a pool are this pool's. -/
theorem readP_back {b : List UInt8} (h : (readP b 0).2.1 = 0) : checkP (readP b 0).1 = true ∧ bytesP (readP b 0).1 = b.take (readP b 0).2.2 ∧ (readP b 0).2.2 ≤ b.length := by
  unfold readP at h ⊢
  by_cases h0 : (getW b 0 2 false).2.1 = 0
  · obtain ⟨g1, g2, g3⟩ := getW_back h0 (Nat.zero_le _)
    have g2' : (getW b 0 2 false).2.2 = 2 := g2
    have g3' : 2 ≤ b.length := g3
    simp only [h0, ne_eq, not_true_eq_false, if_false] at h ⊢
    generalize hT : (getW b 0 2 false).1 = T at *
    rw [g2'] at h g1 ⊢
    by_cases hr : T < 1 ∨ 1024 < T
    · rw [if_pos hr] at h
      exact absurd h (by decide)
    · rw [if_neg hr] at h ⊢
      by_cases h1 : (entsR b T.toNat T.toNat [ent0] 2).2.1 = 0
      · obtain ⟨s, s1, s2, s3, s4, s5⟩ := entsR_back T.toNat [ent0] 2 h1 g3'
        simp only [h1, not_true_eq_false, if_false] at h ⊢
        by_cases h2 : T < (entsR b T.toNat T.toNat [ent0] 2).1.length ∨ checkP (entsR b T.toNat T.toNat [ent0] 2).1 = false
        · rw [if_pos h2] at h
          exact absurd h (by simp)
        · rw [if_neg h2]
          have h3 : checkP (entsR b T.toNat T.toNat [ent0] 2).1 = true := by
            cases hc : checkP (entsR b T.toNat T.toNat [ent0] 2).1 with
            | true => rfl
            | false => exact absurd (.inr hc) h2
          refine ⟨h3, ?_, s4⟩
          have hlen := s5 (by simp)
          rw [s1] at h2 ⊢
          have hTl : (([ent0] ++ s).length : Int) = T := by
            have : ¬ T < (([ent0] ++ s).length : Int) := fun h => h2 (.inl h)
            omega
          unfold bytesP
          rw [hTl, g1]
          show cutB b 0 2 ++ s.flatMap bytesE = _
          rw [s2, cutB_join (by omega) s3]
          rfl
      · simp only [h1, not_false_eq_true, if_true] at h
  · simp only [ne_eq, h0, not_false_eq_true, if_true] at h

end Go.Proofs.Ytnnanlniffjnkaa

/- Pools as plain values: what was put is meant by its number, and what was there stays. -/
namespace Go.Proofs.Ytnnanlniffjnkaa
open Go.RowKit
set_option linter.unusedVariables false

def rightL (l : List Ent) : Prop := l[0]? = some ent0 ∧ goE l (l.drop 1) = true
theorem checkP_right {l : List Ent} : checkP l = true ↔ (1 ≤ l.length ∧ l.length ≤ 1024) ∧ rightL l := checkP_iff
theorem atE_nat (l : List Ent) (i : Nat) : atE l (i : Int) = l[i]?.getD ent0 := by
  unfold atE
  rw [if_pos (by omega), Int.toNat_natCast]
theorem atE_in {l : List Ent} {i : Int} (h : (atE l i).tag ≠ 0) : ∃ j : Nat, i = j ∧ j < l.length ∧ l[j]? = some (atE l i) := by
  obtain ⟨h1, h2⟩ := tagE_in (l := l) (i := i) h
  obtain ⟨j, rfl⟩ : ∃ j : Nat, i = j := ⟨i.toNat, by omega⟩
  have hj : j < l.length := by omega
  refine ⟨j, rfl, hj, ?_⟩
  rw [atE_nat, List.getElem?_eq_getElem hj]
  rfl
theorem atE_left {l : List Ent} (e : List Ent) {j : Nat} (h : j < l.length) : atE (l ++ e) (j : Int) = atE l (j : Int) := by rw [atE_nat, atE_nat, List.getElem?_append_left h]
theorem atE_keep {l : List Ent} (e : List Ent) {i : Int} (h : (atE l i).tag ≠ 0) : atE (l ++ e) i = atE l i := by
  obtain ⟨j, rfl, hj, _⟩ := atE_in h
  exact atE_left e hj
theorem tagE_keep {l : List Ent} (e : List Ent) {i t : Int} (h : tagE l i = t) (h0 : t ≠ 0) : tagE (l ++ e) i = t := by
  unfold tagE at h ⊢
  rw [atE_keep e (by rw [h]; exact h0), h]
theorem okE_keep {l : List Ent} (e : List Ent) {x : Ent} (h : okE l x = true) : okE (l ++ e) x = true := by
  rcases okE_tag h with t | t | t | t | t | t | t <;> unfold okE at h ⊢ <;> simp [t] at h ⊢
  · exact h
  · exact h
  · exact h
  · exact ⟨tagE_keep e h.1 (by decide), h.2⟩
  · exact ⟨⟨tagE_keep e h.1.1 (by decide), tagE_keep e h.1.2 (by decide)⟩, h.2⟩
  · exact ⟨⟨tagE_keep e h.1.1 (by decide), tagE_keep e h.1.2 (by decide)⟩, h.2⟩
  · exact ⟨⟨tagE_keep e h.1.1 (by decide), tagE_keep e h.1.2 (by decide)⟩, h.2⟩
theorem goE_keep {l : List Ent} (e : List Ent) : ∀ s, goE l s = true → goE (l ++ e) s = true
  | [], _ => rfl
  | [x], h => by
    simp only [goE, Bool.and_eq_true, decide_eq_true_eq] at h ⊢
    exact ⟨okE_keep e h.1, h.2⟩
  | x :: z :: s, h => by
    simp only [goE, Bool.and_eq_true] at h ⊢
    refine ⟨okE_keep e h.1, ?_⟩
    have h2 := h.2
    split
    · rename_i h5
      rw [if_pos h5, Bool.and_eq_true] at h2
      rw [Bool.and_eq_true]
      exact ⟨h2.1, goE_keep e s h2.2⟩
    · rename_i h5
      rw [if_neg h5] at h2
      exact goE_keep e (z :: s) h2
theorem goE_mem {l : List Ent} : ∀ s, goE l s = true → ∀ x ∈ s, x.tag ≠ 0 → okE l x = true
  | [], _, x, hx, _ => by simp at hx
  | [y], h, x, hx, _ => by
    simp only [goE, Bool.and_eq_true] at h
    simp at hx
    subst hx
    exact h.1
  | y :: z :: s, h, x, hx, ht => by
    simp only [goE, Bool.and_eq_true] at h
    have h2 := h.2
    rcases List.mem_cons.1 hx with rfl | hx
    · exact h.1
    · split at h2
      · rw [Bool.and_eq_true, decide_eq_true_eq] at h2
        rcases List.mem_cons.1 hx with rfl | hx
        · rw [h2.1] at ht
          exact absurd rfl ht
        · exact goE_mem s h2.2 x hx ht
      · exact goE_mem (z :: s) h2 x hx ht
theorem goE_append {l : List Ent} (t : List Ent) : ∀ s, goE l s = true → goE l t = true → goE l (s ++ t) = true
  | [], _, h => h
  | [x], h, ht => by
    simp only [goE, Bool.and_eq_true, decide_eq_true_eq] at h
    cases t with
    | nil => simp only [List.append_nil, goE, Bool.and_eq_true, decide_eq_true_eq]; exact h
    | cons z t =>
      show goE l (x :: z :: t) = true
      simp only [goE, Bool.and_eq_true]
      refine ⟨h.1, ?_⟩
      rw [if_neg h.2]
      exact ht
  | x :: z :: s, h, ht => by
    simp only [goE, Bool.and_eq_true] at h
    show goE l (x :: z :: (s ++ t)) = true
    simp only [goE, Bool.and_eq_true]
    refine ⟨h.1, ?_⟩
    have h2 := h.2
    split
    · rename_i h5
      rw [if_pos h5, Bool.and_eq_true] at h2
      rw [Bool.and_eq_true]
      exact ⟨h2.1, goE_append t s h2.2 ht⟩
    · rename_i h5
      rw [if_neg h5] at h2
      exact goE_append t (z :: s) h2 ht
theorem right_ok {l : List Ent} (h : rightL l) {i : Int} (ht : (atE l i).tag ≠ 0) : okE l (atE l i) = true := by
  obtain ⟨j, rfl, hj, e⟩ := atE_in ht
  cases j with
  | zero =>
    rw [h.1] at e
    injection e with e
    rw [← e] at ht
    exact absurd rfl ht
  | succ j =>
    refine goE_mem _ h.2 _ ?_ ht
    refine List.mem_of_getElem? (i := j) ?_
    rw [List.getElem?_drop, Nat.add_comm]
    exact e
/-- What an entry means stays. -/
theorem meanP_keep {l : List Ent} (e : List Ent) (h : rightL l) {j : Nat} (hj : j < l.length) : meanP (l ++ e) (j : Int) = meanP l (j : Int) := by
  unfold meanP
  rw [atE_left e hj]
  by_cases h0 : (atE l (j : Int)).tag = 0
  · simp [h0]
  · have ho := right_ok h h0
    generalize atE l (j : Int) = x at *
    rcases okE_tag ho with t | t | t | t | t | t | t <;> simp only [t] <;> unfold okE at ho <;> simp [t] at ho ⊢
    · rw [atE_keep e (by have := ho.1; unfold tagE at this; omega)]
    all_goals
      obtain ⟨⟨h1, h2⟩, _⟩ := ho
      unfold tagE at h1 h2
      have o1 := right_ok h (i := x.a) (by omega)
      have o2 := right_ok h (i := x.b) (by omega)
      rw [atE_keep e (i := x.a) (by omega), atE_keep e (i := x.b) (by omega)]
      unfold okE at o1 o2
      simp [h1] at o1
      simp [h2] at o2
      have q1 := o1.1
      have q2 := o2.1.1
      have q3 := o2.1.2
      unfold tagE at q1 q2 q3
      rw [atE_keep e (by omega), atE_keep e (by omega), atE_keep e (by omega)]
      exact ⟨rfl, rfl, rfl⟩
theorem withE_eq (l : List Ent) (x : Ent) : withE l x = l ++ (if x.tag = 5 then [x, ent0] else [x]) := by
  unfold withE
  split <;> rfl
theorem right_with {l : List Ent} {x : Ent} (h : rightL l) (ho : okE l x = true) : rightL (withE l x) := by
  rw [withE_eq]
  have hl : 1 ≤ l.length := by
    cases l with
    | nil => have := h.1; simp at this
    | cons y s => simp
  refine ⟨?_, ?_⟩
  · rw [List.getElem?_append_left (by omega)]
    exact h.1
  · rw [List.drop_append_of_le_length hl]
    refine goE_append _ _ (goE_keep _ _ h.2) ?_
    have := okE_keep (if x.tag = 5 then [x, ent0] else [x]) ho
    split
    · rename_i h5
      simp only [h5, if_true] at this
      simp [goE, this, h5]
    · rename_i h5
      simp only [h5, if_false] at this
      simp [goE, this, h5]
/-- The first number of which something holds; 0: of none. -/
theorem first_some {n : Nat} {p : Nat → Bool} {k : Nat} (h : ((List.range n).find? fun i => decide (1 ≤ i) && p i).getD 0 = k) (h0 : k ≠ 0) : 1 ≤ k ∧ k < n ∧ p k = true ∧ ∀ j, 1 ≤ j → j < k → p j = false := by
  cases hf : (List.range n).find? fun i => decide (1 ≤ i) && p i with
  | none => rw [hf] at h; exact absurd h.symm h0
  | some q =>
    rw [hf] at h
    have hq : q = k := h
    subst hq
    obtain ⟨h1, xs, ys, h2, h3⟩ := List.find?_eq_some_iff_append.1 hf
    rw [Bool.and_eq_true, decide_eq_true_eq] at h1
    have hm : q ∈ List.range n := by rw [h2]; simp
    refine ⟨h1.1, List.mem_range.1 hm, h1.2, fun j hj hjk => ?_⟩
    have hjas : j ∈ xs := by
      have hjm : j ∈ List.range n := List.mem_range.2 (Nat.lt_trans hjk (List.mem_range.1 hm))
      have hlen : xs.length = q := by
        have e : (List.range n)[xs.length]? = some q := by rw [h2, List.getElem?_append_right (Nat.le_refl _), Nat.sub_self]; rfl
        have hlt := (List.getElem?_eq_some_iff.1 e).1
        rw [List.length_range] at hlt
        rw [List.getElem?_range hlt] at e
        injection e
      have e : (List.range n)[j]? = xs[j]? := by rw [h2, List.getElem?_append_left (by omega)]
      rw [List.getElem?_range (List.mem_range.1 hjm)] at e
      exact List.mem_of_getElem? e.symm
    have := h3 j hjas
    simpa [hj] using this
theorem first_none {n : Nat} {p : Nat → Bool} (h : ((List.range n).find? fun i => decide (1 ≤ i) && p i).getD 0 = 0) : ∀ j, 1 ≤ j → j < n → p j = false := by
  intro j hj hjn
  cases hf : (List.range n).find? fun i => decide (1 ≤ i) && p i with
  | none =>
    have := List.find?_eq_none.1 hf j (List.mem_range.2 hjn)
    simpa [hj] using this
  | some q =>
    rw [hf] at h
    have hq : q = 0 := h
    subst hq
    have := List.find?_some hf
    simp at this
theorem first_eq {n : Nat} {p : Nat → Bool} {k : Nat} (h1 : 1 ≤ k) (h2 : k < n) (h3 : p k = true) (h4 : ∀ j, 1 ≤ j → j < k → p j = false) : ((List.range n).find? fun i => decide (1 ≤ i) && p i).getD 0 = k := by
  obtain ⟨K, hK⟩ : ∃ K, ((List.range n).find? fun i => decide (1 ≤ i) && p i).getD 0 = K := ⟨_, rfl⟩
  rw [hK]
  by_cases h0 : K = 0
  · subst h0
    have := first_none hK k h1 h2
    rw [h3] at this
    cases this
  · obtain ⟨a1, a2, a3, a4⟩ := first_some hK h0
    rcases Nat.lt_trichotomy K k with h | h | h
    · rw [h4 K a1 h] at a3
      cases a3
    · exact h
    · rw [a4 k h1 h] at h3
      cases h3

end Go.Proofs.Ytnnanlniffjnkaa
