/- Joined: BsA WdA PlA BsB. -/
import Derived.Test.YtdcoknnjgpdigaaGreatDoorProg
import Derived.WalkKit
import Derived.WalkSpells
import Derived.WalkLawsBesides
import Derived.BigQuiet
import Derived.Deep.MidRow
import Derived.Deep.WholeRow
import Derived.Laws.AppendOwnNone
import Derived.Deep.AppendLies
import Derived.Deep.RegionHeldLaw
import Derived.Great.BuildSlice
import Derived.Laws.BitsAllLaws

/- What every layer's texts stand on: bytes in memory, copies of one's own, Among. -/
namespace Go.Proofs.YtdcoknnjgpdigaaGreatDoor
open Go.RowKit
set_option linter.unusedVariables false

theorem hide {p : Prop} (h : p) : Hid p := h

theorem unhide {p : Prop} (h : Hid p) : p := h

theorem cell_alloc {w : World} {a : Addr} {v : Value} (h : w.cell? a = some v) (ob : Obj) : (w.alloc ob).cell? a = some v := by
  rw [World.cell?_alloc_lt _ _ _ (World.block_lt_of_cell? w _ h)]; exact h

def bv (l : List UInt8) : List Value := l.map fun b => Value.int .u8 (b.toNat : Int)

theorem bv_length (l : List UInt8) : (bv l).length = l.length := by simp [bv]

theorem bv_one (l : List UInt8) : ∀ v ∈ bv l, v.oneCell' = true := by
  intro v hv
  simp only [bv, List.mem_map] at hv
  obtain ⟨b, _, rfl⟩ := hv
  rfl

theorem bv_append (a b : List UInt8) : bv (a ++ b) = bv a ++ bv b := by simp [bv]

theorem lt_of_heap {w : World} {k : Nat} {o : Obj} (h : w.heap[k]? = some o) : k < w.heap.size := (Array.getElem?_eq_some_iff.1 h).1

theorem own_of_block {w w' : World} {B : Nat} {e : TypeId} {size n : Nat} {v : Value} {xs : List Value} (h : w.ownsRow B e size v n xs) (hk : ∀ k, v.ownBlock = some k → w'.heap[k]? = w.heap[k]?) : w'.ownsRow B e size v n xs := by
  refine ⟨h.1, ?_⟩
  rcases h.2 with h2 | ⟨q, cap, cur, rfl, hb, hq, r⟩
  · exact .inl h2
  · exact .inr ⟨q, cap, cur, rfl, hb, by rw [hk q rfl]; exact hq, r⟩

/-- A number as one from 0 to n - 1. -/
def among (x : Int) (n : Nat) : Nat := ((x % 18446744073709551616) % (n : Int)).toNat

/-- At address a lie the bytes l. -/
def BytesAt (w : World) (a : Option Addr) (l : List UInt8) : Prop := (a = none → l = []) ∧ ∀ ad, a = some ad → ∀ j u, (bv l)[j]? = some u → w.cell? (ad.add j) = some u

theorem foldl_push (l : List UInt8) : ∀ (s : ByteArray), ((l.map fun b => (b.toNat : Int)).foldl (fun r n => r.push (UInt8.ofNat n.toNat)) s) = ⟨s.data ++ l.toArray⟩ := by
  induction l with
  | nil => intro s; simp
  | cons x l ih =>
    intro s
    simp only [List.map_cons, List.foldl_cons]
    rw [ih]
    have : UInt8.ofNat (Int.toNat (x.toNat : Int)) = x := by simp
    rw [this]
    apply ByteArray.ext
    simp [ByteArray.push]

theorem conv_bytes (w : World) (a : Option Addr) (l : List UInt8) (c : Nat) (h : BytesAt w a l) : (convert 29 9 (.slice a l.length c)).run Tryz.prog w = .ok (.string ⟨l.toArray⟩) w := by
  rw [run_convert_bytes_string w 29 9 5 a l.length c Tryz.underlying29 (by kernel_rfl) (by kernel_rfl)]
  cases a with
  | none =>
    have := h.1 rfl
    subst this
    rfl
  | some ad =>
    have hb : bv l = (l.map fun b => (b.toNat : Int)).map (Value.int .u8) := by simp [bv]
    have hl := run_loadCells_list (P := Tryz.prog) w ad (bv l) (h.2 ad rfl)
    rw [bv_length, hb] at hl
    rw [run_bytesToString w ad l.length c (l.map fun b => (b.toNat : Int)) hl, foldl_push]
    simp

set_option maxHeartbeats 400000 in
theorem SameBytes_any (w : World) (a b : Option Addr) (x y : List UInt8) (c d : Nat) (ha : BytesAt w a x) (hb : BytesAt w b y) :
    Calls Tryz.prog 11 #[.slice a x.length c, .slice b y.length d] w fun e w' => e = .returned (.bool (decide (x = y))) ∧ w' = w := by
  have h1 := conv_bytes w a x c ha
  have h2 := conv_bytes w b y d hb
  clear ha hb
  go_enter Tryz.func11, Tryz.ntmps11
  go_wp2
  go_ret
  refine ⟨?_, rfl⟩
  show Ending.returned (.bool (x == y)) = _
  rw [Bool.beq_eq_decide_eq]

theorem SameBytes_n (w : World) (a b : Option Addr) (x y : List UInt8) (n m c d : Nat) (ha : BytesAt w a x) (hb : BytesAt w b y) (hn : x.length = n) (hm : y.length = m) :
    Calls Tryz.prog 11 #[.slice a n c, .slice b m d] w fun e w' => e = .returned (.bool (decide (x = y))) ∧ w' = w := by
  subst hn; subst hm; exact SameBytes_any w a b x y c d ha hb

theorem bytes_of_block {w : World} {q : Nat} {l : List UInt8} {e : TypeId} {f : Nat × Nat} (h : w.heap[q]? = some (.cells (bv l).toArray e f)) : BytesAt w (some ⟨q, 0, none⟩) l :=
  ⟨(fun h => by cases h), fun ad e => by injection e with e; subst e; exact World.news_of_block h⟩

theorem own_form {w : World} {base : Nat} {e : TypeId} {v : Value} {n : Nat} {xs : List Value} (h : w.ownsRow base e 1 v n xs) : ∃ a c, v = .slice a n c ∧ (0 < n → ∃ q, a = some ⟨q, 0, none⟩ ∧ ∀ j u, xs[j]? = some u → w.cell? ⟨q, j, none⟩ = some u) := by
  rcases h.2 with ⟨rfl, rfl⟩ | ⟨q, cap, cur, rfl, _⟩
  · exact ⟨none, 0, rfl, fun h => by omega⟩
  · refine ⟨_, cap, rfl, fun _ => ⟨q, rfl, fun j u hu => ?_⟩⟩
    have := h.cells (g := q) rfl j u hu
    rw [Addr.add_mid, Nat.zero_add] at this
    exact this

theorem own_below {w w' : World} {base n : Nat} {e : TypeId} {v : Value} {xs : List Value} (h : w.ownsRow base e 1 v n xs) (f : Below w.heap.size w w') : w'.ownsRow base e 1 v n xs :=
  own_of_block h (fun k hk => f.block k (h.lt k hk).2)

theorem own_bytes {w : World} {base n c : Nat} {a : Option Addr} {l : List UInt8} (h : w.ownsRow base 5 1 (.slice a n c) n (bv l)) : BytesAt w a l := by
  rcases h.2 with ⟨e, h0⟩ | ⟨q, cap, cur, e, _⟩
  · have := h.1
    rw [bv_length, h0] at this
    have e2 : l = [] := List.eq_nil_of_length_eq_zero (by simpa using this)
    injection e with ea _ _
    subst ea
    exact ⟨fun _ => e2, fun ad e3 => by cases e3⟩
  · injection e with ea _ _
    subst ea
    refine ⟨(fun e3 => by cases e3), fun ad e3 => ?_⟩
    injection e3 with e4
    subst e4
    exact h.cells (g := q) rfl

theorem infoB : (Tryz.prog.info? 5).map (fun i => (i.zero, i.size, i.bytes)) = some (some (.int .u8 0), 1, 1) := by kernel_rfl

/-- A slice of bytes that came in, or is one's own. -/
def BytesOf (w : World) (a : Option Addr) (n c : Nat) (l : List UInt8) : Prop := l.length = n ∧ n ≤ c ∧ c ≤ 9223372036854775807 ∧ ((a = none ∧ n = 0 ∧ c = 0) ∨ ∃ b o, a = some ⟨b, o, none⟩ ∧ BytesAt w (some ⟨b, o, none⟩) l) ∨ (l.length = n ∧ n = 0 ∧ c ≤ 9223372036854775807 ∧ ∃ ad, a = some ad)

theorem BytesAt.below {w w' : World} {a : Option Addr} {l : List UInt8} (h : BytesAt w a l) (hb : Below w.heap.size w w') : BytesAt w' a l :=
  ⟨h.1, fun ad e j u hu => by
    have h1 := h.2 ad e j u hu
    have hlt := World.block_lt_of_cell? w _ h1
    exact (hb.cell hlt).trans h1⟩

theorem BytesOf.at {w : World} {a : Option Addr} {n c : Nat} {l : List UInt8} (h : BytesOf w a n c l) : BytesAt w a l := by
  rcases h with ⟨hn, _, _, ⟨rfl, rfl, rfl⟩ | ⟨b, o, rfl, h⟩⟩ | ⟨hn, rfl, _, ad, rfl⟩
  · exact ⟨fun _ => List.eq_nil_of_length_eq_zero hn, fun ad e => by cases e⟩
  · exact h
  · obtain rfl : l = [] := List.eq_nil_of_length_eq_zero hn
    exact ⟨fun _ => rfl, fun _ _ j u hu => by simp [bv] at hu⟩

theorem BytesOf.len {w : World} {a : Option Addr} {n c : Nat} {l : List UInt8} (h : BytesOf w a n c l) : l.length = n := by
  rcases h with h | h
  · exact h.1
  · exact h.1

end Go.Proofs.YtdcoknnjgpdigaaGreatDoor

/- Numbers in bytes, as plain values. -/
namespace Go.Proofs.YtdcoknnjgpdigaaGreatDoor
open Go.RowKit
set_option linter.unusedVariables false

/-- The number that bytes are, the highest first. -/
def numB (l : List UInt8) : Nat := l.foldl (fun a x => a * 256 + x.toNat) 0
/-- A number's bytes, so many. -/
def beK : Nat → Nat → List UInt8
  | 0, _ => []
  | k + 1, x => beK k (x / 256) ++ [UInt8.ofNat x]
theorem beK_len (k : Nat) : ∀ x, (beK k x).length = k := by
  induction k with
  | zero => intro x; rfl
  | succ k ih => intro x; rw [beK, List.length_append, ih, List.length_singleton]
def wide (k : Int) : Prop := k = 1 ∨ k = 2 ∨ k = 4 ∨ k = 8
instance (k : Int) : Decidable (wide k) := by unfold wide; infer_instance
/-- Does a number fit so many bytes? -/
def fitsW (k n : Int) (sg : Bool) : Prop := wide k ∧ (if k = 8 then sg = true ∨ 0 ≤ n else if sg = true then -((256 ^ k.toNat : Nat) : Int) ≤ 2 * n ∧ 2 * n < ((256 ^ k.toNat : Nat) : Int) else 0 ≤ n ∧ n < ((256 ^ k.toNat : Nat) : Int))
instance (k n : Int) (sg : Bool) : Decidable (fitsW k n sg) := by unfold fitsW; infer_instance
def bytesW (k n : Int) : List UInt8 := beK k.toNat (n % 18446744073709551616).toNat
theorem bytesW_len (k n : Int) : (bytesW k n).length = k.toNat := beK_len _ _
theorem wide_nat {k : Int} (h : wide k) : ∃ m : Nat, k = m ∧ (m = 1 ∨ m = 2 ∨ m = 4 ∨ m = 8) := by
  rcases h with rfl | rfl | rfl | rfl
  · exact ⟨1, rfl, by simp⟩
  · exact ⟨2, rfl, by simp⟩
  · exact ⟨4, rfl, by simp⟩
  · exact ⟨8, rfl, by simp⟩
def putW (bs : List UInt8) (k : Int) (sg : Bool) (l : List Int) : List UInt8 × Int :=
  if wide k ∧ ∀ n ∈ l, fitsW k n sg then (bs ++ l.flatMap (bytesW k), 0) else (bs, 2)
def patchW (bs : List UInt8) (at_ k n : Int) : List UInt8 × Int :=
  if fitsW k n false ∧ 0 ≤ at_ ∧ at_ ≤ (bs.length : Int) - k then (bs.take at_.toNat ++ bytesW k n ++ bs.drop (at_.toNat + k.toNat), 0) else (bs, 2)
end Go.Proofs.YtdcoknnjgpdigaaGreatDoor

/- Pools as plain values: entries, constants; right, read, written, meant, put. -/
namespace Go.Proofs.YtdcoknnjgpdigaaGreatDoor
open Go.RowKit
set_option linter.unusedVariables false

structure Ent where
  tag : Int
  text : List UInt8
  n : Int
  a : Int
  b : Int
structure Cst where
  tag : Int
  n : Int
  cls : List UInt8
  name : List UInt8
  type : List UInt8
theorem Ent.eq_iff (x y : Ent) : (x.tag = y.tag ∧ x.text = y.text ∧ x.n = y.n ∧ x.a = y.a ∧ x.b = y.b) ↔ x = y := by
  obtain ⟨a, b, c, d, e⟩ := x
  obtain ⟨a', b', c', d', e'⟩ := y
  constructor
  · rintro ⟨h1, h2, h3, h4, h5⟩
    simp only at h1 h2 h3 h4 h5
    subst h1 h2 h3 h4 h5
    rfl
  · intro h
    injection h with h1 h2 h3 h4 h5
    exact ⟨h1, h2, h3, h4, h5⟩
theorem Cst.eq_iff (x y : Cst) : (x.tag = y.tag ∧ x.n = y.n ∧ x.cls = y.cls ∧ x.name = y.name ∧ x.type = y.type) ↔ x = y := by
  obtain ⟨a, b, c, d, e⟩ := x
  obtain ⟨a', b', c', d', e'⟩ := y
  constructor
  · rintro ⟨h1, h2, h3, h4, h5⟩
    simp only at h1 h2 h3 h4 h5
    subst h1 h2 h3 h4 h5
    rfl
  · intro h
    injection h with h1 h2 h3 h4 h5
    exact ⟨h1, h2, h3, h4, h5⟩
instance : DecidableEq Ent := fun x y => decidable_of_iff _ (Ent.eq_iff x y)
instance : DecidableEq Cst := fun x y => decidable_of_iff _ (Cst.eq_iff x y)
def ent0 : Ent := ⟨0, [], 0, 0, 0⟩
def cst0 : Cst := ⟨0, 0, [], [], []⟩
def eUtf (s : List UInt8) : Ent := ⟨1, s, 0, 0, 0⟩
def textB (s : List UInt8) : Bool := s.all (fun x => decide (33 ≤ x.toNat) && decide (x.toNat ≤ 126)) && decide (s.length ≤ 255)
def atE (l : List Ent) (i : Int) : Ent := if 0 ≤ i then l[i.toNat]?.getD ent0 else ent0
def tagE (l : List Ent) (i : Int) : Int := (atE l i).tag
/-- An entry that may stand in a pool. -/
def okE (l : List Ent) (x : Ent) : Bool :=
  if x.tag = 1 then textB x.text && decide (x = eUtf x.text)
  else if x.tag = 3 then decide (-2147483648 ≤ x.n ∧ x.n ≤ 2147483647) && decide (x = ⟨3, [], x.n, 0, 0⟩)
  else if x.tag = 5 then decide (x = ⟨5, [], x.n, 0, 0⟩)
  else if x.tag = 7 then decide (tagE l x.a = 1) && decide (x = ⟨7, [], 0, x.a, 0⟩)
  else if x.tag = 12 then decide (tagE l x.a = 1 ∧ tagE l x.b = 1) && decide (x = ⟨12, [], 0, x.a, x.b⟩)
  else if x.tag = 9 ∨ x.tag = 10 then decide (tagE l x.a = 7 ∧ tagE l x.b = 12) && decide (x = ⟨x.tag, [], 0, x.a, x.b⟩)
  else false
/-- Entries, one behind the other; behind a long a zero entry. -/
def goE (l : List Ent) : List Ent → Bool
  | [] => true
  | [x] => okE l x && decide (x.tag ≠ 5)
  | x :: z :: r => okE l x && (if x.tag = 5 then decide (z = ent0) && goE l r else goE l (z :: r))
def checkP (l : List Ent) : Bool := decide (1 ≤ l.length ∧ l.length ≤ 1024) && decide (l[0]? = some ent0) && goE l (l.drop 1)

/-- An entry's bytes. -/
def bodyE (x : Ent) : List UInt8 :=
  if x.tag = 1 then bytesW 2 x.text.length ++ x.text
  else if x.tag = 3 then bytesW 4 x.n
  else if x.tag = 5 then bytesW 8 x.n
  else if x.tag = 7 then bytesW 2 x.a
  else bytesW 2 x.a ++ bytesW 2 x.b
def bytesE (x : Ent) : List UInt8 := if x.tag = 0 then [] else UInt8.ofNat x.tag.toNat :: bodyE x
def bytesP (l : List Ent) : List UInt8 := bytesW 2 l.length ++ (l.drop 1).flatMap bytesE

/-- An entry more, behind a long with its zero. -/
def withE (l : List Ent) (x : Ent) : List Ent := if x.tag = 5 then l ++ [x, ent0] else l ++ [x]
/-- What an entry means; none: nothing. -/
def meanP (l : List Ent) (i : Int) : Cst :=
  let x := atE l i
  if x.tag = 3 ∨ x.tag = 5 then ⟨x.tag, x.n, [], [], []⟩
  else if x.tag = 7 then ⟨7, 0, (atE l x.a).text, [], []⟩
  else if x.tag = 9 ∨ x.tag = 10 then ⟨x.tag, 0, (atE l (atE l x.a).a).text, (atE l (atE l x.b).a).text, (atE l (atE l x.b).b).text⟩
  else cst0
/-- The first number of an entry; 0: there is none. -/
def findE (l : List Ent) (x : Ent) : Nat := ((List.range l.length).find? fun i => decide (1 ≤ i) && decide (l[i]? = some x)).getD 0
def addE (l : List Ent) (x : Ent) : List Ent × Nat := if findE l x = 0 then (withE l x, l.length) else (l, findE l x)
/-- The first number that means a constant; 0: none does. -/
def meansE (l : List Ent) (c : Cst) : Nat := ((List.range l.length).find? fun (i : Nat) => decide (1 ≤ i) && decide (meanP l (i : Int) = c)).getD 0
/-- A pool with what a constant wants. -/
def growP (l : List Ent) (c : Cst) : List Ent × Nat :=
  if c.tag = 3 ∨ c.tag = 5 then addE l ⟨c.tag, [], c.n, 0, 0⟩
  else if c.tag = 7 then
    let t := addE l (eUtf c.cls)
    addE t.1 ⟨7, [], 0, t.2, 0⟩
  else
    let t := addE l (eUtf c.cls)
    let k := addE t.1 ⟨7, [], 0, t.2, 0⟩
    let n := addE k.1 (eUtf c.name)
    let y := addE n.1 (eUtf c.type)
    let z := addE y.1 ⟨12, [], 0, n.2, y.2⟩
    addE z.1 ⟨c.tag, [], 0, k.2, z.2⟩
end Go.Proofs.YtdcoknnjgpdigaaGreatDoor

/- Slices of bytes that came in, or are one's own: read, copied, cut. -/
namespace Go.Proofs.YtdcoknnjgpdigaaGreatDoor
open Go.RowKit
set_option linter.unusedVariables false

/-- A slice of the bytes l. -/
def Bs (w : World) (a : Option Addr) (n : Nat) (l : List UInt8) : Prop := l.length = n ∧ (n = 0 ∨ ∃ b o, a = some ⟨b, o, none⟩ ∧ BytesAt w (some ⟨b, o, none⟩) l)

theorem Bs.below {w w' : World} {a : Option Addr} {n : Nat} {l : List UInt8} (h : Bs w a n l) (f : Below w.heap.size w w') : Bs w' a n l := by
  rcases h with ⟨h1, h2 | ⟨b, o, e, h2⟩⟩
  · exact ⟨h1, .inl h2⟩
  · exact ⟨h1, .inr ⟨b, o, e, h2.below f⟩⟩

theorem Bs.at {w : World} {a : Option Addr} {n : Nat} {l : List UInt8} (h : Bs w a n l) : BytesAt w a l := by
  rcases h with ⟨h1, h2 | ⟨b, o, e, h2⟩⟩
  · have : l = [] := List.eq_nil_of_length_eq_zero (by omega)
    subst this
    exact ⟨fun _ => rfl, fun ad e j u hu => by simp [bv] at hu⟩
  · rw [e]; exact h2

theorem bs_of_own {w : World} {base n c : Nat} {a : Option Addr} {l : List UInt8} (hn : l.length = n) (h : w.ownsRow base 5 1 (.slice a n c) n (bv l)) : Bs w a n l := by
  have hb := own_bytes h
  rcases h.2 with ⟨e, h0⟩ | ⟨q, cap, cur, e, _⟩
  · exact ⟨hn, .inl (by omega)⟩
  · injection e with e
    subst e
    exact ⟨hn, .inr ⟨q, 0, rfl, hb⟩⟩

theorem own_cap {w : World} {base n c : Nat} {a : Option Addr} {xs : List Value} (h : w.ownsRow base 5 1 (.slice a n c) n xs) : n ≤ c ∧ c ≤ 9223372036854775807 := by
  rcases h.2 with ⟨e, h0⟩ | ⟨g, cap, cur, e, _, _, h1, h2, _⟩
  · injection e with _ e2 e3
    subst e3
    omega
  · injection e with _ _ ec
    subst ec
    unfold maxLen at h2
    exact ⟨h1, by omega⟩

/-- A slice of bytes that came in. -/
structure Arg (w : World) (a : Option Addr) (n cap : Nat) (l : List UInt8) : Prop where
  bs : Bs w a n l
  room : n ≤ cap
  most : cap ≤ 9223372036854775807
  nil : a = none → n = 0 ∧ cap = 0

theorem SameBytes_same (w : World) (a b : Option Addr) (l : List UInt8) (n c d : Nat) (ha : Bs w a n l) (hb : Bs w b n l) :
    Calls Tryz.prog 11 #[.slice a n c, .slice b n d] w fun e w' => e = .returned (.bool true) ∧ w' = w := by
  refine (SameBytes_n w a b l l n n c d ha.at hb.at ha.1 hb.1).mono ?_
  rintro e w' ⟨rfl, rfl⟩
  exact ⟨by simp, rfl⟩

theorem Arg.below {w w' : World} {a : Option Addr} {n cap : Nat} {l : List UInt8} (h : Arg w a n cap l) (f : Below w.heap.size w w') : Arg w' a n cap l := ⟨h.bs.below f, h.room, h.most, h.nil⟩

theorem arg_of_own {w : World} {base n c : Nat} {a : Option Addr} {l : List UInt8} (hn : l.length = n) (h : w.ownsRow base 5 1 (.slice a n c) n (bv l)) : Arg w a n c l := by
  refine ⟨bs_of_own hn h, (own_cap h).1, (own_cap h).2, fun e => ?_⟩
  rcases h.2 with ⟨e1, h0⟩ | ⟨q, cap, cur, e1, _⟩
  · injection e1 with _ e2 e3
    exact ⟨h0, e3⟩
  · injection e1 with e1
    rw [e] at e1
    cases e1

theorem own_base {w : World} {base base' n : Nat} {v : Value} {xs : List Value} (h : w.ownsRow base 5 1 v n xs) (hb : base' ≤ base) : w.ownsRow base' 5 1 v n xs :=
  ⟨h.1, h.2.elim .inl (fun ⟨g, cap, cur, hv, hg, r⟩ => .inr ⟨g, cap, cur, hv, Nat.le_trans hb hg, r⟩)⟩

end Go.Proofs.YtdcoknnjgpdigaaGreatDoor
