/- Joined: BsA BsB SmA SmB FrA SmR SmS FrR FrW FrF FrS FrB WlA ArA. -/
import Derived.Test.YtfggahkimconfaaGreatDoorProg
import Derived.WalkKit
import Derived.WalkSpells
import Derived.WalkLawsBesides
import Derived.BigQuiet
import Derived.Deep.MidRow
import Derived.Deep.WholeRow
import Derived.Laws.AppendOwnNone
import Derived.Deep.AppendLies
import Derived.Deep.RegionHeldLaw
import Derived.Great.BuildSlice
import Derived.Laws.BitsAllLaws
import Derived.Deep.RegionLawGrows
import Derived.Deep.RegionHeld3
import Derived.Lib.AppendStr
import Derived.Deep.CutBlock
import Derived.Laws.ResultCell
import Derived.ProofKit
import Derived.OpenShut
import Derived.SizedLaws

/- What every layer's texts stand on: bytes in memory, copies of one's own, Among. -/
namespace Go.Proofs.YtfggahkimconfaaGreatDoor
open Go.RowKit
set_option linter.unusedVariables false

theorem hide {p : Prop} (h : p) : Hid p := h

theorem unhide {p : Prop} (h : Hid p) : p := h

theorem cell_alloc {w : World} {a : Addr} {v : Value} (h : w.cell? a = some v) (ob : Obj) : (w.alloc ob).cell? a = some v := by
  rw [World.cell?_alloc_lt _ _ _ (World.block_lt_of_cell? w _ h)]; exact h

def bv (l : List UInt8) : List Value := l.map fun b => Value.int .u8 (b.toNat : Int)

theorem bv_length (l : List UInt8) : (bv l).length = l.length := by simp [bv]

theorem bv_one (l : List UInt8) : ∀ v ∈ bv l, v.oneCell' = true := by
  intro v hv
  simp only [bv, List.mem_map] at hv
  obtain ⟨b, _, rfl⟩ := hv
  rfl

theorem bv_append (a b : List UInt8) : bv (a ++ b) = bv a ++ bv b := by simp [bv]

theorem lt_of_heap {w : World} {k : Nat} {o : Obj} (h : w.heap[k]? = some o) : k < w.heap.size := (Array.getElem?_eq_some_iff.1 h).1

theorem own_of_block {w w' : World} {B : Nat} {e : TypeId} {size n : Nat} {v : Value} {xs : List Value} (h : w.ownsRow B e size v n xs) (hk : ∀ k, v.ownBlock = some k → w'.heap[k]? = w.heap[k]?) : w'.ownsRow B e size v n xs := by
  refine ⟨h.1, ?_⟩
  rcases h.2 with h2 | ⟨q, cap, cur, rfl, hb, hq, r⟩
  · exact .inl h2
  · exact .inr ⟨q, cap, cur, rfl, hb, by rw [hk q rfl]; exact hq, r⟩

theorem ret_int {k : IntKind} {a b : Int} (h : a = b) : Ending.returned (.int k a) = .returned (.int k b) := by rw [h]

/-- A number as one from 0 to n - 1. -/
def among (x : Int) (n : Nat) : Nat := ((x % 18446744073709551616) % (n : Int)).toNat

theorem among_lt (x : Int) (n : Nat) (hn : 1 ≤ n) : among x n < n := by
  unfold among
  have := Int.emod_lt_of_pos (x % 18446744073709551616) (show (0 : Int) < n by omega)
  have := Int.emod_nonneg (x % 18446744073709551616) (show (n : Int) ≠ 0 by omega)
  omega

theorem among_eq (x : Int) (n : Nat) (hn : 1 ≤ n) (hn' : (n : Int) ≤ 9223372036854775807) : wrap64 ((IntKind.u64.wrap x).tmod n) = (among x n : Int) := by
  have h0 : 0 ≤ x % 18446744073709551616 := Int.emod_nonneg _ (by decide)
  rw [IntKind.wrap_u64, Int.tmod_eq_emod_of_nonneg h0]
  have h1 := Int.emod_lt_of_pos (x % 18446744073709551616) (show (0 : Int) < n by omega)
  have h2 := Int.emod_nonneg (x % 18446744073709551616) (show (n : Int) ≠ 0 by omega)
  unfold among
  rw [Int.toNat_of_nonneg h2]
  unfold wrap64
  omega

/-- At address a lie the bytes l. -/
def BytesAt (w : World) (a : Option Addr) (l : List UInt8) : Prop := (a = none → l = []) ∧ ∀ ad, a = some ad → ∀ j u, (bv l)[j]? = some u → w.cell? (ad.add j) = some u

theorem foldl_push (l : List UInt8) : ∀ (s : ByteArray), ((l.map fun b => (b.toNat : Int)).foldl (fun r n => r.push (UInt8.ofNat n.toNat)) s) = ⟨s.data ++ l.toArray⟩ := by
  induction l with
  | nil => intro s; simp
  | cons x l ih =>
    intro s
    simp only [List.map_cons, List.foldl_cons]
    rw [ih]
    have : UInt8.ofNat (Int.toNat (x.toNat : Int)) = x := by simp
    rw [this]
    apply ByteArray.ext
    simp [ByteArray.push]

theorem conv_bytes (w : World) (a : Option Addr) (l : List UInt8) (c : Nat) (h : BytesAt w a l) : (convert 43 9 (.slice a l.length c)).run Tryz.prog w = .ok (.string ⟨l.toArray⟩) w := by
  rw [run_convert_bytes_string w 43 9 5 a l.length c Tryz.underlying43 (by kernel_rfl) (by kernel_rfl)]
  cases a with
  | none =>
    have := h.1 rfl
    subst this
    rfl
  | some ad =>
    have hb : bv l = (l.map fun b => (b.toNat : Int)).map (Value.int .u8) := by simp [bv]
    have hl := run_loadCells_list (P := Tryz.prog) w ad (bv l) (h.2 ad rfl)
    rw [bv_length, hb] at hl
    rw [run_bytesToString w ad l.length c (l.map fun b => (b.toNat : Int)) hl, foldl_push]
    simp

set_option maxHeartbeats 400000 in
theorem SameBytes_any (w : World) (a b : Option Addr) (x y : List UInt8) (c d : Nat) (ha : BytesAt w a x) (hb : BytesAt w b y) :
    Calls Tryz.prog 11 #[.slice a x.length c, .slice b y.length d] w fun e w' => e = .returned (.bool (decide (x = y))) ∧ w' = w := by
  have h1 := conv_bytes w a x c ha
  have h2 := conv_bytes w b y d hb
  clear ha hb
  go_enter Tryz.func11, Tryz.ntmps11
  go_wp2
  go_ret
  refine ⟨?_, rfl⟩
  show Ending.returned (.bool (x == y)) = _
  rw [Bool.beq_eq_decide_eq]

theorem SameBytes_n (w : World) (a b : Option Addr) (x y : List UInt8) (n m c d : Nat) (ha : BytesAt w a x) (hb : BytesAt w b y) (hn : x.length = n) (hm : y.length = m) :
    Calls Tryz.prog 11 #[.slice a n c, .slice b m d] w fun e w' => e = .returned (.bool (decide (x = y))) ∧ w' = w := by
  subst hn; subst hm; exact SameBytes_any w a b x y c d ha hb

theorem bytes_of_block {w : World} {q : Nat} {l : List UInt8} {e : TypeId} {f : Nat × Nat} (h : w.heap[q]? = some (.cells (bv l).toArray e f)) : BytesAt w (some ⟨q, 0, none⟩) l :=
  ⟨(fun h => by cases h), fun ad e => by injection e with e; subst e; exact World.news_of_block h⟩

set_option maxHeartbeats 400000 in
theorem Among_any (w : World) (x : Int) (n : Nat) (hn : 1 ≤ n) (hn' : (n : Int) ≤ 9223372036854775807) :
    Calls Tryz.prog 4 #[.int .i64 x, .int .i64 n] w fun e w' => e = .returned (.int .i64 (among x n)) ∧ w' = w := by
  have h := among_eq x n hn hn'
  have H := hide h
  clear h
  go_enter Tryz.func4, Tryz.ntmps4
  go_wp2
  go_ret
  exact ⟨ret_int (unhide H), rfl⟩

theorem own_form {w : World} {base : Nat} {e : TypeId} {v : Value} {n : Nat} {xs : List Value} (h : w.ownsRow base e 1 v n xs) : ∃ a c, v = .slice a n c ∧ (0 < n → ∃ q, a = some ⟨q, 0, none⟩ ∧ ∀ j u, xs[j]? = some u → w.cell? ⟨q, j, none⟩ = some u) := by
  rcases h.2 with ⟨rfl, rfl⟩ | ⟨q, cap, cur, rfl, _⟩
  · exact ⟨none, 0, rfl, fun h => by omega⟩
  · refine ⟨_, cap, rfl, fun _ => ⟨q, rfl, fun j u hu => ?_⟩⟩
    have := h.cells (g := q) rfl j u hu
    rw [Addr.add_mid, Nat.zero_add] at this
    exact this

theorem own_below {w w' : World} {base n : Nat} {e : TypeId} {v : Value} {xs : List Value} (h : w.ownsRow base e 1 v n xs) (f : Below w.heap.size w w') : w'.ownsRow base e 1 v n xs :=
  own_of_block h (fun k hk => f.block k (h.lt k hk).2)

theorem own_bytes {w : World} {base n c : Nat} {a : Option Addr} {l : List UInt8} (h : w.ownsRow base 5 1 (.slice a n c) n (bv l)) : BytesAt w a l := by
  rcases h.2 with ⟨e, h0⟩ | ⟨q, cap, cur, e, _⟩
  · have := h.1
    rw [bv_length, h0] at this
    have e2 : l = [] := List.eq_nil_of_length_eq_zero (by simpa using this)
    injection e with ea _ _
    subst ea
    exact ⟨fun _ => e2, fun ad e3 => by cases e3⟩
  · injection e with ea _ _
    subst ea
    refine ⟨(fun e3 => by cases e3), fun ad e3 => ?_⟩
    injection e3 with e4
    subst e4
    exact h.cells (g := q) rfl

theorem infoB : (Tryz.prog.info? 5).map (fun i => (i.zero, i.size, i.bytes)) = some (some (.int .u8 0), 1, 1) := by kernel_rfl

/-- A slice of bytes that came in, or is one's own. -/
def BytesOf (w : World) (a : Option Addr) (n c : Nat) (l : List UInt8) : Prop := l.length = n ∧ n ≤ c ∧ c ≤ 9223372036854775807 ∧ ((a = none ∧ n = 0 ∧ c = 0) ∨ ∃ b o, a = some ⟨b, o, none⟩ ∧ BytesAt w (some ⟨b, o, none⟩) l) ∨ (l.length = n ∧ n = 0 ∧ c ≤ 9223372036854775807 ∧ ∃ ad, a = some ad)

theorem BytesAt.below {w w' : World} {a : Option Addr} {l : List UInt8} (h : BytesAt w a l) (hb : Below w.heap.size w w') : BytesAt w' a l :=
  ⟨h.1, fun ad e j u hu => by
    have h1 := h.2 ad e j u hu
    have hlt := World.block_lt_of_cell? w _ h1
    exact (hb.cell hlt).trans h1⟩

theorem BytesOf.at {w : World} {a : Option Addr} {n c : Nat} {l : List UInt8} (h : BytesOf w a n c l) : BytesAt w a l := by
  rcases h with ⟨hn, _, _, ⟨rfl, rfl, rfl⟩ | ⟨b, o, rfl, h⟩⟩ | ⟨hn, rfl, _, ad, rfl⟩
  · exact ⟨fun _ => List.eq_nil_of_length_eq_zero hn, fun ad e => by cases e⟩
  · exact h
  · obtain rfl : l = [] := List.eq_nil_of_length_eq_zero hn
    exact ⟨fun _ => rfl, fun _ _ j u hu => by simp [bv] at hu⟩

theorem BytesOf.len {w : World} {a : Option Addr} {n c : Nat} {l : List UInt8} (h : BytesOf w a n c l) : l.length = n := by
  rcases h with h | h
  · exact h.1
  · exact h.1

theorem own_cell {w : World} {base q n c k : Nat} {xs : List Value} (h : w.ownsRow base 5 1 (.slice (some ⟨q, 0, none⟩) n c) n xs) (hk : k < n) : (∃ u, w.cell? ⟨q, k, none⟩ = some u) ∧ w.frozen? ⟨q, k, none⟩ = false := by
  rcases h.2 with ⟨e1, _⟩ | ⟨q', cap', cur, e1, _, hq, h3, _, h5, _⟩
  · cases e1
  · injection e1 with e2 _ e3; injection e2 with e2; injection e2 with e2
    subst e2; subst e3
    exact ⟨⟨cur[k]'(by omega), by rw [cell_of_row _ _ _ _ _ _ hq, Array.getElem?_eq_getElem (by omega)]⟩, frozen_of_row _ _ _ _ _ hq⟩

end Go.Proofs.YtfggahkimconfaaGreatDoor

/- Slices of bytes that came in, or are one's own: read, copied, cut. -/
namespace Go.Proofs.YtfggahkimconfaaGreatDoor
open Go.RowKit
set_option linter.unusedVariables false

theorem bA {a w : World} (h : Below a.heap.size a w) (o : Obj) : Below a.heap.size a (w.alloc o) := h.alloc h.size o
theorem bT {a X Y : World} (k : Below X.heap.size X Y) (h : Below a.heap.size a X) : Below a.heap.size a Y := h.trans (k.mono h.size)

theorem gen_below {w w' : World} {base n size : Nat} {e : TypeId} {v : Value} {xs : List Value} (h : w.ownsRow base e size v n xs) (f : Below w.heap.size w w') : w'.ownsRow base e size v n xs :=
  own_of_block h (fun k hk => f.block k (h.lt k hk).2)

/-- A slice of the bytes l. -/
def Bs (w : World) (a : Option Addr) (n : Nat) (l : List UInt8) : Prop := l.length = n ∧ (n = 0 ∨ ∃ b o, a = some ⟨b, o, none⟩ ∧ BytesAt w (some ⟨b, o, none⟩) l)

theorem Bs.below {w w' : World} {a : Option Addr} {n : Nat} {l : List UInt8} (h : Bs w a n l) (f : Below w.heap.size w w') : Bs w' a n l := by
  rcases h with ⟨h1, h2 | ⟨b, o, e, h2⟩⟩
  · exact ⟨h1, .inl h2⟩
  · exact ⟨h1, .inr ⟨b, o, e, h2.below f⟩⟩

theorem Bs.at {w : World} {a : Option Addr} {n : Nat} {l : List UInt8} (h : Bs w a n l) : BytesAt w a l := by
  rcases h with ⟨h1, h2 | ⟨b, o, e, h2⟩⟩
  · have : l = [] := List.eq_nil_of_length_eq_zero (by omega)
    subst this
    exact ⟨fun _ => rfl, fun ad e j u hu => by simp [bv] at hu⟩
  · rw [e]; exact h2

theorem bs_of_own {w : World} {base n c : Nat} {a : Option Addr} {l : List UInt8} (hn : l.length = n) (h : w.ownsRow base 5 1 (.slice a n c) n (bv l)) : Bs w a n l := by
  have hb := own_bytes h
  rcases h.2 with ⟨e, h0⟩ | ⟨q, cap, cur, e, _⟩
  · exact ⟨hn, .inl (by omega)⟩
  · injection e with e
    subst e
    exact ⟨hn, .inr ⟨q, 0, rfl, hb⟩⟩

theorem bytes_get {w : World} {b o : Nat} {l : List UInt8} (h : BytesAt w (some ⟨b, o, none⟩) l) {k : Nat} (hk : k < l.length) : w.cell? ⟨b, o + k, none⟩ = some (.int .u8 (l[k].toNat : Int)) := by
  have := h.2 _ rfl k (.int .u8 (l[k].toNat : Int)) (by simp [bv, hk])
  simpa [Addr.add_mid] using this

theorem ret_bool {a b : Bool} (h : a = b) : Ending.returned (.bool a) = .returned (.bool b) := by rw [h]

theorem bytes_drew {w : World} {a : Option Addr} {l : List UInt8} (h : BytesAt w a l) : BytesAt w.drew a l := h

theorem bytes_take {w : World} {a : Option Addr} {l : List UInt8} (h : BytesAt w a l) (k : Nat) : BytesAt w a (l.take k) :=
  ⟨fun e => by rw [h.1 e]; simp, fun ad e j u hu => h.2 ad e j u (by
    simp only [bv, List.map_take, List.getElem?_take] at hu ⊢
    split at hu
    · exact hu
    · cases hu)⟩

theorem own_cap {w : World} {base n c : Nat} {a : Option Addr} {xs : List Value} (h : w.ownsRow base 5 1 (.slice a n c) n xs) : n ≤ c ∧ c ≤ 9223372036854775807 := by
  rcases h.2 with ⟨e, h0⟩ | ⟨g, cap, cur, e, _, _, h1, h2, _⟩
  · injection e with _ e2 e3
    subst e3
    omega
  · injection e with _ _ ec
    subst ec
    unfold maxLen at h2
    exact ⟨h1, by omega⟩

/-- A slice of bytes that came in. -/
structure Arg (w : World) (a : Option Addr) (n cap : Nat) (l : List UInt8) : Prop where
  bs : Bs w a n l
  room : n ≤ cap
  most : cap ≤ 9223372036854775807
  nil : a = none → n = 0 ∧ cap = 0

theorem SameBytes_same (w : World) (a b : Option Addr) (l : List UInt8) (n c d : Nat) (ha : Bs w a n l) (hb : Bs w b n l) :
    Calls Tryz.prog 11 #[.slice a n c, .slice b n d] w fun e w' => e = .returned (.bool true) ∧ w' = w := by
  refine (SameBytes_n w a b l l n n c d ha.at hb.at ha.1 hb.1).mono ?_
  rintro e w' ⟨rfl, rfl⟩
  exact ⟨by simp, rfl⟩

theorem Arg.below {w w' : World} {a : Option Addr} {n cap : Nat} {l : List UInt8} (h : Arg w a n cap l) (f : Below w.heap.size w w') : Arg w' a n cap l := ⟨h.bs.below f, h.room, h.most, h.nil⟩

theorem arg_of_own {w : World} {base n c : Nat} {a : Option Addr} {l : List UInt8} (hn : l.length = n) (h : w.ownsRow base 5 1 (.slice a n c) n (bv l)) : Arg w a n c l := by
  refine ⟨bs_of_own hn h, (own_cap h).1, (own_cap h).2, fun e => ?_⟩
  rcases h.2 with ⟨e1, h0⟩ | ⟨q, cap, cur, e1, _⟩
  · injection e1 with _ e2 e3
    exact ⟨h0, e3⟩
  · injection e1 with e1
    rw [e] at e1
    cases e1

theorem own_some {w W : World} {base n c : Nat} {a : Option Addr} {l : List UInt8} (hb : w.heap.size ≤ base) (h : W.ownsRow base 5 1 (.slice a n c) n (bv l)) (hn : 0 < n) :
    ∃ q, a = some ⟨q, 0, none⟩ ∧ w.heap.size ≤ q ∧ (∀ k b, l[k]? = some b → W.cell? ⟨q, k, none⟩ = some (.int .u8 (b.toNat : Int)) ∧ W.frozen? ⟨q, k, none⟩ = false) ∧
      (∀ k v, Arg (W.setCell ⟨q, k, none⟩ (.int .u8 ((v : UInt8).toNat : Int))) (some ⟨q, 0, none⟩) n c (l.set k v)) := by
  have hl : l.length = n := by have := h.1; rw [bv_length] at this; omega
  have hcap := own_cap h
  rcases h.2 with ⟨_, h0⟩ | ⟨q, cap, cur, e, hq, hblk, h1, h2, h3, h4⟩
  · omega
  · injection e with e1 _ e3
    subst e1
    subst e3
    have hcells := h.cells (g := q) rfl
    refine ⟨q, rfl, Nat.le_trans hb hq, fun k b hk => ⟨?_, frozen_of_row _ _ _ _ _ hblk⟩, fun k v => ?_⟩
    · have := hcells k (.int .u8 (b.toNat : Int)) (by simp [bv, hk])
      simpa [Addr.add_mid] using this
    · have hs := (h.stored k (.int .u8 (v.toNat : Int))).1
      have hb' : (bv l).set k (.int .u8 (v.toNat : Int)) = bv (l.set k v) := by simp [bv, List.map_set]
      refine arg_of_own (base := base) (by simp; exact hl) ?_
      rw [← hb']
      exact hs

theorem own_base {w : World} {base base' n : Nat} {v : Value} {xs : List Value} (h : w.ownsRow base 5 1 v n xs) (hb : base' ≤ base) : w.ownsRow base' 5 1 v n xs :=
  ⟨h.1, h.2.elim .inl (fun ⟨g, cap, cur, hv, hg, r⟩ => .inr ⟨g, cap, cur, hv, Nat.le_trans hb hg, r⟩)⟩

/-- append to a row of one's own, in an operation that is guarded, and wanted. -/
theorem append_own_wanted {P : Program} (w : World) {ops : Array Oper} {rest : List Oper} {o : Oper} {a : Act} {Q : Exit → Act → World → Prop} (hw : Region.wanted o (yielded ops a.tmps) = true) (s x : Operand) (t : TypeId)
    (ho : o.op = .call { callee := .builtin .append, args := #[s, x], argTypes := #[t, t] })
    (base : Nat) (e : TypeId) (i : TypeInfo) (z : Value) (size bytes : Nat) (ht : P.underlying t = some (.slice e)) (hi : P.info? e = some i) (hz : i.zero = some z)
    (hsize : i.size = size) (hby : i.bytes = bytes) (hzs : z.cells.size = size) (hsz : 0 < size)
    (v : Value) (n : Nat) (xs : List Value) (hs : a.eval s = v) (hown : w.ownsRow base e size v n xs)
    (ad : Addr) (m c : Nat) (news : List Value) (hx : a.eval x = .slice (some ad) m c) (hl : news.length = m * size) (hnews : ∀ j u, news[j]? = some u → w.cell? (ad.add j) = some u) (h1 : ∀ u ∈ news, u.oneCell' = true)
    (h63 : n + m ≤ maxLen) (hbytes : (n + m) * bytes ≤ 140737488355328) (hbase : base ≤ w.heap.size)
    (h : ∀ v' w', w'.ownsRow base e size v' (n + m) (xs ++ news) → w.grownBy w' v.ownBlock → (v' = .slice none 0 0 ↔ v = .slice none 0 0 ∧ m = 0) → wpList P ops Q rest (a.put o.dst v') w') : wpList P ops Q (o :: rest) a w :=
  wpList_step fun K hK => by
    rw [if_pos hw]
    exact wp_append_own w s x t ho base e i z size bytes ht hi hz hsize hby hzs hsz v n xs hs hown ad m c news hx hl hnews h1 h63 hbytes hbase fun v' w' h2 h3 h4 => hK _ _ (h v' w' h2 h3 h4)

/-- A piece of a slice. -/
theorem sub_bs {w : World} {a : Option Addr} {n cap : Nat} {l : List UInt8} (h : Arg w a n cap l) (d k : Nat) (hd : d ≤ k) (hk : k ≤ n) : Bs w (if cap = d then a else Option.map (fun x => x.add d) a) (k - d) ((l.take k).drop d) := by
  have hl := h.bs.1
  refine ⟨by simp; omega, ?_⟩
  by_cases h0 : k - d = 0
  · exact .inl h0
  · obtain ⟨b, o, rfl, hb⟩ := h.bs.2.resolve_left (by omega)
    have := h.room
    rw [if_neg (by omega)]
    refine .inr ⟨b, o + d, by simp [Addr.add_mid], ⟨(fun e => by cases e), fun ad e i u hu => ?_⟩⟩
    injection e with e
    subst e
    have hu' : (bv l)[d + i]? = some u := by
      simp only [bv, List.map_drop, List.map_take, List.getElem?_drop, List.getElem?_take] at hu ⊢
      split at hu
      · exact hu
      · cases hu
    have := hb.2 _ rfl (d + i) u hu'
    rw [Addr.add_mid] at this ⊢
    rw [Nat.add_assoc]
    exact this

end Go.Proofs.YtfggahkimconfaaGreatDoor

/- Check sums, as numbers: a step is linear, and takes nothing but 0 to 0. -/
namespace Go.Proofs.YtfggahkimconfaaGreatDoor
set_option linter.unusedVariables false

def poly : Nat := 2197175160
def step (c : Nat) : Nat := if c % 2 = 1 then (c / 2) ^^^ poly else c / 2
def S8 (c : Nat) : Nat := step (step (step (step (step (step (step (step c)))))))
abbrev W32 : Nat := 4294967296

theorem step_lin (a b : Nat) : step (a ^^^ b) = step a ^^^ step b := by
  have hm : (a ^^^ b) % 2 = (a + b) % 2 := by
    have h1 := @Nat.xor_mod_two_eq_one a b
    generalize a ^^^ b = z at *
    omega
  have h2 : (a ^^^ b) / 2 = a / 2 ^^^ b / 2 := Nat.xor_div_two
  unfold step
  rw [h2]
  rcases Nat.mod_two_eq_zero_or_one a with ha | ha <;> rcases Nat.mod_two_eq_zero_or_one b with hb | hb
  · rw [if_neg (by omega), if_neg (by omega), if_neg (by omega)]
  · rw [if_pos (by omega), if_neg (by omega), if_pos hb, Nat.xor_assoc]
  · rw [if_pos (by omega), if_pos ha, if_neg (by omega), Nat.xor_assoc, Nat.xor_assoc, Nat.xor_comm (b / 2)]
  · rw [if_neg (by omega), if_pos ha, if_pos hb]
    rw [show a / 2 ^^^ poly ^^^ (b / 2 ^^^ poly) = a / 2 ^^^ b / 2 ^^^ (poly ^^^ poly) by ac_rfl, Nat.xor_self, Nat.xor_zero]
theorem step_zero : step 0 = 0 := rfl
theorem step_lt {c : Nat} (h : c < W32) : step c < W32 := by
  have h' : c < 4294967296 := h
  unfold step
  split
  · exact Nat.xor_lt_two_pow (n := 32) (by show c / 2 < 4294967296; omega) (by decide)
  · show c / 2 < 4294967296; omega
theorem step_ker {c : Nat} (h : c < W32) (h0 : step c = 0) : c = 0 := by
  unfold step at h0
  split at h0
  · have e : c / 2 = poly := by
      have := congrArg (· ^^^ poly) h0
      simpa [Nat.xor_assoc] using this
    unfold poly at e
    have : c < 4294967296 := h
    omega
  · omega
theorem step_double (u : Nat) : step (2 * u) = u := by
  unfold step
  rw [if_neg (by omega)]
  omega

theorem S8_lin (a b : Nat) : S8 (a ^^^ b) = S8 a ^^^ S8 b := by simp only [S8, step_lin]
theorem S8_zero : S8 0 = 0 := rfl
theorem S8_lt {c : Nat} (h : c < W32) : S8 c < W32 := step_lt (step_lt (step_lt (step_lt (step_lt (step_lt (step_lt (step_lt h)))))))
theorem S8_ker {c : Nat} (h : c < W32) (h0 : S8 c = 0) : c = 0 := by
  have l1 := step_lt h
  have l2 := step_lt l1
  have l3 := step_lt l2
  have l4 := step_lt l3
  have l5 := step_lt l4
  have l6 := step_lt l5
  have l7 := step_lt l6
  exact step_ker h (step_ker l1 (step_ker l2 (step_ker l3 (step_ker l4 (step_ker l5 (step_ker l6 (step_ker l7 h0)))))))
theorem xor_eq_zero {a b : Nat} (h : a ^^^ b = 0) : a = b := by
  have := congrArg (· ^^^ b) h
  simpa [Nat.xor_assoc] using this
theorem S8_inj {a b : Nat} (ha : a < W32) (hb : b < W32) (h : S8 a = S8 b) : a = b := by
  apply xor_eq_zero
  refine S8_ker (Nat.xor_lt_two_pow (n := 32) ha hb) ?_
  rw [S8_lin, h, Nat.xor_self]
theorem S8_byte (v : Nat) : S8 (v * 256) = v := by
  have e : v * 256 = 2 * (2 * (2 * (2 * (2 * (2 * (2 * (2 * v))))))) := by omega
  unfold S8
  rw [e]
  simp only [step_double]

/-- The sum's register behind bytes. -/
def crc (c : Nat) (l : List UInt8) : Nat := l.foldl (fun c b => S8 (c ^^^ b.toNat)) c
def full : Nat := 4294967295
def onS (c : Nat) (l : List UInt8) : Nat := crc (c ^^^ full) l ^^^ full
theorem u8_lt (b : UInt8) : b.toNat < 256 := b.toNat_lt
theorem xor_lt {a b : Nat} (ha : a < W32) (hb : b < W32) : a ^^^ b < W32 := Nat.xor_lt_two_pow (n := 32) ha hb
theorem byte_lt (b : UInt8) : b.toNat < W32 := by have := u8_lt b; show b.toNat < 4294967296; omega
theorem crc_lt {c : Nat} (l : List UInt8) (h : c < W32) : crc c l < W32 := by
  induction l generalizing c with
  | nil => exact h
  | cons b l ih => exact ih (S8_lt (xor_lt h (byte_lt b)))
theorem crc_append (c : Nat) (l m : List UInt8) : crc c (l ++ m) = crc (crc c l) m := by simp [crc, List.foldl_append]
theorem crc_snoc (c : Nat) (l : List UInt8) (b : UInt8) : crc c (l ++ [b]) = S8 (crc c l ^^^ b.toNat) := by rw [crc_append]; rfl
theorem full_lt : full < W32 := by decide
theorem onS_lt {c : Nat} (l : List UInt8) (h : c < W32) : onS c l < W32 := xor_lt (crc_lt l (xor_lt h full_lt)) full_lt
theorem full_full (c : Nat) : c ^^^ full ^^^ full = c := by rw [Nat.xor_assoc, Nat.xor_self, Nat.xor_zero]
theorem onS_append (c : Nat) (l m : List UInt8) : onS c (l ++ m) = onS (onS c l) m := by unfold onS; rw [full_full, crc_append]
theorem onS_nil (c : Nat) : onS c [] = c := full_full c

/-- Of two lists of one length the registers differ as the differences go. -/
def xors (l m : List UInt8) : List UInt8 := List.zipWith (fun a b => a ^^^ b) l m
theorem crc_xor (l : List UInt8) : ∀ (m : List UInt8) (c d : Nat), l.length = m.length → crc c l ^^^ crc d m = crc (c ^^^ d) (xors l m) := by
  induction l with
  | nil => intro m c d h; cases m with
    | nil => rfl
    | cons b m => simp at h
  | cons a l ih =>
    intro m c d h
    cases m with
    | nil => simp at h
    | cons b m =>
      have := ih m (S8 (c ^^^ a.toNat)) (S8 (d ^^^ b.toNat)) (by simpa using h)
      show crc (S8 (c ^^^ a.toNat)) l ^^^ crc (S8 (d ^^^ b.toNat)) m = crc (S8 (c ^^^ d ^^^ (a ^^^ b).toNat)) (xors l m)
      rw [this, ← S8_lin, UInt8.toNat_xor, show c ^^^ a.toNat ^^^ (d ^^^ b.toNat) = c ^^^ d ^^^ (a.toNat ^^^ b.toNat) by ac_rfl]
theorem onS_xor (c : Nat) (l m : List UInt8) (h : l.length = m.length) : onS c l ^^^ onS c m = crc 0 (xors l m) := by
  unfold onS
  rw [show crc (c ^^^ full) l ^^^ full ^^^ (crc (c ^^^ full) m ^^^ full) = crc (c ^^^ full) l ^^^ crc (c ^^^ full) m ^^^ (full ^^^ full) by ac_rfl, Nat.xor_self, Nat.xor_zero, crc_xor l m _ _ h, Nat.xor_self]
theorem crc_noughts (n : Nat) : crc 0 (List.replicate n 0) = 0 := by
  induction n with
  | zero => rfl
  | succ n ih => rw [List.replicate_succ]; exact ih
theorem crc_ker {c : Nat} (h : c < W32) (n : Nat) (h0 : crc c (List.replicate n 0) = 0) : c = 0 := by
  induction n generalizing c with
  | zero => exact h0
  | succ n ih =>
    rw [List.replicate_succ] at h0
    have e : crc (S8 (c ^^^ (0 : UInt8).toNat)) (List.replicate n 0) = 0 := h0
    rw [show (0 : UInt8).toNat = 0 from rfl, Nat.xor_zero] at e
    exact S8_ker h (ih (S8_lt h) e)

set_option maxRecDepth 100000 in
/-- Four places one behind the other. -/
theorem crc_four (x0 x1 x2 x3 : UInt8) (h : crc 0 [x0, x1, x2, x3] = 0) : x0 = 0 ∧ x1 = 0 ∧ x2 = 0 ∧ x3 = 0 := by
  have a0 := u8_lt x0
  have a1 := u8_lt x1
  have a2 := u8_lt x2
  have a3 := u8_lt x3
  have l0 : S8 x0.toNat < W32 := S8_lt (byte_lt x0)
  have l1 : S8 (S8 x0.toNat ^^^ x1.toNat) < W32 := S8_lt (xor_lt l0 (byte_lt x1))
  have l2 : S8 (S8 (S8 x0.toNat ^^^ x1.toNat) ^^^ x2.toNat) < W32 := S8_lt (xor_lt l1 (byte_lt x2))
  have h' : S8 (S8 (S8 (S8 x0.toNat ^^^ x1.toNat) ^^^ x2.toNat) ^^^ x3.toNat) = 0 := by
    have : crc 0 [x0, x1, x2, x3] = S8 (S8 (S8 (S8 (0 ^^^ x0.toNat) ^^^ x1.toNat) ^^^ x2.toNat) ^^^ x3.toNat) := rfl
    rw [Nat.zero_xor] at this
    rw [← this]; exact h
  have e3 := xor_eq_zero (S8_ker (xor_lt l2 (byte_lt x3)) h')
  -- S8 y = x3
  have e2 : S8 (S8 x0.toNat ^^^ x1.toNat) ^^^ x2.toNat = x3.toNat * 256 := by
    refine S8_inj (xor_lt l1 (byte_lt x2)) (by show x3.toNat * 256 < 4294967296; omega) ?_
    rw [e3, S8_byte]
  have e2' : S8 (S8 x0.toNat ^^^ x1.toNat) = x3.toNat * 256 ^^^ x2.toNat := by rw [← e2, Nat.xor_assoc, Nat.xor_self, Nat.xor_zero]
  have b2 : x3.toNat * 256 ^^^ x2.toNat < 65536 := Nat.xor_lt_two_pow (n := 16) (by omega) (by omega)
  have e1 : S8 x0.toNat ^^^ x1.toNat = (x3.toNat * 256 ^^^ x2.toNat) * 256 := by
    refine S8_inj (xor_lt l0 (byte_lt x1)) (by show _ < 4294967296; omega) ?_
    rw [e2', S8_byte]
  have e1' : S8 x0.toNat = (x3.toNat * 256 ^^^ x2.toNat) * 256 ^^^ x1.toNat := by rw [← e1, Nat.xor_assoc, Nat.xor_self, Nat.xor_zero]
  have b1 : (x3.toNat * 256 ^^^ x2.toNat) * 256 ^^^ x1.toNat < 16777216 := Nat.xor_lt_two_pow (n := 24) (by omega) (by omega)
  have e0 : x0.toNat = ((x3.toNat * 256 ^^^ x2.toNat) * 256 ^^^ x1.toNat) * 256 := by
    refine S8_inj (byte_lt x0) (by show _ < 4294967296; omega) ?_
    rw [e1', S8_byte]
  have z1 : (x3.toNat * 256 ^^^ x2.toNat) * 256 ^^^ x1.toNat = 0 := by omega
  have z1' := xor_eq_zero z1
  have z2 : x3.toNat * 256 ^^^ x2.toNat = 0 := by omega
  have z2' := xor_eq_zero z2
  have t0 : x0.toNat = 0 := by omega
  have t1 : x1.toNat = 0 := by omega
  have t2 : x2.toNat = 0 := by omega
  have t3 : x3.toNat = 0 := by omega
  exact ⟨UInt8.toNat_inj.1 t0, UInt8.toNat_inj.1 t1, UInt8.toNat_inj.1 t2, UInt8.toNat_inj.1 t3⟩

theorem crc_mid (x : List UInt8) (k n : Nat) : crc 0 (List.replicate k 0 ++ x ++ List.replicate n 0) = crc (crc 0 x) (List.replicate n 0) := by
  rw [crc_append, crc_append, crc_noughts]
theorem zero_lt32 : 0 < W32 := by decide
theorem eq_of_xor {a b : Nat} : a = b ↔ a ^^^ b = 0 := ⟨fun h => by rw [h, Nat.xor_self], xor_eq_zero⟩
/-- Lists that differ in the places k to k + 3. -/
theorem onS_four (c : Nat) (l m : List UInt8) (hl : l.length = m.length) (k n : Nat) (x0 x1 x2 x3 : UInt8) (hd : xors l m = List.replicate k 0 ++ [x0, x1, x2, x3] ++ List.replicate n 0) : onS c l = onS c m ↔ x0 = 0 ∧ x1 = 0 ∧ x2 = 0 ∧ x3 = 0 := by
  rw [eq_of_xor, onS_xor c l m hl, hd, crc_mid]
  constructor
  · intro h
    exact crc_four _ _ _ _ (crc_ker (crc_lt _ zero_lt32) n h)
  · rintro ⟨rfl, rfl, rfl, rfl⟩
    exact crc_noughts n
/-- Lists that differ in the place k. -/
theorem onS_one (c : Nat) (l m : List UInt8) (hl : l.length = m.length) (k n : Nat) (x : UInt8) (hd : xors l m = List.replicate k 0 ++ [x] ++ List.replicate n 0) : onS c l = onS c m ↔ x = 0 := by
  rw [eq_of_xor, onS_xor c l m hl, hd, crc_mid]
  constructor
  · intro h
    have h1 := crc_ker (crc_lt _ zero_lt32) n h
    have h2 : S8 (0 ^^^ x.toNat) = 0 := h1
    rw [Nat.zero_xor] at h2
    exact UInt8.toNat_inj.1 (S8_ker (byte_lt x) h2)
  · rintro rfl
    exact crc_noughts n
/-- What turning place k by x does. -/
theorem onS_turn (c : Nat) (l m : List UInt8) (hl : l.length = m.length) (k n : Nat) (x : UInt8) (hd : xors l m = List.replicate k 0 ++ [x] ++ List.replicate n 0) : onS c m = onS c l ^^^ crc (S8 x.toNat) (List.replicate n 0) := by
  have h := onS_xor c l m hl
  rw [hd, crc_mid] at h
  have e : crc 0 [x] = S8 x.toNat := by
    show S8 (0 ^^^ x.toNat) = _
    rw [Nat.zero_xor]
  rw [e] at h
  rw [← h, ← Nat.xor_assoc, Nat.xor_self, Nat.zero_xor]
theorem xors_one (x : UInt8) (n : Nat) : xors (List.replicate (n + 1) 0) (x :: List.replicate n 0) = List.replicate 0 0 ++ [x] ++ List.replicate n 0 := by
  rw [List.replicate_succ]
  have e : xors (List.replicate n 0) (List.replicate n (0 : UInt8)) = List.replicate n 0 := by
    unfold xors
    rw [List.zipWith_replicate, Nat.min_self]
    rfl
  show (0 ^^^ x) :: xors (List.replicate n 0) (List.replicate n 0) = _
  rw [e, UInt8.zero_xor]
  rfl
/-- The difference of a bit alone, of noughts. -/
theorem onS_alone (x : UInt8) (n : Nat) : onS 0 (List.replicate (n + 1) 0) ^^^ onS 0 (x :: List.replicate n 0) = crc (S8 x.toNat) (List.replicate n 0) := by
  have h := onS_turn 0 (List.replicate (n + 1) 0) (x :: List.replicate n 0) (by simp) 0 n x (xors_one x n)
  rw [h, ← Nat.xor_assoc, Nat.xor_self, Nat.zero_xor]

/-- A sum's four bytes, the highest first. -/
def be4 (c : Nat) : List UInt8 := [UInt8.ofNat (c / 16777216), UInt8.ofNat (c / 65536), UInt8.ofNat (c / 256), UInt8.ofNat c]

def sealL (l : List UInt8) : List UInt8 := l ++ be4 (onS 0 l)

def rightL (l : List UInt8) : Bool := decide (4 ≤ l.length ∧ sealL (l.take (l.length - 4)) = l)

theorem right_seal (l : List UInt8) : rightL (sealL l) = true := by
  have h : (sealL l).length = l.length + 4 := by simp [sealL, be4]
  unfold rightL
  rw [h]
  simp
  unfold sealL
  simp

theorem right_nil : rightL [] = false := rfl

theorem seal_len (l : List UInt8) : (sealL l).length = l.length + 4 := by simp [sealL, be4]

end Go.Proofs.YtfggahkimconfaaGreatDoor

/- Check sums, as numbers: bytes of which some are turned. -/
namespace Go.Proofs.YtfggahkimconfaaGreatDoor
set_option linter.unusedVariables false

theorem xors_len (l d : List UInt8) (h : l.length = d.length) : (xors l d).length = l.length := by simp [xors, h]
theorem xors_get {l d : List UInt8} {i : Nat} {a b : UInt8} (ha : l[i]? = some a) (hb : d[i]? = some b) : (xors l d)[i]? = some (a ^^^ b) := by
  simp [xors, List.getElem?_zipWith, ha, hb]
theorem xors_noughts (l : List UInt8) : xors l (List.replicate l.length 0) = l := by
  induction l with
  | nil => rfl
  | cons a l ih =>
    show (a ^^^ 0) :: xors l (List.replicate l.length 0) = a :: l
    rw [ih, UInt8.xor_zero]
theorem xors_back (l : List UInt8) : ∀ (d : List UInt8), l.length = d.length → xors l (xors l d) = d := by
  induction l with
  | nil => intro d h; cases d with
    | nil => rfl
    | cons b d => simp at h
  | cons a l ih =>
    intro d h
    cases d with
    | nil => simp at h
    | cons b d =>
      show (a ^^^ (a ^^^ b)) :: xors l (xors l d) = b :: d
      rw [ih d (by simpa using h), ← UInt8.xor_assoc, UInt8.xor_self, UInt8.zero_xor]
theorem xors_set (l : List UInt8) : ∀ (d : List UInt8) (i : Nat) (v : UInt8) (a : UInt8), l[i]? = some a → xors l (d.set i v) = (xors l d).set i (a ^^^ v) := by
  induction l with
  | nil => intro d i v a h; simp at h
  | cons x l ih =>
    intro d i v a h
    cases d with
    | nil => simp [xors]
    | cons b d =>
      cases i with
      | zero =>
        simp at h
        subst h
        rfl
      | succ i =>
        simp at h
        have := ih d i v a h
        show (x ^^^ b) :: xors l (d.set i v) = (x ^^^ b) :: (xors l d).set i (a ^^^ v)
        rw [this]
/-- One place turned. -/
def turn1 (l : List UInt8) (k : Nat) (e : UInt8) : List UInt8 := xors l ((List.replicate l.length 0).set k e)
theorem turn1_set {l : List UInt8} {k : Nat} {a : UInt8} (h : l[k]? = some a) (e : UInt8) : l.set k (a ^^^ e) = turn1 l k e := by
  unfold turn1
  rw [xors_set l _ k e a h, xors_noughts]
theorem turn1_len (l : List UInt8) (k : Nat) (e : UInt8) : (turn1 l k e).length = l.length := xors_len _ _ (by simp)
theorem set_one (k r : Nat) (e : UInt8) : (List.replicate (k + (1 + r)) 0).set k e = List.replicate k 0 ++ [e] ++ List.replicate r 0 := by
  rw [← List.replicate_append_replicate, List.set_append_right _ _ (by simp), ← List.replicate_append_replicate]
  simp
theorem turn1_xors {l : List UInt8} {k : Nat} (hk : k < l.length) (e : UInt8) : xors l (turn1 l k e) = List.replicate k 0 ++ [e] ++ List.replicate (l.length - k - 1) 0 := by
  unfold turn1
  rw [xors_back l _ (by simp)]
  obtain ⟨r, hr⟩ : ∃ r, l.length = k + (1 + r) := ⟨l.length - k - 1, by omega⟩
  rw [hr, set_one, show k + (1 + r) - k - 1 = r by omega]
theorem onS_turn1 (c : Nat) {l : List UInt8} {k : Nat} (hk : k < l.length) (e : UInt8) : onS c (turn1 l k e) = onS c l ^^^ crc (S8 e.toNat) (List.replicate (l.length - k - 1) 0) :=
  onS_turn c l _ (turn1_len _ _ _).symm k _ e (turn1_xors hk e)
theorem onS_turn1_ne (c : Nat) {l : List UInt8} {k : Nat} (hk : k < l.length) {e : UInt8} (he : e ≠ 0) : onS c l ≠ onS c (turn1 l k e) := fun h =>
  he ((onS_one c l _ (turn1_len _ _ _).symm k _ e (turn1_xors hk e)).1 h)

theorem be4_inj {a b : Nat} (ha : a < W32) (hb : b < W32) (h : be4 a = be4 b) : a = b := by
  have ha' : a < 4294967296 := ha
  have hb' : b < 4294967296 := hb
  simp only [be4, List.cons.injEq, and_true] at h
  obtain ⟨h0, h1, h2, h3⟩ := h
  have e0 := congrArg UInt8.toNat h0
  have e1 := congrArg UInt8.toNat h1
  have e2 := congrArg UInt8.toNat h2
  have e3 := congrArg UInt8.toNat h3
  simp at e0 e1 e2 e3
  omega
theorem seal_take (l : List UInt8) : (sealL l).take l.length = l := by simp [sealL]
theorem seal_drop (l : List UInt8) : (sealL l).drop l.length = be4 (onS 0 l) := by simp [sealL]
/-- What is sealed, with a place turned, is not right. -/
theorem right_turned (l : List UInt8) (k : Nat) (hk : k < (sealL l).length) (e : UInt8) (he : e ≠ 0) : rightL (turn1 (sealL l) k e) = false := by
  have hl := seal_len l
  have hl' : (turn1 (sealL l) k e).length = l.length + 4 := by rw [turn1_len, hl]
  obtain ⟨a, ha⟩ : ∃ a, (sealL l)[k]? = some a := ⟨_, List.getElem?_eq_getElem hk⟩
  have hset := turn1_set ha e
  unfold rightL
  rw [hl', decide_eq_false_iff_not]
  rintro ⟨_, h⟩
  rw [show l.length + 4 - 4 = l.length by omega] at h
  by_cases hkl : k < l.length
  · have hla : l[k]? = some a := by
      rw [sealL, List.getElem?_append_left hkl] at ha
      exact ha
    have ht : (turn1 (sealL l) k e).take l.length = turn1 l k e := by
      rw [← hset, ← turn1_set hla e, List.take_set, seal_take]
    rw [ht] at h
    have hd := congrArg (List.drop l.length) h
    have e1 : (sealL (turn1 l k e)).drop l.length = be4 (onS 0 (turn1 l k e)) := by
      have := seal_drop (turn1 l k e)
      rw [turn1_len] at this
      exact this
    have e2 : (turn1 (sealL l) k e).drop l.length = be4 (onS 0 l) := by
      rw [← hset, List.drop_set_of_lt hkl, seal_drop]
    rw [e1, e2] at hd
    exact onS_turn1_ne 0 hkl he (be4_inj (onS_lt _ zero_lt32) (onS_lt _ zero_lt32) hd).symm
  · have ht : (turn1 (sealL l) k e).take l.length = l := by
      rw [← hset, List.take_set_of_le (by omega), seal_take]
    rw [ht, ← hset] at h
    have h2 := congrArg (fun x : List UInt8 => x[k]?) h
    simp only [ha, List.getElem?_set_self hk] at h2
    have h3 : a = a ^^^ e := Option.some.inj h2
    apply he
    have := congrArg (a ^^^ ·) h3
    simp only [← UInt8.xor_assoc, UInt8.xor_self, UInt8.zero_xor] at this
    exact this.symm

/-- Four places turned, one behind the other. -/
def turnD (n k : Nat) (xs : List UInt8) : Nat → List UInt8
  | 0 => List.replicate n 0
  | j + 1 => (turnD n k xs j).set (k + j) (xs.getD j 0)
theorem turnD_len (n k : Nat) (xs : List UInt8) : ∀ j, (turnD n k xs j).length = n
  | 0 => by simp [turnD]
  | j + 1 => by simp [turnD, turnD_len n k xs j]
theorem turnD_get (n k : Nat) (xs : List UInt8) (i : Nat) (hi : i < n) : ∀ j, k + j ≤ i → (turnD n k xs j)[i]? = some 0
  | 0, _ => by simp [turnD, hi]
  | j + 1, h => by
    have := turnD_get n k xs i hi j (by omega)
    rw [turnD, List.getElem?_set_ne (by omega)]
    exact this
def turnL (l : List UInt8) (k : Nat) (xs : List UInt8) (j : Nat) : List UInt8 := xors l (turnD l.length k xs j)
theorem turnL_zero (l : List UInt8) (k : Nat) (xs : List UInt8) : turnL l k xs 0 = l := xors_noughts l
theorem turnL_len (l : List UInt8) (k : Nat) (xs : List UInt8) (j : Nat) : (turnL l k xs j).length = l.length := xors_len _ _ (turnD_len _ _ _ _).symm
theorem turnL_get {l : List UInt8} {k : Nat} {xs : List UInt8} {j : Nat} {a : UInt8} (h : l[k + j]? = some a) : (turnL l k xs j)[k + j]? = some a := by
  have := xors_get h (turnD_get l.length k xs (k + j) (List.getElem?_eq_some_iff.1 h).1 j (Nat.le_refl _))
  rw [UInt8.xor_zero] at this
  exact this
theorem turnL_succ {l : List UInt8} {k : Nat} {xs : List UInt8} {j : Nat} {a : UInt8} (h : l[k + j]? = some a) : (turnL l k xs j).set (k + j) (a ^^^ xs.getD j 0) = turnL l k xs (j + 1) := (xors_set l _ _ _ a h).symm
theorem turnD_four (k r : Nat) (x0 x1 x2 x3 : UInt8) : turnD (k + (4 + r)) k [x0, x1, x2, x3] 4 = List.replicate k 0 ++ [x0, x1, x2, x3] ++ List.replicate r 0 := by
  simp only [turnD]
  rw [← List.replicate_append_replicate, ← List.replicate_append_replicate]
  simp [List.set_append_right, List.replicate_succ]
theorem turnL_four {l : List UInt8} {k : Nat} (hk : k + 4 ≤ l.length) (c : Nat) (x0 x1 x2 x3 : UInt8) : onS c l = onS c (turnL l k [x0, x1, x2, x3] 4) ↔ l = turnL l k [x0, x1, x2, x3] 4 := by
  obtain ⟨r, hr⟩ : ∃ r, l.length = k + (4 + r) := ⟨l.length - k - 4, by omega⟩
  have hx : xors l (turnL l k [x0, x1, x2, x3] 4) = List.replicate k 0 ++ [x0, x1, x2, x3] ++ List.replicate r 0 := by
    unfold turnL
    rw [xors_back l _ (turnD_len _ _ _ _).symm, hr, turnD_four]
  rw [onS_four c l _ (turnL_len _ _ _ _).symm k r x0 x1 x2 x3 hx]
  constructor
  · rintro ⟨rfl, rfl, rfl, rfl⟩
    unfold turnL
    rw [hr, turnD_four]
    have : List.replicate k 0 ++ [0, 0, 0, 0] ++ List.replicate r 0 = List.replicate l.length (0 : UInt8) := by
      rw [hr, ← List.replicate_append_replicate, ← List.replicate_append_replicate]
      simp [List.replicate_succ]
    rw [this, xors_noughts]
  · intro h
    have hs : xors l l = List.replicate l.length 0 := by
      have := xors_back l (List.replicate l.length 0) (by simp)
      rw [xors_noughts] at this
      exact this
    rw [← h, hs] at hx
    rw [hr, ← List.replicate_append_replicate, ← List.replicate_append_replicate] at hx
    simp [List.replicate_succ] at hx
    exact ⟨hx.1.symm, hx.2.1.symm, hx.2.2.1.symm, hx.2.2.2.symm⟩

end Go.Proofs.YtfggahkimconfaaGreatDoor

/- Records in bytes, as lists: what is written is read, what is turned is none, what is cut is short. -/
namespace Go.Proofs.YtfggahkimconfaaGreatDoor
set_option linter.unusedVariables false

structure Rec where
  epoch : Int
  data : List UInt8
def recOk (r : Rec) : Prop := 0 ≤ r.epoch ∧ r.epoch ≤ 4294967295 ∧ r.data.length ≤ 4096
def bodyL (r : Rec) : List UInt8 := be4 r.data.length ++ (be4 r.epoch.toNat ++ r.data)
def recL (r : Rec) : List UInt8 := sealL (bodyL r)
theorem be4_len (n : Nat) : (be4 n).length = 4 := rfl
theorem body_len (r : Rec) : (bodyL r).length = r.data.length + 8 := by simp [bodyL, be4_len]; omega
theorem rec_len (r : Rec) : (recL r).length = r.data.length + 12 := by rw [recL, seal_len, body_len]

/-- The number of the first four bytes. -/
def num (l : List UInt8) : Nat := (l.getD 0 0).toNat * 16777216 + (l.getD 1 0).toNat * 65536 + (l.getD 2 0).toNat * 256 + (l.getD 3 0).toNat
theorem num_be4 (n : Nat) (hn : n < W32) (t : List UInt8) : num (be4 n ++ t) = n := by
  have hn' : n < 4294967296 := hn
  simp [num, be4]
  omega
theorem num_take (l : List UInt8) (k : Nat) (hk : 4 ≤ k) : num (l.take k) = num l := by
  have e : ∀ i, i < 4 → (l.take k).getD i 0 = l.getD i 0 := fun i hi => by
    rw [List.getD_eq_getElem?_getD, List.getD_eq_getElem?_getD, List.getElem?_take, if_pos (by omega)]
  unfold num
  rw [e 0 (by omega), e 1 (by omega), e 2 (by omega), e 3 (by omega)]
theorem num_le (l : List UInt8) : num l < W32 := by
  have a := (l.getD 0 0).toNat_lt
  have b := (l.getD 1 0).toNat_lt
  have c := (l.getD 2 0).toNat_lt
  have d := (l.getD 3 0).toNat_lt
  show num l < 4294967296
  unfold num
  omega

/-- What First says: 0 where the bytes begin with a record's. -/
def firstE (l : List UInt8) : Int := if l.length < 8 then 7 else if 4096 < num l then 30 else if l.length < num l + 12 then 7 else if rightL (l.take (num l + 12)) = true then 0 else 30
def firstR (l : List UInt8) : Rec := ⟨(num (l.drop 4) : Int), (l.drop 8).take (num l)⟩

theorem rec_head (r : Rec) (t : List UInt8) : recL r ++ t = be4 r.data.length ++ (be4 r.epoch.toNat ++ (r.data ++ (be4 (onS 0 (bodyL r)) ++ t))) := by simp [recL, sealL, bodyL]
theorem num_rec (r : Rec) (h : recOk r) (t : List UInt8) : num (recL r ++ t) = r.data.length := by
  rw [rec_head]
  exact num_be4 _ (by have := h.2.2; show _ < 4294967296; omega) _
theorem first_rec (r : Rec) (h : recOk r) (t : List UInt8) : firstE (recL r ++ t) = 0 ∧ firstR (recL r ++ t) = r := by
  have hn := num_rec r h t
  have hl := rec_len r
  have h3 := h.2.2
  constructor
  · unfold firstE
    rw [hn, if_neg (by simp; omega), if_neg (by omega), if_neg (by simp; omega), ← hl, List.take_left, if_pos]
    exact right_seal _
  · unfold firstR
    rw [hn, rec_head]
    have e1 : (be4 r.data.length ++ (be4 r.epoch.toNat ++ (r.data ++ (be4 (onS 0 (bodyL r)) ++ t)))).drop 4 = be4 r.epoch.toNat ++ (r.data ++ (be4 (onS 0 (bodyL r)) ++ t)) := List.drop_left' (be4_len _)
    have e2 : (be4 r.data.length ++ (be4 r.epoch.toNat ++ (r.data ++ (be4 (onS 0 (bodyL r)) ++ t)))).drop 8 = r.data ++ (be4 (onS 0 (bodyL r)) ++ t) := by
      rw [show 8 = 4 + 4 from rfl, ← List.drop_drop, e1, List.drop_left' (be4_len _)]
    rw [e1, e2, num_be4 _ (by have := h.1; have := h.2.1; show _ < 4294967296; omega), List.take_left]
    have : ((r.epoch.toNat : Nat) : Int) = r.epoch := by have := h.1; omega
    rw [this]
/-- What is cut within a record ends within it. -/
theorem first_cut (r : Rec) (h : recOk r) (k : Nat) (hk : k < (recL r).length) : firstE ((recL r).take k) = 7 := by
  have hl := rec_len r
  unfold firstE
  by_cases h8 : k < 8
  · rw [if_pos (by simp; omega)]
  · have hn : num ((recL r).take k) = r.data.length := by
      rw [num_take _ _ (by omega)]
      have := num_rec r h []
      rwa [List.append_nil] at this
    have h3 := h.2.2
    rw [if_neg (by simp; omega), hn, if_neg (by omega), if_pos (by simp; omega)]
/-- What is turned behind its number is none. -/
theorem first_turned (r : Rec) (h : recOk r) (k : Nat) (h4 : 4 ≤ k) (hk : k < (recL r).length) (x : UInt8) (hx : x ≠ 0) : firstE (turn1 (recL r) k x) = 30 := by
  have hl := rec_len r
  have hl' := turn1_len (recL r) k x
  obtain ⟨a, ha⟩ : ∃ a, (recL r)[k]? = some a := ⟨_, List.getElem?_eq_getElem hk⟩
  have hs := turn1_set ha x
  have hn : num (turn1 (recL r) k x) = r.data.length := by
    have h0 := num_rec r h []
    rw [List.append_nil] at h0
    rw [← hs, ← num_take _ 4 (Nat.le_refl _), List.take_set_of_le h4, num_take _ 4 (Nat.le_refl _)]
    exact h0
  have h3 := h.2.2
  unfold firstE
  rw [hn, if_neg (by omega), if_neg (by omega), if_neg (by omega), ← hl, ← hl', List.take_length]
  rw [show rightL (turn1 (recL r) k x) = false from right_turned (bodyL r) k hk x hx]
  rfl
theorem first_pos {l : List UInt8} (h : firstE l = 0) : num l + 12 ≤ l.length := by
  unfold firstE at h
  split at h
  · exact absurd h (by decide)
  · split at h
    · exact absurd h (by decide)
    · split at h
      · exact absurd h (by decide)
      · omega

def scanF : Nat → List UInt8 → Int → List Rec × Nat
  | 0, _, _ => ([], 0)
  | f + 1, l, last => if firstE l = 0 ∧ last ≤ (firstR l).epoch then (firstR l :: (scanF f (l.drop (num l + 12)) (firstR l).epoch).1, num l + 12 + (scanF f (l.drop (num l + 12)) (firstR l).epoch).2) else ([], 0)
theorem scanF_more : ∀ (f g : Nat) (l : List UInt8) (last : Int), l.length < f → l.length < g → scanF f l last = scanF g l last
  | 0, _, _, _, h, _ => by omega
  | _ + 1, 0, _, _, _, h => by omega
  | f + 1, g + 1, l, last, h1, h2 => by
    rw [scanF, scanF]
    by_cases hc : firstE l = 0 ∧ last ≤ (firstR l).epoch
    · have := first_pos hc.1
      rw [if_pos hc, if_pos hc, scanF_more f g _ _ (by rw [List.length_drop]; omega) (by rw [List.length_drop]; omega)]
    · rw [if_neg hc, if_neg hc]
/-- The records of bytes, none elder than last. -/
def scanL (l : List UInt8) (last : Int) : List Rec × Nat := scanF (l.length + 1) l last
theorem scan_yes {l : List UInt8} {last : Int} (h : firstE l = 0 ∧ last ≤ (firstR l).epoch) : scanL l last = (firstR l :: (scanL (l.drop (num l + 12)) (firstR l).epoch).1, num l + 12 + (scanL (l.drop (num l + 12)) (firstR l).epoch).2) := by
  have := first_pos h.1
  have e : scanF l.length (l.drop (num l + 12)) (firstR l).epoch = scanL (l.drop (num l + 12)) (firstR l).epoch := scanF_more _ _ _ _ (by rw [List.length_drop]; omega) (by omega)
  rw [← e]
  show scanF (l.length + 1) l last = _
  rw [scanF, if_pos h]
theorem scan_no {l : List UInt8} {last : Int} (h : ¬ (firstE l = 0 ∧ last ≤ (firstR l).epoch)) : scanL l last = ([], 0) := by
  show scanF (l.length + 1) l last = _
  rw [scanF, if_neg h]
def allL (rs : List Rec) : List UInt8 := (rs.map recL).flatten
/-- Records whose epochs do not fall, from last on. -/
def rising : Int → List Rec → Prop
  | _, [] => True
  | last, r :: rs => recOk r ∧ last ≤ r.epoch ∧ rising r.epoch rs
theorem scan_all (rs : List Rec) : ∀ (last : Int) (t : List UInt8), rising last rs → scanL (allL rs ++ t) last = (rs ++ (scanL t ((rs.getLast?.map Rec.epoch).getD last)).1, (allL rs).length + (scanL t ((rs.getLast?.map Rec.epoch).getD last)).2) := by
  induction rs with
  | nil => intro last t _; simp [allL]
  | cons r rs ih =>
    intro last t ⟨h1, h2, h3⟩
    have hf := first_rec r h1 (allL rs ++ t)
    have hn := num_rec r h1 (allL rs ++ t)
    have e : allL (r :: rs) ++ t = recL r ++ (allL rs ++ t) := by simp [allL]
    rw [e, scan_yes ⟨hf.1, by rw [hf.2]; exact h2⟩]
    simp only [hf.2, hn, ← rec_len r]
    rw [List.drop_left, ih r.epoch t h3]
    have hlast : ((r :: rs).getLast?.map Rec.epoch).getD last = (rs.getLast?.map Rec.epoch).getD r.epoch := by
      cases rs with
      | nil => rfl
      | cons r2 rs =>
        rw [List.getLast?_cons_cons]
        cases h : (r2 :: rs).getLast? with
        | none => simp at h
        | some y => rfl
    rw [hlast]
    refine Prod.ext (by simp) ?_
    simp [allL]
    omega
theorem scan_nil (last : Int) : scanL [] last = ([], 0) := by
  refine scan_no ?_
  rintro ⟨h, _⟩
  exact absurd h (by decide)
/-- Cut anywhere: the first few. -/
theorem scan_cut (rs : List Rec) : ∀ (last : Int) (k : Nat), rising last rs → k ≤ (allL rs).length → ∃ m, m ≤ rs.length ∧ scanL ((allL rs).take k) last = (rs.take m, (allL (rs.take m)).length) ∧ (allL (rs.take m)).length ≤ k ∧ (m = rs.length ∨ ∃ r, rs[m]? = some r ∧ k < (allL (rs.take m)).length + (recL r).length) := by
  induction rs with
  | nil =>
    intro last k _ hk
    refine ⟨0, Nat.le_refl _, ?_, ?_, .inl rfl⟩
    · simp [allL, scan_nil]
    · simp [allL]
  | cons r rs ih =>
    intro last k ⟨h1, h2, h3⟩ hk
    have e : allL (r :: rs) = recL r ++ allL rs := by simp [allL]
    rw [e] at hk ⊢
    by_cases hkr : k < (recL r).length
    · refine ⟨0, by omega, ?_, by simp [allL], .inr ⟨r, rfl, by simpa [allL] using hkr⟩⟩
      rw [List.take_append_of_le_length (by omega), scan_no]
      · simp [allL]
      · rintro ⟨h, _⟩
        rw [first_cut r h1 k hkr] at h
        exact absurd h (by decide)
    · obtain ⟨m, q1, q2, q3, q4⟩ := ih r.epoch (k - (recL r).length) h3 (by simp at hk; omega)
      have ht : (recL r ++ allL rs).take k = recL r ++ (allL rs).take (k - (recL r).length) := by
        rw [List.take_append, List.take_of_length_le (by omega)]
      have hf := first_rec r h1 ((allL rs).take (k - (recL r).length))
      have hn := num_rec r h1 ((allL rs).take (k - (recL r).length))
      have ea : allL ((r :: rs).take (m + 1)) = recL r ++ allL (rs.take m) := by simp [allL]
      refine ⟨m + 1, by simpa using q1, ?_, ?_, ?_⟩
      · rw [ht, scan_yes ⟨hf.1, by rw [hf.2]; exact h2⟩]
        simp only [hf.2, hn, ← rec_len r]
        rw [List.drop_left, q2, ea]
        refine Prod.ext (by simp) ?_
        simp
      · rw [ea, List.length_append]; omega
      · rcases q4 with q4 | ⟨r2, q4, q5⟩
        · exact .inl (by simp [q4])
        · exact .inr ⟨r2, by simpa using q4, by rw [ea, List.length_append]; omega⟩

theorem scanF_le : ∀ (f : Nat) (l : List UInt8) (last : Int), (scanF f l last).1.length * 12 ≤ l.length
  | 0, _, _ => by simp [scanF]
  | f + 1, l, last => by
    rw [scanF]
    by_cases hc : firstE l = 0 ∧ last ≤ (firstR l).epoch
    · have h1 := first_pos hc.1
      have h2 := scanF_le f (l.drop (num l + 12)) (firstR l).epoch
      rw [if_pos hc]
      rw [List.length_drop] at h2
      simp only [List.length_cons]
      omega
    · rw [if_neg hc]
      simp
/-- A record has twelve bytes at least. -/
theorem scan_le (l : List UInt8) (last : Int) : (scanL l last).1.length * 12 ≤ l.length := scanF_le _ _ _

end Go.Proofs.YtfggahkimconfaaGreatDoor

/- The contracts of the document's own sums: On, Of. -/
namespace Go.Proofs.YtfggahkimconfaaGreatDoor
open Go.RowKit
set_option linter.unusedVariables false

theorem x32 (a b : Nat) (ha : a < W32) (hb : b < W32) : bits .xor .u32 (a : Int) (b : Int) = ((a ^^^ b : Nat) : Int) := u32_xor_nat a b ha hb

theorem x32b (a : Nat) (b : UInt8) (ha : a < W32) : bits .xor .u32 (a : Int) ((b.toNat : Int) % 4294967296) = ((a ^^^ b.toNat : Nat) : Int) := by
  have h := u8_lt b
  rw [Int.emod_eq_of_lt (by omega) (by omega)]
  exact x32 a b.toNat ha (byte_lt b)

theorem step_odd (t : Nat) (ht : t < W32) (h : t % 2 = 1) : ((t : Int) % 2 == 1) = true ∧ bits .xor .u32 ((t : Int) / 2 % 4294967296) 2197175160 = (step t : Int) := by
  have ht' : t < 4294967296 := ht
  refine ⟨by simp; omega, ?_⟩
  have e : (t : Int) / 2 % 4294967296 = ((t / 2 : Nat) : Int) := by omega
  rw [e]
  have := x32 (t / 2) poly (by show t / 2 < 4294967296; omega) (by decide)
  unfold step
  rw [if_pos h]
  exact this
theorem step_even (t : Nat) (ht : t < W32) (h : ¬ t % 2 = 1) : ((t : Int) % 2 == 1) = false ∧ (t : Int) / 2 % 4294967296 = (step t : Int) := by
  have ht' : t < 4294967296 := ht
  refine ⟨by simp; omega, ?_⟩
  unfold step
  rw [if_neg h]
  omega

/-- k steps. -/
def stepN : Nat → Nat → Nat
  | 0, c => c
  | k + 1, c => step (stepN k c)
theorem stepN_lt {c : Nat} (h : c < W32) : ∀ k, stepN k c < W32
  | 0 => h
  | k + 1 => step_lt (stepN_lt h k)
theorem stepN_eight (c : Nat) : stepN 8 c = S8 c := rfl

theorem crc_take (c : Nat) (l : List UInt8) {k : Nat} (hk : k < l.length) : crc c (l.take (k + 1)) = S8 (crc c (l.take k) ^^^ l[k].toNat) := by
  rw [List.take_succ_eq_append_getElem hk, crc_snoc]

set_option maxHeartbeats 800000 in
theorem qOn_at (w : World) (c : Nat) (hc : c < W32) (b o n cap : Nat) (l : List UInt8) (hn : l.length = n) (hs : n ≤ 140737488351232) (h : BytesAt w (some ⟨b, o, none⟩) l) :
    Calls Tryz.prog 106 #[.int .u32 (c : Int), .slice (some ⟨b, o, none⟩) n cap] w fun e w' => e = .returned (.int .u32 (onS c l : Int)) ∧ w' = w := by
  have H := hide (fun k (hk : k < l.length) => bytes_get h hk)
  have hcf : bits .xor .u32 (c : Int) 4294967295 = ((c ^^^ full : Nat) : Int) := x32 c full hc full_lt
  have hc2 := xor_lt hc full_lt
  have HC := hide hc2
  clear h
  go_enter Tryz.func106, Tryz.ntmps106
  go_wp2
  go_loopw [0, 5] (fun s i wr => ∃ k : Nat, k ≤ n ∧ i = .int .i64 k ∧ s = .int .u32 (crc (c ^^^ full) (l.take k) : Int) ∧ wr = w) (fun _ i _ => n - (intOf i).toNat)
  case atStart => exact ⟨0, by omega, rfl, rfl, rfl⟩
  case round =>
    obtain ⟨k, hk, rfl, rfl, rfl⟩ := hrel
    have hlt0 := crc_lt (l.take k) (unhide HC)
    generalize hv : crc (c ^^^ full) (l.take k) = v at *
    by_cases hlt : k < n
    · have hkl : k < l.length := by omega
      have hcell := unhide H k hkl
      have hx := x32b v l[k] hlt0
      have hy := xor_lt hlt0 (byte_lt l[k])
      have hnext := crc_take (c ^^^ full) l hkl
      rw [hv] at hnext
      have HN := hide hnext
      have HY := hide hy
      clear hnext hy hv
      generalize l[k] = bk at *
      generalize hz : v ^^^ bk.toNat = z at *
      go_wp2
      go_loopw [0, 6] (fun s i wr' => ∃ j : Nat, j ≤ 8 ∧ i = .int .i64 j ∧ s = .int .u32 (stepN j z : Int) ∧ wr' = wr) (fun _ i _ => 8 - (intOf i).toNat)
      case atStart => exact ⟨0, by omega, rfl, rfl, rfl⟩
      case round =>
        obtain ⟨j, hj, rfl, rfl, rfl⟩ := hrel
        have hl2 := stepN_lt (unhide HY) j
        have hst : stepN (j + 1) z = step (stepN j z) := rfl
        have HST := hide hst
        clear hst
        generalize ht : stepN j z = t at *
        have HT := hide ht
        clear ht
        by_cases hj8 : j < 8
        · by_cases hodd : t % 2 = 1
          · obtain ⟨o1, o2⟩ := step_odd t hl2 hodd
            go_wp2
            go_roundw
            case rel => exact ⟨j + 1, by omega, by go_num, by rw [unhide HST], trivial⟩
            case measure => simp [intOf]; omega
          · obtain ⟨o1, o2⟩ := step_even t hl2 hodd
            go_wp2
            go_roundw
            case rel => exact ⟨j + 1, by omega, by go_num, by rw [unhide HST, o2], trivial⟩
            case measure => simp [intOf]; omega
        · obtain rfl : j = 8 := by omega
          go_wp2
          go_roundw
          case rel => exact ⟨k + 1, by omega, by go_num, by rw [unhide HN, ← unhide HT]; rfl, trivial⟩
          case measure => simp [intOf]; omega
    · obtain rfl : k = n := by omega
      have ht : l.take k = l := List.take_of_length_le (by omega)
      rw [ht] at hv
      have hfin := x32 v full hlt0 full_lt
      have hfin' : bits .xor .u32 (v : Int) 4294967295 = (onS c l : Int) := by
        rw [show onS c l = v ^^^ full by unfold onS; rw [hv]]
        exact hfin
      clear hfin
      go_wp2
      go_ret
      exact ⟨rfl, rfl⟩


set_option maxHeartbeats 800000 in
theorem qOn_nil (w : World) (c : Nat) (hc : c < W32) (a : Option Addr) (cap : Nat) :
    Calls Tryz.prog 106 #[.int .u32 (c : Int), .slice a 0 cap] w fun e w' => e = .returned (.int .u32 (c : Int)) ∧ w' = w := by
  have hcf : bits .xor .u32 (c : Int) 4294967295 = ((c ^^^ full : Nat) : Int) := x32 c full hc full_lt
  have hcg : bits .xor .u32 ((c ^^^ full : Nat) : Int) 4294967295 = (c : Int) := by
    have := x32 (c ^^^ full) full (xor_lt hc full_lt) full_lt
    rw [full_full] at this
    exact this
  go_enter Tryz.func106, Tryz.ntmps106
  go_wp2
  refine wp_loop_rounds 1 ?_
  rw [rounds_succ]
  go_wp2
  go_ret
  exact ⟨rfl, rfl⟩
theorem qOn_any (w : World) (c : Nat) (hc : c < W32) (a : Option Addr) (n cap : Nat) (l : List UInt8) (hs : n ≤ 140737488351232) (h : Bs w a n l) :
    Calls Tryz.prog 106 #[.int .u32 (c : Int), .slice a n cap] w fun e w' => e = .returned (.int .u32 (onS c l : Int)) ∧ w' = w := by
  rcases h with ⟨h1, h2 | ⟨b, o, rfl, h2⟩⟩
  · subst h2
    have : l = [] := List.eq_nil_of_length_eq_zero h1
    subst this
    rw [onS_nil]
    exact qOn_nil w c hc a cap
  · exact qOn_at w c hc b o n cap l h1 hs h2

set_option maxHeartbeats 400000 in
theorem qOf_any (w : World) (a : Option Addr) (n cap : Nat) (l : List UInt8) (hs : n ≤ 140737488351232) (h : Bs w a n l) :
    Calls Tryz.prog 99 #[.slice a n cap] w fun e w' => e = .returned (.int .u32 (onS 0 l : Int)) ∧ w' = w := by
  have H := hide (qOn_any w 0 zero_lt32 a n cap l hs h)
  clear h
  go_enter Tryz.func99, Tryz.ntmps99
  go_wp2_with fail
  refine (unhide H).mono ?_
  rintro e w' ⟨rfl, rfl⟩
  go_wp2
  go_ret
  exact ⟨rfl, rfl⟩


theorem bv_be4 (s : Nat) : bv (be4 s) = [.int .u8 ((s : Int) / 16777216 % 256), .int .u8 ((s : Int) / 65536 % 256), .int .u8 ((s : Int) / 256 % 256), .int .u8 ((s : Int) % 256)] := by
  simp [bv, be4]

set_option maxHeartbeats 800000 in
theorem qSeal_some (w : World) (ad : Addr) (n cap : Nat) (l : List UInt8) (hs : n ≤ 1000000) (h : Bs w (some ad) n l) :
    Calls Tryz.prog 95 #[.slice (some ad) n cap] w fun e w' => ∃ v, e = .returned v ∧ w'.ownsRow w.heap.size 5 1 v (n + 4) (bv (sealL l)) ∧ Below w.heap.size w w' := by
  have H := hide (qOf_any w (some ad) n cap l (by omega) h)
  have hc := onS_lt l zero_lt32
  have hsl : sealL l = l ++ be4 (onS 0 l) := rfl
  have HSL := hide hsl
  clear hsl
  generalize onS 0 l = s at *
  obtain ⟨i0, hi, hz0, hz1, hz2⟩ := info_parts infoB
  have hown : (w.alloc (.cells #[] 5)).ownsRow w.heap.size 5 1 (.slice (some ⟨w.heap.size, 0, none⟩) 0 0) 0 [] := World.ownsRow_made w #[] 0 (Nat.le_refl _) (by simp) rfl
  have hsrc := h.at.2 ad rfl
  have hn := h.1
  clear h
  go_enter Tryz.func95, Tryz.ntmps95
  go_wp2_with fail
  refine (unhide H).mono ?_
  rintro e w' ⟨rfl, rfl⟩
  go_wp2_with (at_builtin; refine wpList_append_own _ rfl (.tmp 6) (.tmp 7) 43 rfl w'.heap.size 5 i0 (.int .u8 0) 1 1 Tryz.underlying43 hi hz0 hz1 hz2 rfl (by decide) _ _ _ rfl hown ad n cap (bv l) rfl ?c0 ?c1 ?c2 ?c3 ?c4 ?c5 ?_)
  case c0 => rw [bv_length, hn]; omega
  case c1 => exact fun j u hu => cell_alloc (hsrc j u hu) _
  case c2 => exact bv_one _
  case c3 => unfold maxLen; omega
  case c4 => omega
  case c5 => simp
  intro v1 w1 hown1 hgrow _
  have hb : Below w'.heap.size w' w1 := ((Below.refl _ _).alloc (Nat.le_refl _) _).grown hgrow (by simp) (fun k hk => by simp [Value.ownBlock] at hk; omega)
  obtain ⟨a1, c1, rfl, _⟩ := own_form hown1
  have hown2 := own_below hown1 ((Below.refl _ _).alloc (Nat.le_refl _) (.cells (bv (be4 s)).toArray 5))
  have hb2 : Below w'.heap.size w' (w1.alloc (.cells (bv (be4 s)).toArray 5)) := hb.alloc hb.size _
  have hlo := hown1.lt
  have hs4 : w1.heap.size < (w1.alloc (.cells (bv (be4 s)).toArray 5)).heap.size := by simp
  have hsrc2 : ∀ j u, (bv (be4 s))[j]? = some u → (w1.alloc (.cells (bv (be4 s)).toArray 5)).cell? (Addr.add ⟨w1.heap.size, 0, none⟩ j) = some u := World.news_of_block (heap_alloc_last w1 _)
  rw [bv_be4] at hown2 hb2 hsrc2
  have HB := hide hb2
  clear hown1 hgrow hb hown hsrc
  go_wp2_with (at_builtin; (refine wpList_append_own _ rfl (.tmp 8) (.tmp 20) 43 rfl w'.heap.size 5 i0 (.int .u8 0) 1 1 Tryz.underlying43 hi hz0 hz1 hz2 rfl (by decide) _ _ _ rfl hown2 ⟨w1.heap.size, 0, none⟩ 4 4 [.int .u8 ((s : Int) / 16777216 % 256), .int .u8 ((s : Int) / 65536 % 256), .int .u8 ((s : Int) / 256 % 256), .int .u8 ((s : Int) % 256)] rfl ?c0 ?c1 ?c2 ?c3 ?c4 ?c5 ?_))
  case c0 => rfl
  case c1 => exact hsrc2
  case c2 => rw [← bv_be4]; exact bv_one _
  case c3 => unfold maxLen; omega
  case c4 => omega
  case c5 => exact hb2.size
  intro v' w2 hown' hgrow' _
  have hb3 : Below w'.heap.size w' w2 := (unhide HB).grown hgrow' (unhide HB).size (fun k hk => (hlo k hk).1)
  have HO := hide hown'
  have HB3 := hide hb3
  clear hown' hgrow' hb3 hown2 hsrc2
  go_wp2
  go_ret
  refine ⟨_, rfl, ?_, unhide HB3⟩
  have := unhide HO
  rw [unhide HSL, bv_append, bv_be4]
  exact this

set_option maxHeartbeats 800000 in
theorem qSeal_none (w : World) :
    Calls Tryz.prog 95 #[.slice none 0 0] w fun e w' => ∃ v, e = .returned v ∧ w'.ownsRow w.heap.size 5 1 v (0 + 4) (bv (sealL [])) ∧ Below w.heap.size w w' := by
  have H := hide (qOf_any w none 0 0 [] (by omega) ⟨rfl, .inl rfl⟩)
  have hc := onS_lt [] zero_lt32
  have hsl : sealL [] = [] ++ be4 (onS 0 []) := rfl
  have HSL := hide hsl
  clear hsl
  generalize onS 0 [] = s at *
  obtain ⟨i0, hi, hz0, hz1, hz2⟩ := info_parts infoB
  have hown : (w.alloc (.cells #[] 5)).ownsRow w.heap.size 5 1 (.slice (some ⟨w.heap.size, 0, none⟩) 0 0) 0 [] := World.ownsRow_made w #[] 0 (Nat.le_refl _) (by simp) rfl
  have hb : Below w.heap.size w (w.alloc (.cells #[] 5)) := (Below.refl _ _).alloc (Nat.le_refl _) _
  have hown2 := own_below hown ((Below.refl _ _).alloc (Nat.le_refl _) (.cells (bv (be4 s)).toArray 5))
  have hb2 : Below w.heap.size w ((w.alloc (.cells #[] 5)).alloc (.cells (bv (be4 s)).toArray 5)) := hb.alloc hb.size _
  have hsrc2 : ∀ j u, (bv (be4 s))[j]? = some u → ((w.alloc (.cells #[] 5)).alloc (.cells (bv (be4 s)).toArray 5)).cell? (Addr.add ⟨w.heap.size + 1, 0, none⟩ j) = some u := by
    have := World.news_of_block (heap_alloc_last (w.alloc (.cells #[] 5)) (.cells (bv (be4 s)).toArray 5))
    simpa using this
  rw [bv_be4] at hown2 hb2 hsrc2
  have HB := hide hb2
  go_enter Tryz.func95, Tryz.ntmps95
  go_wp2_with fail
  refine (unhide H).mono ?_
  rintro e w' ⟨rfl, rfl⟩
  have cap4 : (0 : Nat) + 4 ≤ maxLen := by unfold maxLen; omega
  have one4 := bv_one (be4 s)
  rw [bv_be4] at one4
  go_wp2_with (first
    | (at_builtin; refine wpList_append_own_none rfl (.tmp 6) (.tmp 7) 43 rfl w'.heap.size 5 i0 1 Tryz.underlying43 hi _ _ _ rfl hown rfl ?_)
    | (at_builtin; refine wpList_append_own _ rfl (.tmp 8) (.tmp 20) 43 rfl w'.heap.size 5 i0 (.int .u8 0) 1 1 Tryz.underlying43 hi hz0 hz1 hz2 rfl (by decide) _ _ _ rfl hown2 ⟨w'.heap.size + 1, 0, none⟩ 4 4 [.int .u8 ((s : Int) / 16777216 % 256), .int .u8 ((s : Int) / 65536 % 256), .int .u8 ((s : Int) / 256 % 256), .int .u8 ((s : Int) % 256)] rfl rfl hsrc2 one4 cap4 (by omega) hb2.size ?_))
  intro v' w2 hown' hgrow' _
  have hb3 : Below w'.heap.size w' w2 := (unhide HB).grown hgrow' (unhide HB).size (fun k hk => (hown.lt k hk).1)
  have HO := hide hown'
  have HB3 := hide hb3
  clear hown' hgrow' hb3 hown2 hsrc2 hown
  go_wp2
  go_ret
  refine ⟨_, rfl, ?_, unhide HB3⟩
  have := unhide HO
  rw [unhide HSL, bv_append, bv_be4]
  exact this

theorem qSeal_any (w : World) (a : Option Addr) (n cap : Nat) (l : List UInt8) (hs : n ≤ 1000000) (ha : a = none → n = 0 ∧ cap = 0) (h : Bs w a n l) :
    Calls Tryz.prog 95 #[.slice a n cap] w fun e w' => ∃ v, e = .returned v ∧ w'.ownsRow w.heap.size 5 1 v (n + 4) (bv (sealL l)) ∧ Below w.heap.size w w' := by
  cases a with
  | none =>
    obtain ⟨rfl, rfl⟩ := ha rfl
    have : l = [] := List.eq_nil_of_length_eq_zero h.1
    subst this
    exact qSeal_none w
  | some ad => exact qSeal_some w ad n cap l hs h

end Go.Proofs.YtfggahkimconfaaGreatDoor

/- The contracts of the document's own Right and Turned. -/
namespace Go.Proofs.YtfggahkimconfaaGreatDoor
open Go.RowKit
set_option linter.unusedVariables false


set_option maxHeartbeats 800000 in
theorem qRight_lt (w : World) (a : Option Addr) (n cap : Nat) (h : n < 4) :
    Calls Tryz.prog 93 #[.slice a n cap] w fun e w' => e = .returned (.bool false) ∧ Below w.heap.size w w' := by
  have h1 : decide ((4 : Int) ≤ (n : Int)) = false := by simp; omega
  go_enter Tryz.func93, Tryz.ntmps93
  go_wp2
  go_quiet (fail)
  go_wp2
  go_ret
  exact ⟨rfl, below_drewN (Below.refl _ _) _⟩

set_option maxHeartbeats 800000 in
theorem qRight_ge (w : World) (b o n cap : Nat) (l : List UInt8) (h4 : 4 ≤ n) (hn : l.length = n) (hc : n ≤ cap) (hcap : cap ≤ 9223372036854775807) (hs : n ≤ 1000000) (h : BytesAt w (some ⟨b, o, none⟩) l) :
    Calls Tryz.prog 93 #[.slice (some ⟨b, o, none⟩) n cap] w fun e w' => e = .returned (.bool (decide (sealL (l.take (n - 4)) = l))) ∧ Below w.heap.size w w' := by
  have h1 : decide ((4 : Int) ≤ (n : Int)) = true := by simp; omega
  have hn4 : (n : Int) - 4 = ((n - 4 : Nat) : Int) := by omega
  have k1 := conv_bytes w (some ⟨b, o, none⟩) l cap h
  have k2 := conv_bytes w.drew (some ⟨b, o, none⟩) l cap (bytes_drew h)
  rw [hn] at k1 k2
  have hS : Hid (∀ W, Below w.heap.size w W → Calls Tryz.prog 95 #[.slice (some ⟨b, o, none⟩) (n - 4) cap] W fun e w' => ∃ a1 c1, e = .returned (.slice a1 n c1) ∧ ((convert 43 9 (.slice a1 n c1)).run Tryz.prog w' = .ok (.string ⟨(sealL (l.take (n - 4))).toArray⟩) w') ∧ ((convert 43 9 (.slice a1 n c1)).run Tryz.prog w'.drew = .ok (.string ⟨(sealL (l.take (n - 4))).toArray⟩) w'.drew) ∧ ((convert 43 9 (.slice (some ⟨b, o, none⟩) n cap)).run Tryz.prog w' = .ok (.string ⟨l.toArray⟩) w') ∧ ((convert 43 9 (.slice (some ⟨b, o, none⟩) n cap)).run Tryz.prog w'.drew = .ok (.string ⟨l.toArray⟩) w'.drew) ∧ Below w.heap.size w w') := fun W f => by
    refine (qSeal_some W ⟨b, o, none⟩ (n - 4) cap (l.take (n - 4)) (by omega) ⟨by simp; omega, .inr ⟨b, o, rfl, bytes_take (h.below f) _⟩⟩).mono ?_
    rintro e w' ⟨v, rfl, ho, f'⟩
    rw [show n - 4 + 4 = n by omega] at ho
    obtain ⟨a1, c1, rfl, _⟩ := own_form ho
    have hl : (sealL (l.take (n - 4))).length = n := by simp [sealL, be4]; omega
    have t1 := fun (V : World) (hv : BytesAt V a1 (sealL (l.take (n - 4)))) => conv_bytes V a1 (sealL (l.take (n - 4))) c1 hv
    have t2 := fun (V : World) (hv : BytesAt V (some ⟨b, o, none⟩) l) => conv_bytes V (some ⟨b, o, none⟩) l cap hv
    rw [hl] at t1
    rw [hn] at t2
    have hb := (h.below f).below f'
    exact ⟨a1, c1, rfl, t1 _ (own_bytes ho), t1 _ (own_bytes ho), t2 _ hb, t2 _ hb, f.trans (f'.mono f.size)⟩
  have f2 : ((n - 4 : Nat) : Int) ≤ (cap : Int) := by omega
  have f7 : ¬ cap = 0 := by omega
  have f8 : IntKind.i64.wrap ((n - 4 : Nat) : Int) = ((n - 4 : Nat) : Int) := by rw [IntKind.wrap_i64]; omega
  clear h
  go_enter Tryz.func93, Tryz.ntmps93
  go_wp2
  go_region_held (fun _ => True) (trivial) (first | (go_at_call 95; refine (unhide hS _ (by repeat (first | exact Below.refl _ _ | refine Below.drew ?_))).mono ?_; rintro e w3 ⟨a1, c1, rfl, k30, k31, k40, k41, f3⟩))
  all_goals
    have F3 := hide f3
    clear k30 k31 k40 k41 f3 k1 k2 hS
    go_wp2
    go_ret
    exact ⟨ret_bool (Bool.beq_eq_decide_eq _ _), by repeat (first | exact unhide F3 | refine Below.drew ?_)⟩

theorem qRight_any (w : World) (a : Option Addr) (n cap : Nat) (l : List UInt8) (hc : n ≤ cap) (hcap : cap ≤ 9223372036854775807) (hs : n ≤ 1000000) (h : Bs w a n l) :
    Calls Tryz.prog 93 #[.slice a n cap] w fun e w' => e = .returned (.bool (rightL l)) ∧ Below w.heap.size w w' := by
  have hn := h.1
  by_cases h4 : n < 4
  · refine (qRight_lt w a n cap h4).mono ?_
    rintro e w' ⟨rfl, f⟩
    exact ⟨by simp [rightL]; omega, f⟩
  · rcases h with ⟨_, h0 | ⟨b, o, rfl, h⟩⟩
    · omega
    · refine (qRight_ge w b o n cap l (by omega) hn hc hcap hs h).mono ?_
      rintro e w' ⟨rfl, f⟩
      refine ⟨?_, f⟩
      unfold rightL
      subst hn
      simp [show 4 ≤ l.length by omega]

end Go.Proofs.YtfggahkimconfaaGreatDoor

/- The contracts of the document's own frames: four, number. -/
namespace Go.Proofs.YtfggahkimconfaaGreatDoor
open Go.RowKit
set_option linter.unusedVariables false

set_option maxHeartbeats 400000 in
theorem zfour_any (w : World) (n : Nat) (hn : n < W32) :
    Calls Tryz.prog 94 #[.int .i64 (n : Int)] w fun e w' => e = .returned (.slice (some ⟨w.heap.size, 0, none⟩) 4 4) ∧ w' = w.alloc (.cells (bv (be4 n)).toArray 5) := by
  have hn' : n < 4294967296 := hn
  have hm : (n : Int) / 16777216 % 256 = (n : Int) / 16777216 := by omega
  rw [bv_be4 n, hm]
  clear hm
  go_enter Tryz.func94, Tryz.ntmps94
  go_wp2
  go_ret
  exact ⟨rfl, rfl⟩

set_option maxHeartbeats 800000 in
theorem znumber_at (w : World) (b o n cap : Nat) (l : List UInt8) (hn : l.length = n) (h4 : 4 ≤ n) (h : BytesAt w (some ⟨b, o, none⟩) l) :
    Calls Tryz.prog 92 #[.slice (some ⟨b, o, none⟩) n cap] w fun e w' => e = .returned (.int .i64 (num l : Int)) ∧ ∃ m, w' = w.drewN m := by
  obtain ⟨b0, h0⟩ : ∃ x, l[0]? = some x := ⟨_, List.getElem?_eq_getElem (by omega)⟩
  obtain ⟨b1, h1⟩ : ∃ x, l[1]? = some x := ⟨_, List.getElem?_eq_getElem (by omega)⟩
  obtain ⟨b2, h2⟩ : ∃ x, l[2]? = some x := ⟨_, List.getElem?_eq_getElem (by omega)⟩
  obtain ⟨b3, h3⟩ : ∃ x, l[3]? = some x := ⟨_, List.getElem?_eq_getElem (by omega)⟩
  have get : ∀ (i : Nat) (x : UInt8), l[i]? = some x → w.cell? ⟨b, o + i, none⟩ = some (.int .u8 (x.toNat : Int)) := fun i x hx => by
    have := h.2 _ rfl i (.int .u8 (x.toNat : Int)) (by simp [bv, hx])
    simpa [Addr.add_mid] using this
  have c0 := get 0 b0 h0
  rw [Nat.add_zero] at c0
  have c1 := get 1 b1 h1
  have c2 := get 2 b2 h2
  have c3 := get 3 b3 h3
  have hnum : (num l : Int) = (b0.toNat : Int) * 16777216 + (b1.toNat : Int) * 65536 + (b2.toNat : Int) * 256 + (b3.toNat : Int) := by
    unfold num
    simp only [List.getD_eq_getElem?_getD, h0, h1, h2, h3, Option.getD_some]
    omega
  rw [hnum]
  have l0 := b0.toNat_lt
  have l1 := b1.toNat_lt
  have l2 := b2.toNat_lt
  have l3 := b3.toNat_lt
  have g0 : (0 : Int) < (n : Int) := by omega
  have g1 : (1 : Int) < (n : Int) := by omega
  have g2 : (2 : Int) < (n : Int) := by omega
  have g3 : (3 : Int) < (n : Int) := by omega
  clear h get h0 h1 h2 h3 hnum
  go_enter Tryz.func92, Tryz.ntmps92
  go_wp2
  go_quiet (fail)
  go_wp2
  go_ret
  exact ⟨rfl, _, rfl⟩

end Go.Proofs.YtfggahkimconfaaGreatDoor

/- The contract of the document's own Write. -/
namespace Go.Proofs.YtfggahkimconfaaGreatDoor
open Go.RowKit
set_option linter.unusedVariables false

abbrev recV (r : Rec) : Value := .agg #[.int .i64 r.epoch, .string ⟨r.data.toArray⟩]

theorem zfour_own (wb W : World) (n : Nat) (hn : n < W32) (f : Below wb.heap.size wb W) :
    Calls Tryz.prog 94 #[.int .i64 (n : Int)] W fun e w' => ∃ q, e = .returned (.slice (some ⟨q, 0, none⟩) 4 4) ∧ w'.ownsRow wb.heap.size 5 1 (.slice (some ⟨q, 0, none⟩) 4 4) 4 (bv (be4 n)) ∧ Below wb.heap.size wb w' ∧ Below W.heap.size W w' := by
  refine (zfour_any W n hn).mono ?_
  rintro e w' ⟨rfl, rfl⟩
  have b : Below W.heap.size W (W.alloc (.cells (bv (be4 n)).toArray 5)) := (Below.refl _ _).alloc (Nat.le_refl _) _
  refine ⟨W.heap.size, rfl, ?_, f.trans (b.mono f.size), b⟩
  exact ⟨by simp [bv, be4], .inr ⟨W.heap.size, 4, _, rfl, f.size, heap_alloc_last W _, Nat.le_refl _, by unfold maxLen; omega, by simp [bv, be4], by simp [bv, be4]⟩⟩

set_option maxHeartbeats 600000 in
theorem zWrite_ok (w : World) (r : Rec) (h : recOk r) :
    Calls Tryz.prog 85 #[recV r] w fun e w' => ∃ v, e = .returned (.tuple #[v, .int .i64 0]) ∧ w'.ownsRow w.heap.size 5 1 v (r.data.length + 12) (bv (recL r)) ∧ Below w.heap.size w w' := by
  obtain ⟨ep, hep⟩ : ∃ ep : Nat, r.epoch = ep := ⟨r.epoch.toNat, by have := h.1; omega⟩
  have he := h.2.1
  have hl := h.2.2
  have hbody : bodyL r = be4 r.data.length ++ (be4 ep ++ r.data) := by unfold bodyL; rw [hep]; rfl
  have hrec : recL r = sealL (bodyL r) := rfl
  unfold recV
  rw [hrec, hbody, hep]
  rw [hep] at he
  generalize r.data = d at *
  clear hep hbody hrec h
  have hd : ((⟨d.toArray⟩ : ByteArray)).size = d.length := by simp [ByteArray.size]
  have g1 : decide ((ep : Int) < 0) = false := by simp
  have g2 : decide ((4294967295 : Int) < (ep : Int)) = false := by simp; omega
  have g3 : decide ((4096 : Int) < (d.length : Int)) = false := by simp; omega
  obtain ⟨i0, hi, hz0, hz1, hz2⟩ := info_parts infoB
  go_enter Tryz.func85, Tryz.ntmps85
  go_upto_region 5 with fail
  have hA := heap_alloc_last w (.cells #[.int .i64 (ep : Int), .string ⟨d.toArray⟩] 85)
  generalize hwb : w.alloc (.cells #[.int .i64 (ep : Int), .string ⟨d.toArray⟩] 85) = wb at *
  have hwbs : wb.heap.size = w.heap.size + 1 := by rw [← hwb]; simp
  have fb : Below w.heap.size w wb := by rw [← hwb]; exact (Below.refl _ _).alloc (Nat.le_refl _) _
  have cells : ∀ W, Below wb.heap.size wb W → W.cell? ⟨w.heap.size, 0, none⟩ = some (.int .i64 (ep : Int)) ∧ W.cell? ⟨w.heap.size, 1, none⟩ = some (.string ⟨d.toArray⟩) := fun W f => by
    have hW := (f.block w.heap.size (by omega)).trans hA
    exact ⟨by rw [cell_of_row _ _ _ _ _ _ hW]; rfl, by rw [cell_of_row _ _ _ _ _ _ hW]; rfl⟩
  have k1 := (cells wb (Below.refl _ _)).1
  have k2 := (cells wb (Below.refl _ _)).2
  have HC := hide cells
  have FB := hide fb
  have H1 := hide (fun (W : World) (f : Below wb.heap.size wb W) => zfour_own wb W d.length (by show _ < 4294967296; omega) f)
  have H2 := hide (fun (W : World) (f : Below wb.heap.size wb W) => zfour_own wb W ep (by show _ < 4294967296; omega) f)
  have one := bv_one (be4 ep)
  have mx : (4 : Nat) + 4 ≤ maxLen := by unfold maxLen; omega
  generalize hAe : w.heap.size = A at *
  have HAE := hide hAe
  clear hAe
  clear cells fb hA hwb
  go_region_held_law (fun W => W.cell? ⟨A, 0, none⟩ = some (.int .i64 (ep : Int)) ∧ W.cell? ⟨A, 1, none⟩ = some (.string ⟨d.toArray⟩)) (go_keep)
    (first
      | (have ox := o34; clear ox; refine step_append_lies _ rfl (.tmp 20) (.tmp 23) 43 rfl wb.heap.size 5 i0 (.int .u8 0) 1 1 Tryz.underlying43 hi hz0 hz1 hz2 rfl (by decide) _ 4 (bv (be4 d.length)) rfl (by exact own_below o34 (by repeat (first | exact Below.refl _ _ | refine Below.drew ?_))) ⟨q4, 0, none⟩ 4 4 (bv (be4 ep)) rfl rfl (by exact o4.cells (g := q4) rfl) one (by omega) mx (by omega) (by exact f4.size) _ rfl ?_; intro g cap w5 o5 g5 _ _; have k51 := (unhide HC w5 (show Below wb.heap.size wb w5 from Below.grown (by repeat (first | exact f4 | refine Below.drew ?_)) g5 (by exact f4.size) (fun x hx => (o3.lt x hx).1))).1; have k52 := (unhide HC w5 (show Below wb.heap.size wb w5 from Below.grown (by repeat (first | exact f4 | refine Below.drew ?_)) g5 (by exact f4.size) (fun x hx => (o3.lt x hx).1))).2)
      | (have fx := f3; clear fx; go_at_call 94; refine (unhide H2 _ (by repeat (first | exact f3 | refine Below.drew ?_))).mono ?_; rintro e w4 ⟨q4, rfl, o4, f4, b4⟩; have o34 := own_below o3 (show Below w3.heap.size w3 w4 by first | exact b4 | exact (Below.drew (Below.refl _ _)).trans b4 | exact (Below.drew (Below.drew (Below.refl _ _))).trans b4); have k41 := (unhide HC w4 f4).1; have k42 := (unhide HC w4 f4).2)
      | (go_at_call 94; refine (unhide H1 _ (by repeat (first | exact Below.refl _ _ | refine Below.drew ?_))).mono ?_; rintro e w3 ⟨q3, rfl, o3, f3, b3⟩; have k31 := (unhide HC w3 f3).1; have k32 := (unhide HC w3 f3).2))
  have f5 : Below wb.heap.size wb w5 := Below.grown (by repeat (first | exact f4 | refine Below.drew ?_)) g5 (by exact f4.size) (fun x hx => (o3.lt x hx).1)
  have hlt5 := o5.lt
  have F5 := hide f5
  clear o3 o4 o34 b3 b4 f3 f4 g5 f5 H1 H2 k31 k32 k41 k42 one mx
  go_simp
  go_wp2_with (at_builtin; refine Lib.wpList_append_own_string _ rfl (.tmp 25) (.tmp 27) 43 9 rfl wb.heap.size 5 i0 Tryz.underlying43 Tryz.underlying9 hi hz0 hz1 hz2 _ 8 (bv (be4 d.length) ++ bv (be4 ep)) rfl o5 ⟨d.toArray⟩ rfl ?c3 ?c4 ?c5 ?_)
  case c3 => rw [hd]; unfold maxLen; omega
  case c4 => rw [hd]; omega
  case c5 => exact (unhide F5).size
  intro v6 w6 o6 g6 _
  have f6 : Below wb.heap.size wb w6 := (unhide F5).grown g6 (unhide F5).size (fun x hx => by
    have := (hlt5 x hx).1
    exact this)
  have eb : bv (be4 d.length) ++ (bv (be4 ep) ++ Lib.strCells ⟨d.toArray⟩) = bv (be4 d.length ++ (be4 ep ++ d)) := by
    have : Lib.strCells ⟨d.toArray⟩ = bv d := by simp [Lib.strCells, bv]
    rw [this, bv_append, bv_append]
  rw [eb] at o6
  obtain ⟨g7, c7, rfl, _, _⟩ := o6.form (by omega)
  have hb : Bs w6 (some ⟨g7, 0, none⟩) (8 + d.length) (be4 d.length ++ (be4 ep ++ d)) := bs_of_own (by simp [be4_len]; omega) o6
  have H7 := hide (qSeal_some w6 ⟨g7, 0, none⟩ (8 + d.length) c7 _ (by omega) hb)
  have f6w : Below w.heap.size w w6 := by rw [unhide HAE]; exact (unhide FB).trans (f6.mono (by rw [hwbs]; omega))
  have F6 := hide f6w
  clear o6 g6 f6 eb hb f6w hlt5 o5 F5 FB
  go_wp2_with fail
  refine (unhide H7).mono ?_
  rintro e w8 ⟨v8, rfl, o8, f8⟩
  have O8 := hide o8
  have F8 := hide ((unhide F6).trans (f8.mono (unhide F6).size))
  have S6 : Hid (w.heap.size ≤ w6.heap.size) := (unhide F6).size
  clear o8 f8 H7 F6
  go_wp2
  go_ret2
  refine ⟨v8, rfl, ?_, unhide F8⟩
  have o := unhide O8
  rw [show 8 + d.length + 4 = d.length + 12 by omega] at o
  exact ⟨o.1, o.2.elim .inl (fun ⟨g, cap, cur, hv, hg, r⟩ => .inr ⟨g, cap, cur, hv, Nat.le_trans (unhide S6) hg, r⟩)⟩

def writeE (r : Rec) : Int := if r.epoch < 0 ∨ 4294967295 < r.epoch then 2 else if 4096 < r.data.length then 3 else 0
def writeL (r : Rec) : List UInt8 := if writeE r = 0 then recL r else []
theorem writeE_ok {r : Rec} : writeE r = 0 ↔ recOk r := by
  unfold writeE recOk
  constructor
  · intro h
    split at h
    · exact absurd h (by decide)
    · split at h
      · exact absurd h (by decide)
      · omega
  · rintro ⟨h1, h2, h3⟩
    rw [if_neg (by omega), if_neg (by omega)]
set_option maxHeartbeats 800000 in
theorem zWrite_bad (w : World) (r : Rec) (h : ¬ writeE r = 0) :
    Calls Tryz.prog 85 #[recV r] w fun e w' => e = .returned (.tuple #[.slice none 0 0, .int .i64 (writeE r)]) ∧ Below w.heap.size w w' := by
  have fb : Below w.heap.size w (w.alloc (.cells #[.int .i64 r.epoch, .string ⟨r.data.toArray⟩] 85)) := (Below.refl _ _).alloc (Nat.le_refl _) _
  have FB := hide fb
  clear fb
  unfold recV
  by_cases h1 : r.epoch < 0
  · rw [show writeE r = 2 by unfold writeE; rw [if_pos (.inl h1)]]
    have g1 : decide (r.epoch < 0) = true := by simpa using h1
    go_enter Tryz.func85, Tryz.ntmps85
    go_wp2
    go_ret2
    exact ⟨rfl, unhide FB⟩
  · have g1 : decide (r.epoch < 0) = false := by simpa using h1
    by_cases h2 : 4294967295 < r.epoch
    · rw [show writeE r = 2 by unfold writeE; rw [if_pos (.inr h2)]]
      have g2 : decide (4294967295 < r.epoch) = true := by simpa using h2
      go_enter Tryz.func85, Tryz.ntmps85
      go_wp2
      go_ret2
      exact ⟨rfl, unhide FB⟩
    · have g2 : decide (4294967295 < r.epoch) = false := by simpa using h2
      have h3 : 4096 < r.data.length := by
        unfold writeE at h
        rw [if_neg (by omega)] at h
        split at h
        · assumption
        · exact absurd rfl h
      rw [show writeE r = 3 by unfold writeE; rw [if_neg (by omega), if_pos h3]]
      have g3 : decide ((4096 : Int) < (r.data.length : Int)) = true := by simp; omega
      go_enter Tryz.func85, Tryz.ntmps85
      go_wp2
      go_ret2
      exact ⟨rfl, unhide FB⟩
theorem zWrite_any (w : World) (r : Rec) :
    Calls Tryz.prog 85 #[recV r] w fun e w' => ∃ v, e = .returned (.tuple #[v, .int .i64 (writeE r)]) ∧ w'.ownsRow w.heap.size 5 1 v (writeL r).length (bv (writeL r)) ∧ Below w.heap.size w w' := by
  by_cases h : writeE r = 0
  · have hl : (writeL r).length = r.data.length + 12 := by unfold writeL; rw [if_pos h, rec_len]
    rw [hl]
    unfold writeL
    rw [if_pos h, h]
    exact zWrite_ok w r (writeE_ok.1 h)
  · refine (zWrite_bad w r h).mono ?_
    rintro e w' ⟨rfl, f⟩
    refine ⟨_, rfl, ?_, f⟩
    unfold writeL
    rw [if_neg h]
    exact World.ownsRow_nil _ _ _ _

end Go.Proofs.YtfggahkimconfaaGreatDoor

/- The contract of the document's own First. -/
namespace Go.Proofs.YtfggahkimconfaaGreatDoor
open Go.RowKit
set_option linter.unusedVariables false

def rec0 : Rec := ⟨0, []⟩
theorem results_cell_two {fn : Func} {p u v : Tmp} {ty : TypeId} (h : fn.results = #[.cell p ty, .tmp u, .tmp v]) (tmps : Array Value) (P : Program) (w : World) :
    (results fn tmps).run P w =
      ((asAddr (tmps.getD p undef)).run P w).andThen fun a w₁ => ((loadVar ty a).run P w₁).andThen fun x w₂ => .ok (.tuple #[x, tmps.getD u undef, tmps.getD v undef]) w₂ := by
  simp only [results, h]
  simp [Sem.run_bind, Result.andThen]
theorem rec_results {fn : Func} (h : fn.results = #[.cell 2 85, .tmp 3, .tmp 4]) (w : World) (A : Nat) (c0 c1 : Value) (h0 : w.cell? ⟨A, 0, none⟩ = some c0) (h1 : w.cell? ⟨A, 1, none⟩ = some c1) (o0 : c0.oneCell' = true) (o1 : c1.oneCell' = true) (tmps : Array Value) (hp : tmps.getD 2 undef = .pointer (some ⟨A, 0, none⟩)) :
    (results fn tmps).run Tryz.prog w = .ok (.tuple #[.agg #[c0, c1], tmps.getD 3 undef, tmps.getD 4 undef]) w := by
  rw [results_cell_two h, hp]
  go_simp

set_option maxHeartbeats 800000 in
theorem zFirst_short (w : World) (a : Option Addr) (n cap : Nat) (h8 : n < 8) :
    Calls Tryz.prog 80 #[.slice a n cap] w fun e w' => e = .returned (.tuple #[recV rec0, .int .i64 0, .int .i64 7]) ∧ Below w.heap.size w w' := by
  have g1 : decide ((n : Int) < 8) = true := by simp; omega
  have hl := heap_alloc_last w (.cells #[.int .i64 0, .string ⟨#[]⟩] 85)
  have fb : Below w.heap.size w (w.alloc (.cells #[.int .i64 0, .string ⟨#[]⟩] 85)) := (Below.refl _ _).alloc (Nat.le_refl _) _
  have HL := hide hl
  have FB := hide fb
  clear hl fb
  go_enter Tryz.func80, Tryz.ntmps80
  go_wp2
  refine bodyPost_ret (rec_results Tryz.results80 _ w.heap.size (.int .i64 0) (.string ⟨#[]⟩) (by rw [cell_of_row _ _ _ _ _ _ (unhide HL)]; rfl) (by rw [cell_of_row _ _ _ _ _ _ (unhide HL)]; rfl) rfl rfl _ rfl) rfl ⟨rfl, unhide FB⟩

theorem rec_set {W : World} {A : Nat} {a0 a1 : Value} (c0 c1 : Value) (h : W.heap[A]? = some (.cells #[a0, a1] 85 (0, 0))) :
    ((W.setCell ⟨A, 0, none⟩ c0).setCell ⟨A, 1, none⟩ c1).cell? ⟨A, 0, none⟩ = some c0 ∧ ((W.setCell ⟨A, 0, none⟩ c0).setCell ⟨A, 1, none⟩ c1).cell? ⟨A, 1, none⟩ = some c1 := by
  have h1 := heap_setCell_same W A 0 _ _ c0 h
  have h2 := heap_setCell_same _ A 1 _ _ c1 h1
  exact ⟨by rw [cell_of_row _ _ _ _ _ _ h2]; rfl, by rw [cell_of_row _ _ _ _ _ _ h2]; rfl⟩
theorem rec_below {B A : Nat} {w W : World} (c0 c1 : Value) (h : Below B w W) (hA : B ≤ A) : Below B w ((W.setCell ⟨A, 0, none⟩ c0).setCell ⟨A, 1, none⟩ c1) := (h.setCell (p := ⟨A, 0, none⟩) hA _).setCell (p := ⟨A, 1, none⟩) hA _
theorem bytes_drop {W : World} {b o : Nat} {l : List UInt8} (h : BytesAt W (some ⟨b, o, none⟩) l) (k : Nat) : BytesAt W (some ⟨b, o + k, none⟩) (l.drop k) :=
  ⟨(fun e => by cases e), fun ad e i u hu => by
    injection e with e
    subst e
    have hu' : (bv l)[k + i]? = some u := by
      simp only [bv, List.map_drop, List.getElem?_drop] at hu ⊢
      exact hu
    have := h.2 _ rfl (k + i) u hu'
    rw [Addr.add_mid] at this ⊢
    rw [Nat.add_assoc]
    exact this⟩
theorem conv_piece (W : World) (b o c : Nat) (l : List UInt8) (k m : Nat) (hm : k + m ≤ l.length) (h : BytesAt W (some ⟨b, o, none⟩) l) :
    (convert 43 9 (.slice (some ⟨b, o + k, none⟩) m c)).run Tryz.prog W = .ok (.string ⟨((l.drop k).take m).toArray⟩) W := by
  have hl : ((l.drop k).take m).length = m := by rw [List.length_take, List.length_drop]; omega
  have := conv_bytes W (some ⟨b, o + k, none⟩) ((l.drop k).take m) c (bytes_take (bytes_drop h k) m)
  rw [hl] at this
  exact this
def firstQ (l : List UInt8) : Rec := if firstE l = 0 then firstR l else rec0
def firstN (l : List UInt8) : Nat := if firstE l = 0 then num l + 12 else 0

set_option maxHeartbeats 1600000 in
theorem zFirst_at (w : World) (b o n cap : Nat) (l : List UInt8) (hn : l.length = n) (h8 : 8 ≤ n) (hc : n ≤ cap) (hcap : cap ≤ 9223372036854775807) (hs : n ≤ 1000000) (h : BytesAt w (some ⟨b, o, none⟩) l) :
    Calls Tryz.prog 80 #[.slice (some ⟨b, o, none⟩) n cap] w fun e w' => e = .returned (.tuple #[recV (firstQ l), .int .i64 (firstN l : Int), .int .i64 (firstE l)]) ∧ Below w.heap.size w w' := by
  have g1 : decide ((n : Int) < 8) = false := by simp; omega
  have hl := heap_alloc_last w (.cells #[.int .i64 0, .string ⟨#[]⟩] 85)
  have fb : Below w.heap.size w (w.alloc (.cells #[.int .i64 0, .string ⟨#[]⟩] 85)) := (Below.refl _ _).alloc (Nat.le_refl _) _
  have H1 := hide (znumber_at (w.alloc (.cells #[.int .i64 0, .string ⟨#[]⟩] 85)) b o n cap l hn (by omega) (h.below fb))
  have hnl := num_le l
  have hnl' : num l < 4294967296 := hnl
  have HL := hide hl
  have FB := hide fb
  have hE : firstE l = if 4096 < num l then 30 else if n < num l + 12 then 7 else if rightL (l.take (num l + 12)) = true then 0 else 30 := by
    unfold firstE
    rw [hn, if_neg (by omega)]
  have HB := hide h
  clear hl fb hnl h
  by_cases h1 : 4096 < num l
  · have e1 : firstE l = 30 := by rw [hE, if_pos h1]
    have e2 : firstQ l = rec0 := by unfold firstQ; rw [if_neg (by rw [e1]; decide)]
    have e3 : firstN l = 0 := by unfold firstN; rw [if_neg (by rw [e1]; decide)]
    rw [e1, e2, e3]
    have g2 : decide ((4096 : Int) < (num l : Int)) = true := by simp; omega
    clear hE e1 e2 e3
    generalize num l = m at *
    go_enter Tryz.func80, Tryz.ntmps80
    go_wp2_with fail
    refine (unhide H1).mono ?_
    rintro e w1 ⟨rfl, j, rfl⟩
    go_wp2
    refine bodyPost_ret (rec_results Tryz.results80 _ w.heap.size (.int .i64 0) (.string ⟨#[]⟩) ?_ ?_ rfl rfl _ rfl) rfl ⟨rfl, ?_⟩
    · exact (rec_set _ _ (W := (w.alloc (.cells #[.int .i64 0, .string ⟨#[]⟩] 85)).drewN j) (unhide HL)).1
    · exact (rec_set _ _ (W := (w.alloc (.cells #[.int .i64 0, .string ⟨#[]⟩] 85)).drewN j) (unhide HL)).2
    · exact rec_below _ _ (below_drewN (unhide FB) j) (Nat.le_refl _)
  · have g2 : decide ((4096 : Int) < (num l : Int)) = false := by simp; omega
    by_cases h2 : n < num l + 12
    · have e1 : firstE l = 7 := by rw [hE, if_neg h1, if_pos h2]
      have e2 : firstQ l = rec0 := by unfold firstQ; rw [if_neg (by rw [e1]; decide)]
      have e3 : firstN l = 0 := by unfold firstN; rw [if_neg (by rw [e1]; decide)]
      rw [e1, e2, e3]
      have g3 : decide ((n : Int) < (num l : Int) + 12) = true := by simp; omega
      clear hE e1 e2 e3
      generalize num l = m at *
      go_enter Tryz.func80, Tryz.ntmps80
      go_wp2_with fail
      refine (unhide H1).mono ?_
      rintro e w1 ⟨rfl, j, rfl⟩
      go_wp2
      refine bodyPost_ret (rec_results Tryz.results80 _ w.heap.size (.int .i64 0) (.string ⟨#[]⟩) ?_ ?_ rfl rfl _ rfl) rfl ⟨rfl, ?_⟩
      · exact (rec_set _ _ (W := (w.alloc (.cells #[.int .i64 0, .string ⟨#[]⟩] 85)).drewN j) (unhide HL)).1
      · exact (rec_set _ _ (W := (w.alloc (.cells #[.int .i64 0, .string ⟨#[]⟩] 85)).drewN j) (unhide HL)).2
      · exact rec_below _ _ (below_drewN (unhide FB) j) (Nat.le_refl _)
    · have g3 : decide ((n : Int) < (num l : Int) + 12) = false := by simp; omega
      obtain ⟨M, hM⟩ : ∃ M, M = num l + 12 := ⟨_, rfl⟩
      have hM1 : (num l : Int) + 12 = (M : Int) := by omega
      have g4 : (M : Int) ≤ (cap : Int) := by omega
      have g5 : ¬ cap = 0 := by omega
      have H2 : Hid (∀ W, Below w.heap.size w W → Calls Tryz.prog 93 #[.slice (some ⟨b, o, none⟩) M cap] W fun e w' => e = .returned (.bool (rightL (l.take M))) ∧ Below W.heap.size W w') := fun W f =>
        qRight_any W _ M cap (l.take M) (by omega) hcap (by omega) ⟨by simp; omega, .inr ⟨b, o, rfl, bytes_take ((unhide HB).below f) _⟩⟩
      rw [← hM] at hE
      cases hr : rightL (l.take M) with
      | false =>
        have e1 : firstE l = 30 := by rw [hE, if_neg h1, if_neg (by omega), if_neg (by rw [hr]; decide)]
        have e2 : firstQ l = rec0 := by unfold firstQ; rw [if_neg (by rw [e1]; decide)]
        have e3 : firstN l = 0 := by unfold firstN; rw [if_neg (by rw [e1]; decide)]
        rw [e1, e2, e3]
        rw [hr] at H2
        clear hE e1 e2 e3 hM hr
        generalize num l = m at *
        go_enter Tryz.func80, Tryz.ntmps80
        go_wp2_with fail
        refine (unhide H1).mono ?_
        rintro e w1 ⟨rfl, j, rfl⟩
        have H2' := hide (unhide H2 _ (below_drewN (unhide FB) j))
        go_wp2_with fail
        refine (unhide H2').mono ?_
        rintro e w2 ⟨rfl, f2⟩
        have hW2 : w2.heap[w.heap.size]? = some (.cells #[.int .i64 0, .string ⟨#[]⟩] 85) := (f2.block _ (lt_of_heap (unhide HL))).trans (unhide HL)
        have F2 : Hid (Below w.heap.size w w2) := (below_drewN (unhide FB) j).trans (f2.mono (unhide FB).size)
        have hc0 : w2.cell? ⟨w.heap.size, 0, none⟩ = some (.int .i64 0) := by rw [cell_of_row _ _ _ _ _ _ hW2]; rfl
        have hc1 : w2.cell? ⟨w.heap.size, 1, none⟩ = some (.string ⟨#[]⟩) := by rw [cell_of_row _ _ _ _ _ _ hW2]; rfl
        have hf0 : w2.frozen? ⟨w.heap.size, 0, none⟩ = false := frozen_of_row _ _ _ _ _ hW2
        have hf1 : w2.frozen? ⟨w.heap.size, 1, none⟩ = false := frozen_of_row _ _ _ _ _ hW2
        have HW2 := hide hW2
        clear f2 hW2 H1 H2 H2'
        go_wp2
        refine bodyPost_ret (rec_results Tryz.results80 _ w.heap.size (.int .i64 0) (.string ⟨#[]⟩) ?_ ?_ rfl rfl _ rfl) rfl ⟨rfl, ?_⟩
        · exact (rec_set _ _ (unhide HW2)).1
        · exact (rec_set _ _ (unhide HW2)).2
        · exact rec_below _ _ (unhide F2) (Nat.le_refl _)
      | true =>
        have e1 : firstE l = 0 := by rw [hE, if_neg h1, if_neg (by omega), if_pos hr]
        have e2 : firstQ l = firstR l := by unfold firstQ; rw [if_pos e1]
        have e3 : firstN l = M := by unfold firstN; rw [if_pos e1, hM]
        rw [e1, e2, e3]
        rw [hr] at H2
        have hR : recV (firstR l) = .agg #[.int .i64 (num (l.drop 4) : Int), .string ⟨((l.drop 8).take (num l)).toArray⟩] := rfl
        rw [hR]
        obtain ⟨K, hK⟩ : ∃ K, K = 8 + num l := ⟨_, rfl⟩
        have hK1 : (8 : Int) + (num l : Int) = (K : Int) := by omega
        have hK2 : IntKind.i64.wrap (K : Int) = (K : Int) := by rw [IntKind.wrap_i64]; omega
        have hK3 : K - 8 = num l := by omega
        have hK4 : (8 : Int) ≤ (K : Int) := by omega
        have hK5 : (K : Int) ≤ (cap : Int) := by omega
        have hM2 : IntKind.i64.wrap (M : Int) = (M : Int) := by rw [IntKind.wrap_i64]; omega
        have g6 : ¬ cap = 4 := by omega
        have g7 : ¬ cap = 8 := by omega
        have g8 : (4 : Int) ≤ (n : Int) := by omega
        have g9 : (n : Int) ≤ (cap : Int) := by omega
        have HCV : Hid (∀ W, Below w.heap.size w W → (convert 43 9 (.slice (some ⟨b, o + 8, none⟩) (num l) (cap - 8))).run Tryz.prog W = .ok (.string ⟨((l.drop 8).take (num l)).toArray⟩) W) := fun W f => conv_piece W b o (cap - 8) l 8 (num l) (by omega) ((unhide HB).below f)
        have H3 : Hid (∀ W, Below w.heap.size w W → Calls Tryz.prog 92 #[.slice (some ⟨b, o + 4, none⟩) (n - 4) (cap - 4)] W fun e w' => e = .returned (.int .i64 (num (l.drop 4) : Int)) ∧ ∃ j, w' = W.drewN j) := fun W f =>
          znumber_at W b (o + 4) (n - 4) (cap - 4) (l.drop 4) (by rw [List.length_drop, hn]) (by omega) (bytes_drop ((unhide HB).below f) 4)
        clear hE e1 e2 e3 hM hr hR hK
        generalize hs : (⟨((l.drop 8).take (num l)).toArray⟩ : ByteArray) = st at *
        clear hs
        generalize num (l.drop 4) = ep at *
        generalize num l = m at *
        go_enter Tryz.func80, Tryz.ntmps80
        go_wp2_with fail
        refine (unhide H1).mono ?_
        rintro e w1 ⟨rfl, j, rfl⟩
        have H2' := hide (unhide H2 _ (below_drewN (unhide FB) j))
        go_wp2_with fail
        refine (unhide H2').mono ?_
        rintro e w2 ⟨rfl, f2⟩
        have hW2 : w2.heap[w.heap.size]? = some (.cells #[.int .i64 0, .string ⟨#[]⟩] 85) := (f2.block _ (lt_of_heap (unhide HL))).trans (unhide HL)
        have f2' : Below w.heap.size w w2 := (below_drewN (unhide FB) j).trans (f2.mono (unhide FB).size)
        have F2 := hide f2'
        have hc0 : w2.cell? ⟨w.heap.size, 0, none⟩ = some (.int .i64 0) := by rw [cell_of_row _ _ _ _ _ _ hW2]; rfl
        have hc1 : w2.cell? ⟨w.heap.size, 1, none⟩ = some (.string ⟨#[]⟩) := by rw [cell_of_row _ _ _ _ _ _ hW2]; rfl
        have hf0 : w2.frozen? ⟨w.heap.size, 0, none⟩ = false := frozen_of_row _ _ _ _ _ hW2
        have hf1 : w2.frozen? ⟨w.heap.size, 1, none⟩ = false := frozen_of_row _ _ _ _ _ hW2
        have v1 := unhide HCV w2 f2'
        have v2 := unhide HCV w2.drew f2'.drew
        have v3 := fun (k : Nat) => unhide HCV (w2.drewN k) (below_drewN f2' k)
        have v4 := fun (k : Nat) => unhide HCV (w2.drewN k).drew (below_drewN f2' k).drew
        have HW2 := hide hW2
        clear f2 f2' hW2 H1 H2 H2'
        go_wp2_with fail
        go_region_held (fun _ => True) (trivial)
          (first
            | (go_at_call 92; refine (unhide H3 _ (by repeat (first | exact unhide F2 | refine Below.drew ?_))).mono ?_; rintro e w3 ⟨rfl, j3, rfl⟩))
        all_goals clear v1 v2 v3 v4 hc0 hc1 hf0 hf1
        all_goals go_wp2
        all_goals refine bodyPost_ret (rec_results Tryz.results80 _ w.heap.size (.int .i64 (ep : Int)) (.string st) ?_ ?_ rfl rfl _ rfl) rfl ⟨rfl, ?_⟩
        all_goals first
          | exact (rec_set _ _ (W := w2.drewN (1 + j3)) (unhide HW2)).1
          | exact (rec_set _ _ (W := w2.drewN (1 + j3)) (unhide HW2)).2
          | exact rec_below _ _ (below_drewN (unhide F2) _) (Nat.le_refl _)

theorem zFirst_any (w : World) (a : Option Addr) (n cap : Nat) (l : List UInt8) (hc : n ≤ cap) (hcap : cap ≤ 9223372036854775807) (hs : n ≤ 1000000) (h : Bs w a n l) :
    Calls Tryz.prog 80 #[.slice a n cap] w fun e w' => e = .returned (.tuple #[recV (firstQ l), .int .i64 (firstN l : Int), .int .i64 (firstE l)]) ∧ Below w.heap.size w w' := by
  have hn := h.1
  by_cases h8 : n < 8
  · have e1 : firstE l = 7 := by unfold firstE; rw [if_pos (by omega)]
    have e2 : firstQ l = rec0 := by unfold firstQ; rw [if_neg (by rw [e1]; decide)]
    have e3 : firstN l = 0 := by unfold firstN; rw [if_neg (by rw [e1]; decide)]
    rw [e1, e2, e3]
    exact zFirst_short w a n cap h8
  · rcases h.2 with h0 | ⟨b, o, rfl, hb⟩
    · omega
    · exact zFirst_at w b o n cap l hn (by omega) hc hcap hs hb

end Go.Proofs.YtfggahkimconfaaGreatDoor

/- Records in memory; the contracts of the document's own Scan and All, and SameRecords. -/
namespace Go.Proofs.YtfggahkimconfaaGreatDoor
open Go.RowKit
set_option linter.unusedVariables false

/-- A record's two cells. -/
def rv (rs : List Rec) : List Value := rs.flatMap fun r => [.int .i64 r.epoch, .string ⟨r.data.toArray⟩]
theorem rv_len (rs : List Rec) : (rv rs).length = rs.length * 2 := by
  induction rs with
  | nil => rfl
  | cons r rs ih => simp only [rv, List.flatMap_cons, List.length_append, List.length_cons, List.length_nil] at ih ⊢; omega
theorem rv_append (a b : List Rec) : rv (a ++ b) = rv a ++ rv b := by simp [rv]
theorem rv_one (rs : List Rec) : ∀ v ∈ rv rs, v.oneCell' = true := by
  intro v hv
  simp only [rv, List.mem_flatMap, List.mem_cons, List.not_mem_nil, or_false] at hv
  obtain ⟨r, _, rfl | rfl⟩ := hv <;> rfl
theorem rv_get {rs : List Rec} {k : Nat} {r : Rec} (h : rs[k]? = some r) : (rv rs)[2 * k]? = some (.int .i64 r.epoch) ∧ (rv rs)[2 * k + 1]? = some (.string ⟨r.data.toArray⟩) := by
  induction rs generalizing k with
  | nil => simp at h
  | cons x rs ih =>
    cases k with
    | zero => simp at h; subst h; exact ⟨rfl, rfl⟩
    | succ k =>
      have := ih (by simpa using h)
      have e : rv (x :: rs) = .int .i64 x.epoch :: .string ⟨x.data.toArray⟩ :: rv rs := rfl
      rw [e, show 2 * (k + 1) = 2 * k + 1 + 1 by omega]
      exact this
theorem infoR : (Tryz.prog.info? 85).map (fun i => (i.zero, i.size, i.bytes)) = some (some (.agg #[.int .i64 0, .string ⟨#[]⟩]), 2, 24) := by kernel_rfl

/-- Records that lie in memory. -/
def RecsAt (w : World) (a : Option Addr) (rs : List Rec) : Prop := ∀ ad, a = some ad → ∀ j u, (rv rs)[j]? = some u → w.cell? (ad.add j) = some u
def Rs (w : World) (a : Option Addr) (n : Nat) (rs : List Rec) : Prop := rs.length = n ∧ (n = 0 ∨ ∃ b o, a = some ⟨b, o, none⟩ ∧ RecsAt w (some ⟨b, o, none⟩) rs)
theorem RecsAt.below {w w' : World} {a : Option Addr} {rs : List Rec} (h : RecsAt w a rs) (f : Below w.heap.size w w') : RecsAt w' a rs := fun ad e j u hu => by
  have h1 := h ad e j u hu
  exact (f.cell (World.block_lt_of_cell? w _ h1)).trans h1
theorem Rs.below {w w' : World} {a : Option Addr} {n : Nat} {rs : List Rec} (h : Rs w a n rs) (f : Below w.heap.size w w') : Rs w' a n rs := by
  rcases h with ⟨h1, h2 | ⟨b, o, e, h2⟩⟩
  · exact ⟨h1, .inl h2⟩
  · exact ⟨h1, .inr ⟨b, o, e, h2.below f⟩⟩
theorem recs_get {w : World} {b o : Nat} {rs : List Rec} (h : RecsAt w (some ⟨b, o, none⟩) rs) {k : Nat} {r : Rec} (hk : rs[k]? = some r) : w.cell? ⟨b, o + k * 2, none⟩ = some (.int .i64 r.epoch) ∧ w.cell? ⟨b, o + k * 2 + 1, none⟩ = some (.string ⟨r.data.toArray⟩) := by
  have := rv_get hk
  have h1 := h _ rfl _ _ this.1
  have h2 := h _ rfl _ _ this.2
  rw [Addr.add_mid] at h1 h2
  rw [show o + 2 * k = o + k * 2 by omega] at h1
  rw [show o + (2 * k + 1) = o + k * 2 + 1 by omega] at h2
  exact ⟨h1, h2⟩
theorem rs_of_own {w : World} {base n : Nat} {a : Option Addr} {c : Nat} {rs : List Rec} (h : w.ownsRow base 85 2 (.slice a n c) n (rv rs)) : Rs w a n rs := by
  have hl := h.1
  rw [rv_len] at hl
  have hl' : rs.length = n := by omega
  rcases h.2 with ⟨e, h0⟩ | ⟨q, cap, cur, e, _⟩
  · exact ⟨hl', .inl h0⟩
  · injection e with e
    subst e
    exact ⟨hl', .inr ⟨q, 0, rfl, fun ad e => by injection e with e; subst e; exact h.cells (g := q) rfl⟩⟩

/-- A slice from k on. -/
theorem arg_from {w : World} {a : Option Addr} {n cap : Nat} {l : List UInt8} (h : Arg w a n cap l) (k : Nat) (hk : k ≤ n) : Bs w (if cap = k then a else Option.map (fun x => x.add k) a) (n - k) (l.drop k) := by
  have := sub_bs h k n hk (Nat.le_refl _)
  rw [List.take_of_length_le (by have := h.bs.1; omega)] at this
  exact this
theorem own2_below {w w' : World} {base n : Nat} {e : TypeId} {v : Value} {xs : List Value} (h : w.ownsRow base e 2 v n xs) (f : Below w.heap.size w w') : w'.ownsRow base e 2 v n xs :=
  own_of_block h (fun k hk => f.block k (h.lt k hk).2)
theorem own2_form {w : World} {base n : Nat} {e : TypeId} {v : Value} {xs : List Value} (h : w.ownsRow base e 2 v n xs) : ∃ a c, v = .slice a n c := by
  rcases h.2 with ⟨rfl, rfl⟩ | ⟨q, cap, cur, rfl, _⟩
  · exact ⟨none, 0, rfl⟩
  · exact ⟨_, cap, rfl⟩

/-- Between two rounds of Scan. -/
structure SR (w : World) (l : List UInt8) (n k : Nat) (last : Int) (v : Value) (W : World) : Prop where
  le : k ≤ n
  lo : 0 ≤ last
  hi : last ≤ 4294967295
  ex : ∃ done, scanL l 0 = (done ++ (scanL (l.drop k) last).1, k + (scanL (l.drop k) last).2) ∧ done.length * 12 ≤ k ∧ W.ownsRow w.heap.size 85 2 v done.length (rv done)
  fr : Below w.heap.size w W

theorem first_yes {m : List UInt8} {last : Int} (hc : firstE m = 0 ∧ last ≤ (firstR m).epoch) (hlo : 0 ≤ last) : firstQ m = firstR m ∧ firstN m = num m + 12 ∧ num m + 12 ≤ m.length ∧ 0 ≤ (firstR m).epoch ∧ (firstR m).epoch ≤ 4294967295 := by
  refine ⟨by unfold firstQ; rw [if_pos hc.1], by unfold firstN; rw [if_pos hc.1], first_pos hc.1, Int.le_trans hlo hc.2, ?_⟩
  have : num (m.drop 4) < 4294967296 := num_le _
  have e : (firstR m).epoch = (num (m.drop 4) : Int) := rfl
  rw [e]
  omega
theorem rv_single (r : Rec) : rv [r] = [.int .i64 r.epoch, .string ⟨r.data.toArray⟩] := rfl
/-- A record, and a list of it alone. -/
theorem two_recs (w : World) (ep : Int) (st : ByteArray) :
    Below w.heap.size w ((w.alloc (.cells #[.int .i64 ep, .string st] 85)).alloc (.cells #[.int .i64 ep, .string st] 85)) ∧
    (∀ i u, [Value.int .i64 ep, .string st][i]? = some u → ((w.alloc (.cells #[.int .i64 ep, .string st] 85)).alloc (.cells #[.int .i64 ep, .string st] 85)).cell? (Addr.add ⟨w.heap.size + 1, 0, none⟩ i) = some u) ∧
    ((w.alloc (.cells #[.int .i64 ep, .string st] 85)).alloc (.cells #[.int .i64 ep, .string st] 85)).cell? ⟨w.heap.size, 0, none⟩ = some (.int .i64 ep) := by
  refine ⟨((Below.refl _ _).alloc (Nat.le_refl _) _).alloc (by simp) _, ?_, cell_alloc (by rw [cell_of_row _ _ _ _ _ _ (heap_alloc_last w _)]; rfl) _⟩
  have := World.news_of_block (heap_alloc_last (w.alloc (.cells #[.int .i64 ep, .string st] 85)) (.cells [Value.int .i64 ep, .string st].toArray 85))
  rw [World.size_alloc] at this
  exact this
theorem SR.next {w : World} {l : List UInt8} {n k M : Nat} {last ep : Int} {v3 : Value} {w3 : World} {done : List Rec} {m : List UInt8} (hm : l.drop k = m) (hc : firstE m = 0 ∧ last ≤ (firstR m).epoch) (hM : num m + 12 = M) (hep : (firstR m).epoch = ep) (hkM : k + M ≤ n) (h0 : 0 ≤ last) (h1 : ep ≤ 4294967295)
    (hd : scanL l 0 = (done ++ (scanL m last).1, k + (scanL m last).2)) (hdl : done.length * 12 ≤ k) (o : w3.ownsRow w.heap.size 85 2 v3 (done.length + 1) (rv done ++ rv [firstR m])) (f : Below w.heap.size w w3) : SR w l n (k + M) ep v3 w3 := by
  refine ⟨hkM, by have := hc.2; omega, h1, ⟨done ++ [firstR m], ?_, by simp; omega, ?_⟩, f⟩
  · rw [hd, scan_yes hc, hM, hep]
    have e5 : m.drop M = l.drop (k + M) := by rw [← hm, List.drop_drop]
    rw [e5]
    refine Prod.ext (by simp) ?_
    simp
    omega
  · rw [rv_append, List.length_append]
    exact o

end Go.Proofs.YtfggahkimconfaaGreatDoor

/- The contracts of the document's own All, and of SameRecords. -/
namespace Go.Proofs.YtfggahkimconfaaGreatDoor
open Go.RowKit
set_option linter.unusedVariables false

/-- The first error of records. -/
def allErr : List Rec → Int
  | [] => 0
  | r :: rs => if writeE r = 0 then allErr rs else writeE r
def allB (rs : List Rec) : List UInt8 := if allErr rs = 0 then allL rs else []
theorem allErr_append (a b : List Rec) (h : allErr a = 0) : allErr (a ++ b) = allErr b := by
  induction a with
  | nil => rfl
  | cons r a ih =>
    unfold allErr at h
    by_cases hr : writeE r = 0
    · rw [if_pos hr] at h
      show (if writeE r = 0 then allErr (a ++ b) else writeE r) = _
      rw [if_pos hr, ih h]
    · rw [if_neg hr] at h
      exact absurd h hr
theorem allErr_take {rs : List Rec} {k : Nat} {r : Rec} (hk : rs[k]? = some r) (h : allErr (rs.take k) = 0) : (writeE r = 0 → allErr (rs.take (k + 1)) = 0) ∧ (writeE r ≠ 0 → allErr rs = writeE r) := by
  obtain ⟨hlt, hr⟩ := List.getElem?_eq_some_iff.1 hk
  constructor
  · intro h0
    rw [List.take_succ_eq_append_getElem hlt, allErr_append _ _ h, hr]
    show (if writeE r = 0 then allErr [] else writeE r) = 0
    rw [if_pos h0]
    rfl
  · intro h0
    have e : rs = rs.take k ++ rs.drop k := (List.take_append_drop k rs).symm
    rw [e, allErr_append _ _ h, List.drop_eq_getElem_cons hlt, hr]
    show (if writeE r = 0 then allErr _ else writeE r) = _
    rw [if_neg h0]
theorem allL_take {rs : List Rec} {k : Nat} {r : Rec} (hk : rs[k]? = some r) : allL (rs.take (k + 1)) = allL (rs.take k) ++ recL r := by
  obtain ⟨hlt, hr⟩ := List.getElem?_eq_some_iff.1 hk
  rw [List.take_succ_eq_append_getElem hlt, hr]
  simp [allL]
theorem writeL_ok {r : Rec} (h : writeE r = 0) : writeL r = recL r := by unfold writeL; rw [if_pos h]
theorem writeL_len (r : Rec) : (writeL r).length ≤ 4108 := by
  unfold writeL
  split
  · rename_i h
    have := (writeE_ok.1 h).2.2
    rw [rec_len]
    omega
  · simp
theorem own_bytes_base {w : World} {base base' n : Nat} {v : Value} {xs : List Value} (h : w.ownsRow base 5 1 v n xs) (hb : base' ≤ base) : w.ownsRow base' 5 1 v n xs := own_base h hb

/-- Between two rounds of All. -/
structure AR (w : World) (rs : List Rec) (k : Nat) (v : Value) (W : World) : Prop where
  le : k ≤ rs.length
  ok : allErr (rs.take k) = 0
  len : (allL (rs.take k)).length ≤ k * 4108
  own : W.ownsRow w.heap.size 5 1 v (allL (rs.take k)).length (bv (allL (rs.take k)))
  fr : Below w.heap.size w W
theorem AR.next {w : World} {rs : List Rec} {k : Nat} {r : Rec} {v v2 : Value} {W W2 : World} (h : AR w rs k v W) (hk : rs[k]? = some r) (h0 : writeE r = 0) (o : W2.ownsRow w.heap.size 5 1 v2 ((allL (rs.take k)).length + (writeL r).length) (bv (allL (rs.take k)) ++ bv (writeL r))) (f : Below w.heap.size w W2) : AR w rs (k + 1) v2 W2 := by
  have hlt := (List.getElem?_eq_some_iff.1 hk).1
  have hl := writeL_len r
  refine ⟨hlt, (allErr_take hk h.ok).1 h0, ?_, ?_, f⟩
  · rw [allL_take hk, List.length_append]
    rw [writeL_ok h0] at hl
    have := h.len
    omega
  · rw [allL_take hk, List.length_append, bv_append, ← writeL_ok h0]
    exact o
theorem AR.done {w : World} {rs : List Rec} {v : Value} {W : World} (h : AR w rs rs.length v W) : allErr rs = 0 ∧ W.ownsRow w.heap.size 5 1 v (allB rs).length (bv (allB rs)) := by
  have h1 := h.ok
  have h2 := h.own
  rw [List.take_length] at h1 h2
  refine ⟨h1, ?_⟩
  unfold allB
  rw [if_pos h1]
  exact h2
theorem AR.fails {w : World} {rs : List Rec} {k : Nat} {r : Rec} {v : Value} {W : World} (h : AR w rs k v W) (hk : rs[k]? = some r) (h0 : writeE r ≠ 0) : allErr rs = writeE r ∧ allB rs = [] := by
  have := (allErr_take hk h.ok).2 h0
  refine ⟨this, ?_⟩
  unfold allB
  rw [if_neg (by rw [this]; exact h0)]

end Go.Proofs.YtfggahkimconfaaGreatDoor

/- A log's sectors, as lists: what is written is read, and where reading ends. -/
namespace Go.Proofs.YtfggahkimconfaaGreatDoor
set_option linter.unusedVariables false

def zeros (n : Nat) : List UInt8 := List.replicate n 0
/-- A record's bytes with noughts behind, as a sector has them. -/
def secB (r : Rec) : List UInt8 := writeL r ++ zeros (256 - (writeL r).length)
def fitS (r : Rec) : Prop := recOk r ∧ r.data.length ≤ 244
theorem secB_ok {r : Rec} (h : fitS r) : secB r = recL r ++ zeros (244 - r.data.length) := by
  unfold secB
  rw [writeL_ok (writeE_ok.2 h.1), rec_len, show 256 - (r.data.length + 12) = 244 - r.data.length by omega]
theorem secB_len {r : Rec} (h : fitS r) : (secB r).length = 256 := by
  have := h.2
  rw [secB_ok h, List.length_append, rec_len]
  simp [zeros]
  omega
/-- The record of a sector. -/
def readS (b : List UInt8) : Option Rec := if firstE b = 0 ∧ num b + 12 ≤ 256 ∧ secB (firstR b) = b then some (firstR b) else none
theorem read_sec {r : Rec} (h : fitS r) : readS (secB r) = some r := by
  have hf := first_rec r h.1 (zeros (244 - r.data.length))
  have hn := num_rec r h.1 (zeros (244 - r.data.length))
  have e := secB_ok h
  have h2 := h.2
  unfold readS
  rw [e, if_pos ⟨hf.1, by rw [hn]; omega, by rw [hf.2]; exact e⟩, hf.2]
theorem read_nought : readS (zeros 256) = none := by
  unfold readS
  have h : firstE (zeros 256) = 30 := by
    unfold firstE
    have h1 : num (zeros 256) = 0 := by decide
    have h2 : (zeros 256).length = 256 := List.length_replicate
    have h3 : rightL ((zeros 256).take 12) = false := by decide +kernel
    rw [h1, h2, if_neg (by decide), if_neg (by decide), if_neg (by decide), h3]
    rfl
  rw [if_neg (by rw [h]; rintro ⟨h, _⟩; exact absurd h (by decide))]

def headR (now fro : Nat) : Rec := ⟨(now : Int), be4 fro⟩
theorem head_fit {now fro : Nat} (h : now < 4294967296) : fitS (headR now fro) := by
  refine ⟨⟨?_, ?_, ?_⟩, ?_⟩
  · show (0 : Int) ≤ (now : Int); omega
  · show (now : Int) ≤ 4294967295; omega
  · show (be4 fro).length ≤ 4096; rw [be4_len]; omega
  · show (be4 fro).length ≤ 244; rw [be4_len]; omega
theorem num_head {fro : Nat} (h : fro < 4294967296) : num (be4 fro) = fro := by
  have := num_be4 fro h []
  rwa [List.append_nil] at this

/-- A sector's record: a part of a record of the log. -/
def partR (e k : Nat) (fin : Bool) (d : List UInt8) : Rec := ⟨(e : Int), be4 k ++ ((if fin = true then 1 else 0) :: d)⟩
theorem part_len (e k : Nat) (fin : Bool) (d : List UInt8) : (partR e k fin d).data.length = d.length + 5 := by simp [partR, be4_len]; omega
theorem part_fit {e k : Nat} {fin : Bool} {d : List UInt8} (he : e < 4294967296) (hd : d.length ≤ 231) : fitS (partR e k fin d) := by
  have := part_len e k fin d
  refine ⟨⟨?_, ?_, by omega⟩, by omega⟩
  · show (0 : Int) ≤ (e : Int); omega
  · show (e : Int) ≤ 4294967295; omega
theorem part_num {e k : Nat} {fin : Bool} {d : List UInt8} (hk : k < 4294967296) : num (partR e k fin d).data = k := num_be4 k hk _
theorem part_bit (e k : Nat) (fin : Bool) (d : List UInt8) : (partR e k fin d).data.getD 4 0 = if fin = true then 1 else 0 := rfl
theorem part_drop (e k : Nat) (fin : Bool) (d : List UInt8) : (partR e k fin d).data.drop 5 = d := rfl

/-- What was read so far: the epoch of the last sector, whether a record goes on, its part, the records, how many sectors they take. -/
structure Sc where
  last : Int
  opn : Bool
  part : List UInt8
  L : List (List UInt8)
  used : Nat
def okPart (now : Int) (i : Nat) (s : Sc) (r : Rec) : Prop := 5 ≤ r.data.length ∧ r.data.length ≤ 236 ∧ num r.data = i ∧ (r.data.getD 4 0).toNat ≤ 1 ∧ r.epoch ≤ now ∧ s.last ≤ r.epoch ∧ (s.opn = true → r.epoch = s.last)
instance (now : Int) (i : Nat) (s : Sc) (r : Rec) : Decidable (okPart now i s r) := by unfold okPart; infer_instance
def Sc.took (s : Sc) (i : Nat) (r : Rec) : Sc := if (r.data.getD 4 0).toNat = 1 then ⟨r.epoch, false, [], s.L ++ [s.part ++ r.data.drop 5], i + 1⟩ else ⟨r.epoch, true, s.part ++ r.data.drop 5, s.L, s.used⟩
/-- The records of a log's sectors. -/
def scanW (now : Int) : List (List UInt8) → Nat → Sc → Sc
  | [], _, s => s
  | b :: bs, i, s => match readS b with
    | some r => if okPart now i s r then scanW now bs (i + 1) (s.took i r) else s
    | none => s
theorem scanW_yes {now : Int} {b : List UInt8} {bs : List (List UInt8)} {i : Nat} {s : Sc} {r : Rec} (h : readS b = some r) (hk : okPart now i s r) : scanW now (b :: bs) i s = scanW now bs (i + 1) (s.took i r) := by
  rw [scanW, h]
  exact if_pos hk
theorem scanW_no {now : Int} {b : List UInt8} {bs : List (List UInt8)} {i : Nat} {s : Sc} (h : ∀ r, readS b = some r → ¬ okPart now i s r) : scanW now (b :: bs) i s = s := by
  rw [scanW]
  cases hr : readS b with
  | none => rfl
  | some r => exact if_neg (h r hr)

/-- How many sectors a record of n bytes takes. -/
def need (n : Nat) : Nat := max 1 ((n + 230) / 231)
theorem need_pos (n : Nat) : 1 ≤ need n := by unfold need; omega
theorem need_ge (n : Nat) : n ≤ need n * 231 := by unfold need; omega
theorem need_le {n : Nat} (h : n ≤ 4096) : need n ≤ 18 := by unfold need; omega
theorem need_lt {n j : Nat} (h : j + 1 < need n) : (j + 1) * 231 < n + 1 := by unfold need at h; omega
def cutP (d : List UInt8) (i : Nat) : List UInt8 := (d.drop (i * 231)).take 231
theorem cut_len (d : List UInt8) (i : Nat) : (cutP d i).length ≤ 231 := by unfold cutP; rw [List.length_take]; omega
theorem cut_take (d : List UInt8) (i : Nat) : d.take (i * 231) ++ cutP d i = d.take ((i + 1) * 231) := by
  unfold cutP
  rw [show (i + 1) * 231 = i * 231 + 231 by omega, List.take_add]
/-- The sectors of a record. -/
def secOf (e k n : Nat) (d : List UInt8) (i : Nat) : List UInt8 := secB (partR e (k + i) (decide (i + 1 = n)) (cutP d i))
def secsOf (e k : Nat) (d : List UInt8) : List (List UInt8) := (List.range' 0 (need d.length)).map (secOf e k (need d.length) d)
theorem secsOf_len (e k : Nat) (d : List UInt8) : (secsOf e k d).length = need d.length := by simp [secsOf]
theorem secOf_read {e k n i : Nat} {d : List UInt8} (he : e < 4294967296) : readS (secOf e k n d i) = some (partR e (k + i) (decide (i + 1 = n)) (cutP d i)) := read_sec (part_fit he (cut_len d i))
theorem secOf_len {e k n i : Nat} {d : List UInt8} (he : e < 4294967296) : (secOf e k n d i).length = 256 := secB_len (part_fit he (cut_len d i))

theorem scan_pieces (now : Int) (e k n : Nat) (d : List UInt8) (rest : List (List UInt8)) (L0 : List (List UInt8)) (hn : need d.length = n) (he : e < 4294967296) (hnow : (e : Int) ≤ now) (hk : k + n ≤ 5000) :
    ∀ (m j : Nat) (s : Sc), j + m = n → 0 < m → s.L = L0 → s.part = d.take (j * 231) → s.last ≤ (e : Int) → (s.opn = true → s.last = (e : Int)) →
      scanW now ((List.range' j m).map (secOf e k n d) ++ rest) (k + j) s = scanW now rest (k + n) ⟨(e : Int), false, [], L0 ++ [d], k + n⟩
  | 0, _, _, _, h, _, _, _, _ => by omega
  | m + 1, j, s, hj, _, hL, hp, hl, ho => by
    have hr := secOf_read (k := k) (n := n) (i := j) (d := d) he
    have hpl := part_len e (k + j) (decide (j + 1 = n)) (cutP d j)
    have hcl := cut_len d j
    have hok : okPart now (k + j) s (partR e (k + j) (decide (j + 1 = n)) (cutP d j)) := by
      refine ⟨by omega, by omega, part_num (by omega), ?_, hnow, hl, fun h => (ho h).symm⟩
      rw [part_bit]
      split <;> decide
    rw [List.range'_succ, List.map_cons, List.cons_append, scanW_yes hr hok]
    by_cases hf : j + 1 = n
    · obtain rfl : m = 0 := by omega
      have hfull : d.take ((j + 1) * 231) = d := List.take_of_length_le (by have := need_ge d.length; rw [hn, ← hf] at this; omega)
      have ht : s.took (k + j) (partR e (k + j) (decide (j + 1 = n)) (cutP d j)) = ⟨(e : Int), false, [], L0 ++ [d], k + n⟩ := by
        unfold Sc.took
        rw [part_bit, part_drop, if_pos (by rw [if_pos (by simpa using hf)]; rfl), hp, cut_take, hfull, hL, show k + j + 1 = k + n by omega]
        rfl
      rw [ht, show k + j + 1 = k + n by omega]
      simp
    · have hm : 0 < m := by omega
      have ht : s.took (k + j) (partR e (k + j) (decide (j + 1 = n)) (cutP d j)) = ⟨(e : Int), true, d.take ((j + 1) * 231), L0, s.used⟩ := by
        unfold Sc.took
        rw [part_bit, part_drop, if_neg (by rw [if_neg (by simpa using hf)]; decide), hp, cut_take, hL]
        rfl
      rw [ht, show k + j + 1 = k + (j + 1) by omega]
      exact scan_pieces now e k n d rest L0 hn he hnow hk m (j + 1) _ (by omega) hm rfl rfl (Int.le_refl _) (fun _ => rfl)
theorem scan_record (now : Int) (e k : Nat) (d : List UInt8) (rest : List (List UInt8)) (s : Sc) (he : e < 4294967296) (hnow : (e : Int) ≤ now) (hk : k + need d.length ≤ 5000) (hp : s.part = []) (ho : s.opn = false) (hl : s.last ≤ (e : Int)) :
    scanW now (secsOf e k d ++ rest) k s = scanW now rest (k + need d.length) ⟨(e : Int), false, [], s.L ++ [d], k + need d.length⟩ := by
  have := scan_pieces now e k (need d.length) d rest s.L rfl he hnow hk (need d.length) 0 s (by omega) (need_pos _) rfl (by simpa using hp) hl (fun h => by rw [ho] at h; cases h)
  exact this

def usedBy : List (Nat × List UInt8) → Nat
  | [] => 0
  | x :: E => need x.2.length + usedBy E
def allSecs : Nat → List (Nat × List UInt8) → List (List UInt8)
  | _, [] => []
  | k, x :: E => secsOf x.1 k x.2 ++ allSecs (k + need x.2.length) E
theorem allSecs_len : ∀ (E : List (Nat × List UInt8)) (k : Nat), (allSecs k E).length = usedBy E
  | [], _ => rfl
  | x :: E, k => by rw [allSecs, List.length_append, secsOf_len, allSecs_len E, usedBy]
/-- Epochs that do not fall, from lo on, to hi at most. -/
def upE : Nat → Nat → List (Nat × List UInt8) → Prop
  | _, _, [] => True
  | lo, hi, x :: E => lo ≤ x.1 ∧ x.1 ≤ hi ∧ x.2.length ≤ 4096 ∧ upE x.1 hi E
theorem upE_mono {hi hi' : Nat} (h : hi ≤ hi') : ∀ {E : List (Nat × List UInt8)} {lo : Nat}, upE lo hi E → upE lo hi' E
  | [], _, _ => trivial
  | x :: E, lo, ⟨a, b, c, d⟩ => ⟨a, Nat.le_trans b h, c, upE_mono h d⟩
theorem upE_snoc {hi : Nat} {d : List UInt8} (hd : d.length ≤ 4096) : ∀ {E : List (Nat × List UInt8)} {lo : Nat}, lo ≤ hi → upE lo hi E → upE lo hi (E ++ [(hi, d)])
  | [], lo, h, _ => ⟨h, Nat.le_refl _, hd, trivial⟩
  | x :: E, lo, _, ⟨a, b, c, e⟩ => ⟨a, b, c, upE_snoc hd b e⟩
theorem usedBy_snoc (E : List (Nat × List UInt8)) (x : Nat × List UInt8) : usedBy (E ++ [x]) = usedBy E + need x.2.length := by
  induction E with
  | nil => simp [usedBy]
  | cons y E ih => simp only [List.cons_append, usedBy, ih]; omega
theorem allSecs_snoc : ∀ (E : List (Nat × List UInt8)) (k : Nat) (x : Nat × List UInt8), allSecs k (E ++ [x]) = allSecs k E ++ secsOf x.1 (k + usedBy E) x.2
  | [], k, x => by simp [allSecs, usedBy]
  | y :: E, k, x => by rw [List.cons_append, allSecs, allSecs_snoc E, allSecs, List.append_assoc, usedBy, Nat.add_assoc]

theorem scan_secs (hi : Nat) (hh : hi < 4294967296) (rest : List (List UInt8)) : ∀ (E : List (Nat × List UInt8)) (k lo : Nat) (L0 : List (List UInt8)), upE lo hi E → k + usedBy E ≤ 5000 →
    ∃ t : Nat, lo ≤ t ∧ scanW (hi : Int) (allSecs k E ++ rest) k ⟨(lo : Int), false, [], L0, k⟩ = scanW (hi : Int) rest (k + usedBy E) ⟨(t : Int), false, [], L0 ++ E.map (·.2), k + usedBy E⟩
  | [], k, lo, L0, _, _ => ⟨lo, Nat.le_refl _, by simp [allSecs, usedBy]⟩
  | x :: E, k, lo, L0, ⟨a, b, c, d⟩, hk => by
    rw [usedBy] at hk
    obtain ⟨t, ht, h⟩ := scan_secs hi hh rest E (k + need x.2.length) x.1 (L0 ++ [x.2]) d (by omega)
    refine ⟨t, Nat.le_trans a ht, ?_⟩
    rw [allSecs, List.append_assoc, scan_record _ _ _ _ _ _ (by omega) (by omega) (by omega) rfl rfl (by simpa using a)]
    rw [h, usedBy, Nat.add_assoc]
    simp

/-- A sector that no record of an epoch from fro on stands in. -/
def deadS (fro : Nat) (b : List UInt8) : Prop := ∀ r, readS b = some r → r.epoch < (fro : Int)
theorem dead_nought (fro : Nat) : deadS fro (zeros 256) := fun r h => by rw [read_nought] at h; cases h
theorem dead_mono {a b : Nat} (h : a ≤ b) {x : List UInt8} (hx : deadS a x) : deadS b x := fun r hr => by have := hx r hr; omega
theorem scan_dead {now : Int} {b : List UInt8} {bs : List (List UInt8)} {i fro : Nat} {s : Sc} (h : deadS fro b) (hl : (fro : Int) ≤ s.last) : scanW now (b :: bs) i s = s :=
  scanW_no fun r hr hk => by
    have h1 := h r hr
    have h2 := hk.2.2.2.2.2.1
    omega

/-- The sectors behind a log's head, S, hold the records E (each with its epoch), the head being now and fro. -/
structure LogOn (S : List (List UInt8)) (now fro : Nat) (E : List (Nat × List UInt8)) : Prop where
  up : upE fro now E
  le : usedBy E ≤ S.length
  room : S.length ≤ 4096
  front : S.take (usedBy E) = allSecs 0 E
  dead : ∀ (i : Nat) (b : List UInt8), usedBy E ≤ i → S[i]? = some b → deadS fro b
  ord : fro ≤ now
  top : now < 4294967296
theorem LogOn.scan {S : List (List UInt8)} {now fro : Nat} {E : List (Nat × List UInt8)} (h : LogOn S now fro E) : (scanW (now : Int) S 0 ⟨(fro : Int), false, [], [], 0⟩).L = E.map (·.2) ∧ (scanW (now : Int) S 0 ⟨(fro : Int), false, [], [], 0⟩).used = usedBy E := by
  obtain ⟨t, ht, hs⟩ := scan_secs now h.top (S.drop (usedBy E)) E 0 fro [] h.up (by have := h.le; have := h.room; omega)
  rw [← h.front, List.take_append_drop, Nat.zero_add] at hs
  rw [hs]
  have hd : scanW (now : Int) (S.drop (usedBy E)) (usedBy E) ⟨(t : Int), false, [], [] ++ E.map (·.2), usedBy E⟩ = ⟨(t : Int), false, [], [] ++ E.map (·.2), usedBy E⟩ := by
    cases hb : S.drop (usedBy E) with
    | nil => rfl
    | cons b bs =>
      have hb2 : S[usedBy E]? = some b := by
        have : (S.drop (usedBy E))[0]? = some b := by rw [hb]; rfl
        simpa using this
      exact scan_dead (h.dead _ b (Nat.le_refl _) hb2) (by show (fro : Int) ≤ (t : Int); omega)
  rw [hd]
  exact ⟨by simp, rfl⟩
theorem LogOn.opened {S : List (List UInt8)} {now fro : Nat} {E : List (Nat × List UInt8)} (h : LogOn S now fro E) (ht : now + 1 < 4294967296) : LogOn S (now + 1) fro E :=
  ⟨upE_mono (by omega) h.up, h.le, h.room, h.front, h.dead, by have := h.ord; omega, ht⟩
theorem secs_epoch {e k : Nat} {d b : List UInt8} (he : e < 4294967296) (hb : b ∈ secsOf e k d) : ∀ r, readS b = some r → r.epoch = (e : Int) := fun r hr => by
  simp only [secsOf, List.mem_map] at hb
  obtain ⟨i, _, rfl⟩ := hb
  rw [secOf_read he] at hr
  cases hr
  rfl
theorem all_epoch {hi : Nat} (hh : hi < 4294967296) : ∀ {E : List (Nat × List UInt8)} {k lo : Nat} {b : List UInt8}, upE lo hi E → b ∈ allSecs k E → ∀ r, readS b = some r → r.epoch ≤ (hi : Int)
  | [], _, _, _, _, hb => by cases hb
  | x :: E, k, lo, b, ⟨a, c, d, f⟩, hb => fun r hr => by
    rw [allSecs, List.mem_append] at hb
    rcases hb with hb | hb
    · have := secs_epoch (by omega) hb r hr
      omega
    · exact all_epoch hh f hb r hr
theorem LogOn.reset {S : List (List UInt8)} {now fro : Nat} {E : List (Nat × List UInt8)} (h : LogOn S now fro E) (ht : now + 1 < 4294967296) : LogOn S (now + 1) (now + 1) [] := by
  refine ⟨trivial, by simp [usedBy], h.room, by simp [usedBy, allSecs], fun i b _ hb r hr => ?_, Nat.le_refl _, ht⟩
  by_cases hi : i < usedBy E
  · have hm : b ∈ allSecs 0 E := by
      rw [← h.front]
      exact List.mem_of_getElem? (i := i) (by rw [List.getElem?_take, if_pos hi]; exact hb)
    have := all_epoch h.top h.up hm r hr
    omega
  · have := h.dead i b (by omega) hb r hr
    have := h.ord
    omega
/-- The sectors behind an append. -/
def putSecs (S : List (List UInt8)) (u : Nat) (xs : List (List UInt8)) : List (List UInt8) := S.take u ++ (xs ++ S.drop (u + xs.length))
theorem LogOn.append {S : List (List UInt8)} {now fro : Nat} {E : List (Nat × List UInt8)} (h : LogOn S now fro E) (d : List UInt8) (hd : d.length ≤ 4096) (hr : usedBy E + need d.length ≤ S.length) :
    LogOn (putSecs S (usedBy E) (secsOf now (usedBy E) d)) now fro (E ++ [(now, d)]) := by
  have hl : (putSecs S (usedBy E) (secsOf now (usedBy E) d)).length = S.length := by
    simp [putSecs, secsOf_len]
    omega
  have hu := usedBy_snoc E (now, d)
  have htl : (S.take (usedBy E)).length = usedBy E := by rw [List.length_take]; have := h.le; omega
  refine ⟨upE_snoc hd h.ord h.up, by rw [hl, hu]; exact hr, by rw [hl]; exact h.room, ?_, fun i b hi hb => ?_, h.ord, h.top⟩
  · rw [hu, allSecs_snoc, Nat.zero_add, ← h.front]
    unfold putSecs
    have e1 : usedBy E + need (now, d).2.length = (S.take (usedBy E) ++ secsOf now (usedBy E) d).length := by rw [List.length_append, htl, secsOf_len]
    rw [← List.append_assoc, e1, List.take_left]
  · rw [hu] at hi
    unfold putSecs at hb
    have hi' : usedBy E + need d.length ≤ i := hi
    rw [List.getElem?_append_right (by rw [htl]; omega), List.getElem?_append_right (by rw [htl, secsOf_len]; omega), htl, secsOf_len, List.getElem?_drop] at hb
    have hb2 : S[i]? = some b := by
      rw [← hb]
      congr 1
      omega
    exact h.dead i b (by omega) hb2

end Go.Proofs.YtfggahkimconfaaGreatDoor

/- What opening arguments needs, whatever the law. -/
namespace Go.Proofs.YtfggahkimconfaaGreatDoor
open Go.ChangeShapes Go.WideShapes Go.ChangeAt Go.RowKit
set_option linter.unusedVariables false

theorem ownKn : ownKnob Tryz.prog.godebug = none := by kernel_rfl

theorem laidOut : laidOutB Tryz.prog = true := by kernel_rfl

theorem spot_none {w : World} {a : Addr} {v : Value} (h : w.cell? a = some v) : a = ⟨a.block, a.off, none⟩ := by
  cases hs : a.spot with
  | none => cases a; simp at hs; subst hs; rfl
  | some s =>
    unfold World.cell? at h
    rw [hs] at h
    split at h <;> simp at h

theorem cellsI : Tryz.prog.cellsOf 3 = 1 := by kernel_rfl

theorem take_one {l : List Value} {j : Nat} {v : Value} (h : (l.drop j).take 1 = [v]) : l[j]? = some v := by
  have h2 : ((l.drop j).take 1)[0]? = some v := by rw [h]; rfl
  simpa [List.getElem?_take] using h2

theorem weightsAll_mem {H : Type} {P : Program} {e : TypeId} {d : DataW H} {n : Nat} (hn : n ∈ d.weights P e) : ∀ {l : List (DataW H)}, d ∈ l → n ∈ DataW.weightsAll P e l
  | d0 :: r, hd => by
    simp only [DataW.weightsAll, List.mem_append]
    rcases List.mem_cons.1 hd with h | h
    · subst h; exact .inl hn
    · exact .inr (weightsAll_mem hn h)

end Go.Proofs.YtfggahkimconfaaGreatDoor
