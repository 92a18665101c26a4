/- Slices of bytes that came in, or are one's own: read, copied, cut. -/
import Derived.Test.YtfjkclolnnoklaaBsA
import Derived.Laws.BitsAllLaws
namespace Go.Proofs.Ytfjkclolnnoklaa
open Go.RowKit
set_option linter.unusedVariables false

theorem bA {a w : World} (h : Below a.heap.size a w) (o : Obj) : Below a.heap.size a (w.alloc o) := h.alloc h.size o
theorem bT {a X Y : World} (k : Below X.heap.size X Y) (h : Below a.heap.size a X) : Below a.heap.size a Y := h.trans (k.mono h.size)

theorem gen_below {w w' : World} {base n size : Nat} {e : TypeId} {v : Value} {xs : List Value} (h : w.ownsRow base e size v n xs) (f : Below w.heap.size w w') : w'.ownsRow base e size v n xs :=
  own_of_block h (fun k hk => f.block k (h.lt k hk).2)

/-- A slice of the bytes l. -/
def Bs (w : World) (a : Option Addr) (n : Nat) (l : List UInt8) : Prop := l.length = n ∧ (n = 0 ∨ ∃ b o, a = some ⟨b, o, none⟩ ∧ BytesAt w (some ⟨b, o, none⟩) l)

theorem Bs.below {w w' : World} {a : Option Addr} {n : Nat} {l : List UInt8} (h : Bs w a n l) (f : Below w.heap.size w w') : Bs w' a n l := by
  rcases h with ⟨h1, h2 | ⟨b, o, e, h2⟩⟩
  · exact ⟨h1, .inl h2⟩
  · exact ⟨h1, .inr ⟨b, o, e, h2.below f⟩⟩

theorem Bs.at {w : World} {a : Option Addr} {n : Nat} {l : List UInt8} (h : Bs w a n l) : BytesAt w a l := by
  rcases h with ⟨h1, h2 | ⟨b, o, e, h2⟩⟩
  · have : l = [] := List.eq_nil_of_length_eq_zero (by omega)
    subst this
    exact ⟨fun _ => rfl, fun ad e j u hu => by simp [bv] at hu⟩
  · rw [e]; exact h2

theorem bs_of_own {w : World} {base n c : Nat} {a : Option Addr} {l : List UInt8} (hn : l.length = n) (h : w.ownsRow base 5 1 (.slice a n c) n (bv l)) : Bs w a n l := by
  have hb := own_bytes h
  rcases h.2 with ⟨e, h0⟩ | ⟨q, cap, cur, e, _⟩
  · exact ⟨hn, .inl (by omega)⟩
  · injection e with e
    subst e
    exact ⟨hn, .inr ⟨q, 0, rfl, hb⟩⟩

theorem bytes_get {w : World} {b o : Nat} {l : List UInt8} (h : BytesAt w (some ⟨b, o, none⟩) l) {k : Nat} (hk : k < l.length) : w.cell? ⟨b, o + k, none⟩ = some (.int .u8 (l[k].toNat : Int)) := by
  have := h.2 _ rfl k (.int .u8 (l[k].toNat : Int)) (by simp [bv, hk])
  simpa [Addr.add_mid] using this

theorem ret_bool {a b : Bool} (h : a = b) : Ending.returned (.bool a) = .returned (.bool b) := by rw [h]

theorem bytes_drew {w : World} {a : Option Addr} {l : List UInt8} (h : BytesAt w a l) : BytesAt w.drew a l := h

theorem bytes_take {w : World} {a : Option Addr} {l : List UInt8} (h : BytesAt w a l) (k : Nat) : BytesAt w a (l.take k) :=
  ⟨fun e => by rw [h.1 e]; simp, fun ad e j u hu => h.2 ad e j u (by
    simp only [bv, List.map_take, List.getElem?_take] at hu ⊢
    split at hu
    · exact hu
    · cases hu)⟩

theorem own_cap {w : World} {base n c : Nat} {a : Option Addr} {xs : List Value} (h : w.ownsRow base 5 1 (.slice a n c) n xs) : n ≤ c ∧ c ≤ 9223372036854775807 := by
  rcases h.2 with ⟨e, h0⟩ | ⟨g, cap, cur, e, _, _, h1, h2, _⟩
  · injection e with _ e2 e3
    subst e3
    omega
  · injection e with _ _ ec
    subst ec
    unfold maxLen at h2
    exact ⟨h1, by omega⟩

/-- A slice of bytes that came in. -/
structure Arg (w : World) (a : Option Addr) (n cap : Nat) (l : List UInt8) : Prop where
  bs : Bs w a n l
  room : n ≤ cap
  most : cap ≤ 9223372036854775807
  nil : a = none → n = 0 ∧ cap = 0

theorem Arg.below {w w' : World} {a : Option Addr} {n cap : Nat} {l : List UInt8} (h : Arg w a n cap l) (f : Below w.heap.size w w') : Arg w' a n cap l := ⟨h.bs.below f, h.room, h.most, h.nil⟩

theorem arg_of_own {w : World} {base n c : Nat} {a : Option Addr} {l : List UInt8} (hn : l.length = n) (h : w.ownsRow base 5 1 (.slice a n c) n (bv l)) : Arg w a n c l := by
  refine ⟨bs_of_own hn h, (own_cap h).1, (own_cap h).2, fun e => ?_⟩
  rcases h.2 with ⟨e1, h0⟩ | ⟨q, cap, cur, e1, _⟩
  · injection e1 with _ e2 e3
    exact ⟨h0, e3⟩
  · injection e1 with e1
    rw [e] at e1
    cases e1

theorem own_some {w W : World} {base n c : Nat} {a : Option Addr} {l : List UInt8} (hb : w.heap.size ≤ base) (h : W.ownsRow base 5 1 (.slice a n c) n (bv l)) (hn : 0 < n) :
    ∃ q, a = some ⟨q, 0, none⟩ ∧ w.heap.size ≤ q ∧ (∀ k b, l[k]? = some b → W.cell? ⟨q, k, none⟩ = some (.int .u8 (b.toNat : Int)) ∧ W.frozen? ⟨q, k, none⟩ = false) ∧
      (∀ k v, Arg (W.setCell ⟨q, k, none⟩ (.int .u8 ((v : UInt8).toNat : Int))) (some ⟨q, 0, none⟩) n c (l.set k v)) := by
  have hl : l.length = n := by have := h.1; rw [bv_length] at this; omega
  have hcap := own_cap h
  rcases h.2 with ⟨_, h0⟩ | ⟨q, cap, cur, e, hq, hblk, h1, h2, h3, h4⟩
  · omega
  · injection e with e1 _ e3
    subst e1
    subst e3
    have hcells := h.cells (g := q) rfl
    refine ⟨q, rfl, Nat.le_trans hb hq, fun k b hk => ⟨?_, frozen_of_row _ _ _ _ _ hblk⟩, fun k v => ?_⟩
    · have := hcells k (.int .u8 (b.toNat : Int)) (by simp [bv, hk])
      simpa [Addr.add_mid] using this
    · have hs := (h.stored k (.int .u8 (v.toNat : Int))).1
      have hb' : (bv l).set k (.int .u8 (v.toNat : Int)) = bv (l.set k v) := by simp [bv, List.map_set]
      refine arg_of_own (base := base) (by simp; exact hl) ?_
      rw [← hb']
      exact hs

theorem own_base {w : World} {base base' n : Nat} {v : Value} {xs : List Value} (h : w.ownsRow base 5 1 v n xs) (hb : base' ≤ base) : w.ownsRow base' 5 1 v n xs :=
  ⟨h.1, h.2.elim .inl (fun ⟨g, cap, cur, hv, hg, r⟩ => .inr ⟨g, cap, cur, hv, Nat.le_trans hb hg, r⟩)⟩

/-- append to a row of one's own, in an operation that is guarded, and wanted. -/
theorem append_own_wanted {P : Program} (w : World) {ops : Array Oper} {rest : List Oper} {o : Oper} {a : Act} {Q : Exit → Act → World → Prop} (hw : Region.wanted o (yielded ops a.tmps) = true) (s x : Operand) (t : TypeId)
    (ho : o.op = .call { callee := .builtin .append, args := #[s, x], argTypes := #[t, t] })
    (base : Nat) (e : TypeId) (i : TypeInfo) (z : Value) (size bytes : Nat) (ht : P.underlying t = some (.slice e)) (hi : P.info? e = some i) (hz : i.zero = some z)
    (hsize : i.size = size) (hby : i.bytes = bytes) (hzs : z.cells.size = size) (hsz : 0 < size)
    (v : Value) (n : Nat) (xs : List Value) (hs : a.eval s = v) (hown : w.ownsRow base e size v n xs)
    (ad : Addr) (m c : Nat) (news : List Value) (hx : a.eval x = .slice (some ad) m c) (hl : news.length = m * size) (hnews : ∀ j u, news[j]? = some u → w.cell? (ad.add j) = some u) (h1 : ∀ u ∈ news, u.oneCell' = true)
    (h63 : n + m ≤ maxLen) (hbytes : (n + m) * bytes ≤ 140737488355328) (hbase : base ≤ w.heap.size)
    (h : ∀ v' w', w'.ownsRow base e size v' (n + m) (xs ++ news) → w.grownBy w' v.ownBlock → (v' = .slice none 0 0 ↔ v = .slice none 0 0 ∧ m = 0) → wpList P ops Q rest (a.put o.dst v') w') : wpList P ops Q (o :: rest) a w :=
  wpList_step fun K hK => by
    rw [if_pos hw]
    exact wp_append_own w s x t ho base e i z size bytes ht hi hz hsize hby hzs hsz v n xs hs hown ad m c news hx hl hnews h1 h63 hbytes hbase fun v' w' h2 h3 h4 => hK _ _ (h v' w' h2 h3 h4)

/-- A piece of a slice. -/
theorem sub_bs {w : World} {a : Option Addr} {n cap : Nat} {l : List UInt8} (h : Arg w a n cap l) (d k : Nat) (hd : d ≤ k) (hk : k ≤ n) : Bs w (if cap = d then a else Option.map (fun x => x.add d) a) (k - d) ((l.take k).drop d) := by
  have hl := h.bs.1
  refine ⟨by simp; omega, ?_⟩
  by_cases h0 : k - d = 0
  · exact .inl h0
  · obtain ⟨b, o, rfl, hb⟩ := h.bs.2.resolve_left (by omega)
    have := h.room
    rw [if_neg (by omega)]
    refine .inr ⟨b, o + d, by simp [Addr.add_mid], ⟨(fun e => by cases e), fun ad e i u hu => ?_⟩⟩
    injection e with e
    subst e
    have hu' : (bv l)[d + i]? = some u := by
      simp only [bv, List.map_drop, List.map_take, List.getElem?_drop, List.getElem?_take] at hu ⊢
      split at hu
      · exact hu
      · cases hu
    have := hb.2 _ rfl (d + i) u hu'
    rw [Addr.add_mid] at this ⊢
    rw [Nat.add_assoc]
    exact this

end Go.Proofs.Ytfjkclolnnoklaa
