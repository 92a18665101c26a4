/- What the walk of DiskActs stands on. -/
import Derived.Test.YtaflibnalhfenaaDkU
import Derived.Test.YtaflibnalhfenaaDkO
import Derived.Deep.CutBlock
import Derived.Deep.LoopGhost
import Derived.Deep.RegionHeld3
namespace Go.Proofs.Ytaflibnalhfenaa
open Go.RowKit
set_option linter.unusedVariables false

/-- An act with all its fields. -/
structure FAct where
  kind : Int
  at_ : Int
  n : Int
  byte : UInt8
  short : Bool
  kept : List Int
  ka : Option Addr
  kc : Nat
structure FullAt (w : World) (b o : Nat) (x : FAct) : Prop where
  c0 : w.cell? ⟨b, o, none⟩ = some (.int .i64 x.kind)
  c1 : w.cell? ⟨b, o + 1, none⟩ = some (.int .i64 x.at_)
  c2 : w.cell? ⟨b, o + 2, none⟩ = some (.int .i64 x.n)
  c3 : w.cell? ⟨b, o + 3, none⟩ = some (.int .u8 (x.byte.toNat : Int))
  c4 : w.cell? ⟨b, o + 4, none⟩ = some (.bool x.short)
  c5 : w.cell? ⟨b, o + 5, none⟩ = some (.slice x.ka x.kept.length x.kc)
structure FOk (w : World) (x : FAct) : Prop where
  n : x.n ≤ 9223372036854775807
  kept : KeptOf w w.heap.size x.ka x.kept
  none : x.ka = none → x.kc = 0
  big : x.kept.length * 8 ≤ 140737488351232
theorem FullAt.below {w w' : World} {b o : Nat} {x : FAct} (h : FullAt w b o x) (hb : Below w.heap.size w w') : FullAt w' b o x := by
  have cb := World.block_lt_of_cell? w _ h.c0
  exact ⟨(hb.cell (p := ⟨b, o, none⟩) cb).trans h.c0, (hb.cell (p := ⟨b, o + 1, none⟩) cb).trans h.c1, (hb.cell (p := ⟨b, o + 2, none⟩) cb).trans h.c2, (hb.cell (p := ⟨b, o + 3, none⟩) cb).trans h.c3, (hb.cell (p := ⟨b, o + 4, none⟩) cb).trans h.c4, (hb.cell (p := ⟨b, o + 5, none⟩) cb).trans h.c5⟩

/-- What holds of both disks at the head of round k. -/
structure AcR (w : World) (p y L k : Nat) (wr : World) : Prop where
  ex : ∃ D, X wr w.heap.size p D ∧ Y wr w.heap.size y D ∧ Okd D L k
  fr : Below w.heap.size w wr

theorem act_block (wr : World) (x : FAct) :
    let wa := wr.alloc (.cells #[.int .i64 x.kind, .int .i64 x.at_, .int .i64 x.n, .int .u8 (x.byte.toNat : Int), .bool x.short, .slice x.ka x.kept.length x.kc] 35)
    wa.cell? ⟨wr.heap.size, 0, none⟩ = some (.int .i64 x.kind) ∧ wa.cell? ⟨wr.heap.size, 1, none⟩ = some (.int .i64 x.at_) ∧ wa.cell? ⟨wr.heap.size, 2, none⟩ = some (.int .i64 x.n) ∧ wa.cell? ⟨wr.heap.size, 3, none⟩ = some (.int .u8 (x.byte.toNat : Int)) ∧
      wa.cell? ⟨wr.heap.size, 4, none⟩ = some (.bool x.short) ∧ wa.cell? ⟨wr.heap.size, 5, none⟩ = some (.slice x.ka x.kept.length x.kc) ∧
      wa.heap[wr.heap.size]? = some (.cells #[.int .i64 x.kind, .int .i64 x.at_, .int .i64 x.n, .int .u8 (x.byte.toNat : Int), .bool x.short, .slice x.ka x.kept.length x.kc] 35 (0, 0)) := by
  intro wa
  have h := heap_alloc_last wr (.cells #[.int .i64 x.kind, .int .i64 x.at_, .int .i64 x.n, .int .u8 (x.byte.toNat : Int), .bool x.short, .slice x.ka x.kept.length x.kc] 35)
  refine ⟨?_, ?_, ?_, ?_, ?_, ?_, h⟩ <;> rw [cell_of_row _ _ _ _ _ _ h] <;> rfl

theorem AcR.below {w wr w' : World} {p y L k : Nat} (h : AcR w p y L k wr) (f : Below wr.heap.size wr w') : AcR w p y L k w' := by
  obtain ⟨⟨D, hx, hy, hO⟩, fr⟩ := h
  exact ⟨⟨D, hx.below f, hy.below f, hO⟩, fr.trans (f.mono fr.size)⟩

/-- What both tell of themselves behind a call. -/
structure Tail (B p y : Nat) (D : Dk) (wc : World) : Prop where
  moves : ∀ w, Below wc.heap.size wc w → Calls Try.prog 29 #[.pointer (some ⟨p, 0, none⟩)] w fun e w' => e = .returned (.int .i64 D.moves) ∧ w' = w
  cached : ∀ w, Below wc.heap.size wc w → Calls Try.prog 31 #[.pointer (some ⟨p, 0, none⟩)] w fun e w' => ∃ v, e = .returned v ∧ w'.ownsRow w.heap.size 3 1 v D.cached.length (ints D.cached) ∧ Below wc.heap.size wc w' ∧ w'.cell? ⟨y, 1, none⟩ = some (.int .i64 D.moves)
  rcached : ∀ w v base, Below wc.heap.size wc w → w.ownsRow base 3 1 v D.cached.length (ints D.cached) → Calls Try.prog 32 #[.pointer (some ⟨y, 0, none⟩)] w fun e w' => ∃ v', e = .returned v' ∧
      (∀ W, Below w'.heap.size w' W → Calls Try.prog 30 #[v, v'] W fun e w' => e = .returned (.bool true) ∧ Below wc.heap.size wc w' ∧ w'.cell? ⟨y, 1, none⟩ = some (.int .i64 D.moves)) ∧ Below wc.heap.size wc w' ∧ w'.cell? ⟨y, 1, none⟩ = some (.int .i64 D.moves)
  dump : ∀ w, Below wc.heap.size wc w → Calls Try.prog 33 #[.pointer (some ⟨p, 0, none⟩)] w fun e w' => ∃ v, e = .returned v ∧ w'.ownsRow w.heap.size 5 1 v (D.secs.length * 256) (bv D.dump) ∧ Below wc.heap.size wc w' ∧ w'.cell? ⟨y, 1, none⟩ = some (.int .i64 D.moves)
  rdump : ∀ w v base, Below wc.heap.size wc w → w.ownsRow base 5 1 v (D.secs.length * 256) (bv D.dump) → Calls Try.prog 34 #[.pointer (some ⟨y, 0, none⟩)] w fun e w' => ∃ v', e = .returned v' ∧
      (∀ W, Below w'.heap.size w' W → Calls Try.prog 23 #[v, v'] W fun e w' => e = .returned (.bool true) ∧ Below wc.heap.size wc w' ∧ w'.cell? ⟨y, 1, none⟩ = some (.int .i64 D.moves)) ∧ Below wc.heap.size wc w' ∧ w'.cell? ⟨y, 1, none⟩ = some (.int .i64 D.moves)

theorem acts_tail {wc : World} {B p y L k : Nat} {D : Dk} (hX : X wc B p D) (hY : Y wc B y D) (hO : Okd D L k) (hk : k ≤ 1000) : Tail B p y D wc := by
  have hdone := hY.done
  have hyl := World.block_lt_of_cell? wc _ hdone
  have done : ∀ W, Below wc.heap.size wc W → W.cell? ⟨y, 1, none⟩ = some (.int .i64 D.moves) := fun W f => (f.cell (p := ⟨y, 1, none⟩) hyl).trans hdone
  have hmost : D.secs.length ≤ 4096 := by rw [hO.len]; exact hO.most
  have hcl : D.cached.length ≤ 1000000 := Nat.le_trans (cachedTo_le _ _) (by omega)
  obtain ⟨g, vs, hx⟩ := hX
  obtain ⟨By, rv, vals, hB, hy⟩ := hY
  obtain ⟨rg, gc, hv⟩ := hy.form (by rw [hO.len]; exact hO.one)
  have hdl : D.dump.length = D.secs.length * 256 := okd_dump hO
  refine ⟨?_, ?_, ?_, ?_, ?_⟩
  · intro w f
    exact Moves_any w B p g vs D (hx.below f)
  · intro w f
    refine (Cached_any w B p g vs D (hx.below f)).mono ?_
    rintro e w' ⟨v, rfl, ho, b⟩
    have f' := f.trans (b.mono f.size)
    exact ⟨v, rfl, ho, f', done _ f'⟩
  · intro w v base f ho
    refine (rCached_any w By y rv vals D (hy.below f) rg gc hv hmost).mono ?_
    rintro e w' ⟨v', rfl, ho', b⟩
    have f' := f.trans (b.mono f.size)
    refine ⟨v', rfl, ?_, f', done _ f'⟩
    intro W fW
    refine (SameInts_own W v v' _ _ _ D.cached rfl hcl (own_below (own_below ho b) fW) (own_below ho' fW)).mono ?_
    rintro e w'' ⟨rfl, m, rfl⟩
    have f'' : Below wc.heap.size wc (W.drewN m) := below_drewN (f'.trans (fW.mono f'.size)) m
    exact ⟨rfl, f'', done _ f''⟩
  · intro w f
    refine (Dump_any w B p g vs D (hx.below f)).mono ?_
    rintro e w' ⟨v, rfl, _, ho, b⟩
    have f' := f.trans (b.mono f.size)
    exact ⟨v, rfl, ho, f', done _ f'⟩
  · intro w v base f ho
    refine (rDump_any w By y rv vals D (hy.below f) rg gc hv hmost (fun i s hi => last_len (hO.ok i s hi))).mono ?_
    rintro e w' ⟨v', rfl, ho', b⟩
    have f' := f.trans (b.mono f.size)
    refine ⟨v', rfl, ?_, f', done _ f'⟩
    intro W fW
    refine (SameBytes_own W v v' _ _ _ D.dump hdl (own_below (own_below ho b) fW) (own_below ho' fW)).mono ?_
    rintro e w'' ⟨rfl, rfl⟩
    have f'' : Below wc.heap.size wc w'' := f'.trans (fW.mono f'.size)
    exact ⟨rfl, f'', done _ f''⟩

theorem acts_round {w wr : World} {p y L k : Nat} (h : AcR w p y L k wr) (x : FAct) : ∃ D, X (wr.alloc (.cells #[.int .i64 x.kind, .int .i64 x.at_, .int .i64 x.n, .int .u8 (x.byte.toNat : Int), .bool x.short, .slice x.ka x.kept.length x.kc] 35)) w.heap.size p D ∧ Y (wr.alloc (.cells #[.int .i64 x.kind, .int .i64 x.at_, .int .i64 x.n, .int .u8 (x.byte.toNat : Int), .bool x.short, .slice x.ka x.kept.length x.kc] 35)) w.heap.size y D ∧ Okd D L k ∧
    Below w.heap.size w (wr.alloc (.cells #[.int .i64 x.kind, .int .i64 x.at_, .int .i64 x.n, .int .u8 (x.byte.toNat : Int), .bool x.short, .slice x.ka x.kept.length x.kc] 35)) := by
  obtain ⟨⟨D, hx, hy, hO⟩, fr⟩ := h
  have b := (Below.refl wr.heap.size wr).alloc (Nat.le_refl _) (.cells #[.int .i64 x.kind, .int .i64 x.at_, .int .i64 x.n, .int .u8 (x.byte.toNat : Int), .bool x.short, .slice x.ka x.kept.length x.kc] 35)
  exact ⟨D, hx.below b, hy.below b, hO, fr.trans (b.mono fr.size)⟩

/-- The act of this round, in a variable of its own. -/
def ActB (w : World) (A : Nat) (x : FAct) : Prop := w.heap[A]? = some (.cells #[.int .i64 x.kind, .int .i64 x.at_, .int .i64 x.n, .int .u8 (x.byte.toNat : Int), .bool x.short, .slice x.ka x.kept.length x.kc] 35 (0, 0))
theorem ActB.c1 {w : World} {A : Nat} {x : FAct} (h : ActB w A x) : w.cell? ⟨A, 1, none⟩ = some (.int .i64 x.at_) := by rw [cell_of_row _ _ _ _ _ _ h]; rfl
theorem ActB.c2 {w : World} {A : Nat} {x : FAct} (h : ActB w A x) : w.cell? ⟨A, 2, none⟩ = some (.int .i64 x.n) := by rw [cell_of_row _ _ _ _ _ _ h]; rfl
theorem ActB.c5 {w : World} {A : Nat} {x : FAct} (h : ActB w A x) : w.cell? ⟨A, 5, none⟩ = some (.slice x.ka x.kept.length x.kc) := by rw [cell_of_row _ _ _ _ _ _ h]; rfl
theorem ActB.fr {w w' : World} {A B : Nat} {x : FAct} (h : ActB w A x) (f : Fr B w w') : ActB w' A x := (f.other _ _ _ _ h (by decide) (by decide) (by decide)).trans h
theorem ActB.fr2 {w w' : World} {A B : Nat} {x : FAct} (h : ActB w A x) (f : Fr2 B w w') : ActB w' A x := (f.other _ _ _ _ h (by decide) (by decide)).trans h
theorem ActB.below {w w' : World} {A : Nat} {x : FAct} (h : ActB w A x) (f : Below w.heap.size w w') : ActB w' A x := (f.block A (lt_of_heap h)).trans h

theorem ar_of {w W : World} {p y L k : Nat} {D : Dk} (hx : X W w.heap.size p D) (hy : Y W w.heap.size y D) (hl : D.secs.length = L) (hf : ∀ (i : Nat) (s : Sec), D.secs[i]? = some s → s.wait.length ≤ k) (fr : Below w.heap.size w W) : AcR w p y L k W := ⟨⟨D, hx, hy, Okd.of hx hl hf⟩, fr⟩

theorem Ints_any (w : World) (B : Nat) (ka : Option Addr) (kc : Nat) (kept : List Int) (kn : Nat) (hk : kept.length = kn) (hK : KeptOf w B ka kept) (hn : ka = none → kc = 0) (hb : kn * 8 ≤ 140737488351232) :
    Calls Try.prog 27 #[.slice ka kn kc] w fun e w' => ∃ v, e = .returned v ∧ w'.ownsRow w.heap.size 3 1 v kn (iv kept) ∧ Below w.heap.size w w' := by
  cases ka with
  | none =>
    have h0 : kept = [] := by
      rcases hK with h | ⟨kb, ko, e, _⟩
      · exact h
      · cases e
    subst h0
    subst hk
    rw [hn rfl]
    exact Ints_none w
  | some ad =>
    refine Ints_some w ad kept kn kc hk hb ?_
    intro j u hu
    have hj : j < kept.length := by have := (List.getElem?_eq_some_iff.1 hu).1; rw [iv_length] at this; exact this
    rcases hK with h | ⟨kb, ko, e, _, _, h3⟩
    · rw [h] at hj; simp at hj
    · injection e with e
      subst e
      rw [Addr.add_mid, (h3 j hj).1]
      simp [iv, hj] at hu
      rw [← hu, List.getD_eq_getElem?_getD, List.getElem?_eq_getElem hj]
      rfl
theorem kept_bound {w : World} {B : Nat} {ka : Option Addr} {kept : List Int} (hK : KeptOf w B ka kept) : ∀ z ∈ kept, -9223372036854775808 ≤ z ∧ z ≤ 9223372036854775807 := by
  intro z hz
  rcases hK with h | ⟨kb, ko, e, _, _, h3⟩
  · rw [h] at hz; cases hz
  · obtain ⟨j, hj⟩ := List.mem_iff_getElem?.1 hz
    obtain ⟨hl, e2⟩ := List.getElem?_eq_some_iff.1 hj
    have := (h3 j hl).2
    rw [List.getD_eq_getElem?_getD, hj] at this
    exact this

theorem SameBytes_self (w : World) (a b : Option Addr) (x : List UInt8) (n c d : Nat) (ha : BytesAt w a x) (hb : BytesAt w b x) (hn : x.length = n) :
    Calls Try.prog 23 #[.slice a n c, .slice b n d] w fun e w' => e = .returned (.bool true) ∧ w' = w := by
  refine (SameBytes_n w a b x x n n c d ha hb hn hn).mono ?_
  rintro e w' ⟨rfl, rfl⟩
  exact ⟨by simp, rfl⟩

/-- While 256 bytes at block q are written over. -/
structure Wrote (w : World) (B q : Nat) (e : TypeId) (wr : World) : Prop where
  blk : ∃ cur, wr.heap[q]? = some (.cells cur e (0, 0)) ∧ cur.size = 256
  oth : ∀ k, k ≠ q → wr.heap[k]? = w.heap[k]?
  bel : Below B w wr
theorem Wrote.set {w wr : World} {B q : Nat} {e : TypeId} (h : Wrote w B q e wr) (hB : B ≤ q) (j : Nat) (u : Value) : Wrote w B q e (wr.setCell ⟨q, j, none⟩ u) := by
  obtain ⟨cur, hc, hs⟩ := h.blk
  refine ⟨⟨_, heap_setCell_same wr q j cur _ u hc, by simpa using hs⟩, fun k hk => (Below.heap_setCell _ _ _ _ hk).trans (h.oth k hk), h.bel.setCell hB u⟩
theorem Wrote.cell {w wr : World} {B q : Nat} {e : TypeId} (h : Wrote w B q e wr) (j : Nat) (hj : j < 256) : (∃ u, wr.cell? ⟨q, j, none⟩ = some u) ∧ wr.frozen? ⟨q, j, none⟩ = false := by
  obtain ⟨cur, hc, hs⟩ := h.blk
  exact ⟨⟨cur[j]'(by omega), by rw [cell_of_row _ _ _ _ _ _ hc, Array.getElem?_eq_getElem (by omega)]⟩, frozen_of_row _ _ _ _ _ hc⟩

/-- Between the calls of a store: both disks, the act and the bytes. -/
structure SI (w : World) (p y A q : Nat) (x : FAct) (D D' : Dk) (W : World) : Prop where
  hx : X W w.heap.size p D
  hy : Y W w.heap.size y D'
  ha : ActB W A x
  hb : W.heap[q]? = some (.cells (bv (allOf x.byte)).toArray 5 (0, 0))
  fr : Below w.heap.size w W
theorem SI.below {w : World} {p y A q : Nat} {x : FAct} {D D' : Dk} {W W' : World} (h : SI w p y A q x D D' W) (f : Below W.heap.size W W') : SI w p y A q x D D' W' :=
  ⟨h.hx.below f, h.hy.below f, h.ha.below f, (f.block q (lt_of_heap h.hb)).trans h.hb, h.fr.trans (f.mono h.fr.size)⟩
theorem SI.bytes {w : World} {p y A q : Nat} {x : FAct} {D D' : Dk} {W : World} (h : SI w p y A q x D D' W) (o : Nat) : BytesAt W (some ⟨q, o, none⟩) ((allOf x.byte).drop o) := by
  refine ⟨(fun e => by cases e), fun ad e j u hu => ?_⟩
  injection e with e
  subst e
  rw [Addr.add_mid, cell_of_row _ _ _ _ _ _ h.hb]
  simp only [bv, List.getElem?_toArray, List.map_drop, List.getElem?_drop] at hu ⊢
  exact hu
theorem drop_len (c : UInt8) (o m : Nat) (hm : o + m = 256) : ((allOf c).drop o).length = m := by
  rw [List.length_drop, allOf_len]; omega
theorem sStore {w : World} {p y A q : Nat} {x : FAct} {D : Dk} {L k : Nat} (hO : Okd D L k) (hk : k ≤ 1000) (o m c : Nat) (hm : o + m = 256) (W : World) (h : SI w p y A q x D D W) :
    Calls Try.prog 16 #[.pointer (some ⟨p, 0, none⟩), .int .i64 x.at_, .slice (some ⟨q, o, none⟩) m c] W fun e w' => e = .returned (.int .i64 (D.stE x.at_ m)) ∧ SI w p y A q x (D.st x.at_ ((allOf x.byte).drop o)) D w' := by
  refine (xStore W w.heap.size p D L k h.hx hO hk x.at_ q o c m _ _ h.hb _ (drop_len _ _ _ hm) (h.bytes o)).mono ?_
  rintro e w' ⟨rfl, hx, f⟩
  exact ⟨rfl, hx, h.hy.fr f, h.ha.fr f, (f.other _ _ _ _ h.hb (by decide) (by decide) (by decide)).trans h.hb, h.fr.trans f.below⟩
theorem sBytes {w : World} {p y A q : Nat} {x : FAct} {D D' : Dk} (o m c : Nat) (hm : o + m = 256) (W : World) (h : SI w p y A q x D D' W) :
    Calls Try.prog 18 #[.slice (some ⟨q, o, none⟩) m c] W fun e w' => ∃ v, e = .returned v ∧ w'.ownsRow W.heap.size 5 1 v m (bv ((allOf x.byte).drop o)) ∧ SI w p y A q x D D' w' := by
  refine (Bytes_some W ⟨q, o, none⟩ _ m c (drop_len _ _ _ hm) (by omega) (h.bytes o)).mono ?_
  rintro e w' ⟨v, rfl, ho, f⟩
  exact ⟨v, rfl, ho, h.below f⟩
theorem srStore {w : World} {p y A q : Nat} {x : FAct} {D D1 : Dk} {L k : Nat} (hO : Okd D L k) (hk : k ≤ 1000) (o m : Nat) (hm : o + m = 256) (hm1 : 1 ≤ m) (W : World) (v : Value) (base : Nat) (h : SI w p y A q x D1 D W) (ho : W.ownsRow base 5 1 v m (bv ((allOf x.byte).drop o))) :
    Calls Try.prog 17 #[.pointer (some ⟨y, 0, none⟩), .int .i64 x.at_, v] W fun e w' => e = .returned (.int .i64 (D.stE x.at_ m)) ∧ SI w p y A q x D1 (D.st x.at_ ((allOf x.byte).drop o)) w' := by
  refine (yStore W w.heap.size y D L k h.hy hO hk x.at_ v m base _ (drop_len _ _ _ hm) hm1 ho).mono ?_
  rintro e w' ⟨rfl, hy, f⟩
  exact ⟨rfl, h.hx.fr2 f, hy, h.ha.fr2 f, (f.other _ _ _ _ h.hb (by decide) (by decide)).trans h.hb, h.fr.trans f.below⟩
/-- Behind a store and the writing over. -/
theorem si_done {w : World} {p y A q : Nat} {x : FAct} {D D1 : Dk} {L k : Nat} {W wr : World} (hO : Okd D L k) (at_ : Int) (xs : List UInt8) (hD : D1 = D.st at_ xs) (h : SI w p y A q x D1 D1 W) (hw : Wrote W w.heap.size q 5 wr) : AcR w p y L (k + 1) wr := by
  have := both_keep h.hx h.hy hw.bel.size (fun i c e f hi he => hw.oth i (by
    intro e2; subst e2
    have := hi.symm.trans h.hb
    simp at this
    exact he this.2.1))
  subst hD
  exact ar_of this.1 this.2 ((st_len _ _ _).trans hO.len) (st_few hO.few _ _) (h.fr.trans hw.bel)

end Go.Proofs.Ytaflibnalhfenaa
