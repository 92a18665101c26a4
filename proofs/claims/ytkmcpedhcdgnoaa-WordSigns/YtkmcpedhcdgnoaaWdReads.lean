/- The walk of WordReads. -/
import Derived.Test.YtkmcpedhcdgnoaaWdQ
namespace Go.Proofs.Ytkmcpedhcdgnoaa
open Go.RowKit
set_option linter.unusedVariables false

/-- An act of WordReads and WordWrites. -/
structure WAct where
  kind : Int
  k : Int
  n : Int
  m : Int
  l : List Int
  la : Option Addr
  lc : Nat
  b : List UInt8
  ba : Option Addr
  bc : Nat
def WAct.cells (x : WAct) : Array Value := #[.int .i64 x.kind, .int .i64 x.k, .int .i64 x.n, .int .i64 x.m, .slice x.la x.l.length x.lc, .slice x.ba x.b.length x.bc]
structure WOk (w : World) (x : WAct) : Prop where
  k : -9223372036854775808 ≤ x.k ∧ x.k ≤ 9223372036854775807
  n : -9223372036854775808 ≤ x.n ∧ x.n ≤ 9223372036854775807
  m : -9223372036854775808 ≤ x.m ∧ x.m ≤ 9223372036854775807
  l : Nums w x.la x.l.length x.l
  ln : x.la = none → x.l.length = 0 ∧ x.lc = 0
  lb : ∀ z ∈ x.l, -9223372036854775808 ≤ z ∧ z ≤ 9223372036854775807
  b : Arg w x.ba x.b.length x.bc x.b
structure FullW (w : World) (b o : Nat) (x : WAct) : Prop where
  c0 : w.cell? ⟨b, o, none⟩ = some (.int .i64 x.kind)
  c1 : w.cell? ⟨b, o + 1, none⟩ = some (.int .i64 x.k)
  c2 : w.cell? ⟨b, o + 2, none⟩ = some (.int .i64 x.n)
  c3 : w.cell? ⟨b, o + 3, none⟩ = some (.int .i64 x.m)
  c4 : w.cell? ⟨b, o + 4, none⟩ = some (.slice x.la x.l.length x.lc)
  c5 : w.cell? ⟨b, o + 5, none⟩ = some (.slice x.ba x.b.length x.bc)
theorem FullW.below {w w' : World} {B b o : Nat} {x : WAct} (h : FullW w b o x) (hb : b < B) (f : Below B w w') : FullW w' b o x :=
  ⟨(f.cell (p := ⟨b, o, none⟩) hb).trans h.c0, (f.cell (p := ⟨b, o + 1, none⟩) hb).trans h.c1, (f.cell (p := ⟨b, o + 2, none⟩) hb).trans h.c2, (f.cell (p := ⟨b, o + 3, none⟩) hb).trans h.c3, (f.cell (p := ⟨b, o + 4, none⟩) hb).trans h.c4, (f.cell (p := ⟨b, o + 5, none⟩) hb).trans h.c5⟩
def ActW (w : World) (A : Nat) (x : WAct) : Prop := w.heap[A]? = some (.cells x.cells 32 (0, 0))
theorem ActW.c0 {w : World} {A : Nat} {x : WAct} (h : ActW w A x) : w.cell? ⟨A, 0, none⟩ = some (.int .i64 x.kind) := by rw [cell_of_row _ _ _ _ _ _ h]; rfl
theorem ActW.c1 {w : World} {A : Nat} {x : WAct} (h : ActW w A x) : w.cell? ⟨A, 1, none⟩ = some (.int .i64 x.k) := by rw [cell_of_row _ _ _ _ _ _ h]; rfl
theorem ActW.c2 {w : World} {A : Nat} {x : WAct} (h : ActW w A x) : w.cell? ⟨A, 2, none⟩ = some (.int .i64 x.n) := by rw [cell_of_row _ _ _ _ _ _ h]; rfl
theorem ActW.c3 {w : World} {A : Nat} {x : WAct} (h : ActW w A x) : w.cell? ⟨A, 3, none⟩ = some (.int .i64 x.m) := by rw [cell_of_row _ _ _ _ _ _ h]; rfl
theorem ActW.c4 {w : World} {A : Nat} {x : WAct} (h : ActW w A x) : w.cell? ⟨A, 4, none⟩ = some (.slice x.la x.l.length x.lc) := by rw [cell_of_row _ _ _ _ _ _ h]; rfl
theorem ActW.c5 {w : World} {A : Nat} {x : WAct} (h : ActW w A x) : w.cell? ⟨A, 5, none⟩ = some (.slice x.ba x.b.length x.bc) := by rw [cell_of_row _ _ _ _ _ _ h]; rfl
theorem ActW.below {w w' : World} {A : Nat} {x : WAct} (h : ActW w A x) (f : Below w.heap.size w w') : ActW w' A x := (f.block A (lt_of_heap h)).trans h
theorem wact_block (wr : World) (x : WAct) : ActW (wr.alloc (.cells #[.int .i64 x.kind, .int .i64 x.k, .int .i64 x.n, .int .i64 x.m, .slice x.la x.l.length x.lc, .slice x.ba x.b.length x.bc] 32)) wr.heap.size x := heap_alloc_last wr (.cells x.cells 32)

/-- Bytes at block q are written over. -/
structure Wr6 (w : World) (q m : Nat) (wr : World) : Prop where
  blk : ∃ cur, wr.heap[q]? = some (.cells cur 5 (0, 0)) ∧ m ≤ cur.size
  oth : ∀ k, k ≠ q → wr.heap[k]? = w.heap[k]?
  bel : Below q w wr
theorem Wr6.set {w wr : World} {q m : Nat} (h : Wr6 w q m wr) (j : Nat) (u : Value) : Wr6 w q m (wr.setCell ⟨q, j, none⟩ u) := by
  obtain ⟨cur, hc, hs⟩ := h.blk
  exact ⟨⟨_, heap_setCell_same wr q j cur _ u hc, by simpa using hs⟩, fun k hk => (Below.heap_setCell _ _ _ _ hk).trans (h.oth k hk), h.bel.setCell (Nat.le_refl _) u⟩
theorem Wr6.cell {w wr : World} {q m : Nat} (h : Wr6 w q m wr) (j : Nat) (hj : j < m) : (∃ u, wr.cell? ⟨q, j, none⟩ = some u) ∧ wr.frozen? ⟨q, j, none⟩ = false := by
  obtain ⟨cur, hc, hs⟩ := h.blk
  exact ⟨⟨cur[j]'(by omega), by rw [cell_of_row _ _ _ _ _ _ hc, Array.getElem?_eq_getElem (by omega)]⟩, frozen_of_row _ _ _ _ _ hc⟩

section
variable {RD : (Nat → Prop) → World → Nat → Nat → List UInt8 → Nat → Prop} {WR : (Nat → Prop) → World → Nat → Nat → List UInt8 → Prop}

/-- Both readers, at one place. -/
structure RR (RD : (Nat → Prop) → World → Nat → Nat → List UInt8 → Nat → Prop) (w : World) (a : Option Addr) (n c : Nat) (bs : List UInt8) (v : Value) (x z i : Nat) (W : World) : Prop where
  fr : Below w.heap.size w W
  rd : ∃ F, RD F W w.heap.size x bs i ∧ ∀ k, F k → k ≠ z ∧ v.ownBlock ≠ some k
  le : i ≤ n
  zb : W.heap[z]? = some (.cells #[.slice a n c, .int .i64 (i : Int)] 29 (0, 0))
  zf : w.heap.size ≤ z
  own : W.ownsRow w.heap.size 5 1 v n (bv bs)
  vz : v.ownBlock ≠ some z
theorem bytes_copy {w : World} {a : Option Addr} {n c : Nat} {bs : List UInt8} (hb : Arg w a n c bs) (hn : n ≤ 140737488351232) : Calls Try.prog 8 #[.slice a n c] w fun e w' => ∃ v, e = .returned v ∧ w'.ownsRow w.heap.size 5 1 v n (bv bs) ∧ Below w.heap.size w w' := by
  cases a with
  | none =>
    obtain ⟨rfl, rfl⟩ := hb.nil rfl
    obtain rfl : bs = [] := List.eq_nil_of_length_eq_zero hb.len
    exact Bytes_none w
  | some ad =>
    exact Bytes_some w ad bs n c hb.len hn hb.bs.at
theorem RR.below (S : Words RD WR) {w : World} {a : Option Addr} {n c : Nat} {bs : List UInt8} {v : Value} {x z i : Nat} {W W' : World} (h : RR RD w a n c bs v x z i W) (f : Below W.heap.size W W') : RR RD w a n c bs v x z i W' := by
  obtain ⟨F, h1, h2⟩ := h.rd
  exact ⟨h.fr.trans (f.mono h.fr.size), ⟨F, S.rbelow h1 f, h2⟩, h.le, (f.block z (lt_of_heap h.zb)).trans h.zb, h.zf, own_below h.own f, h.vz⟩
/-- A block of one's own is written over. -/
theorem RR.wrote (S : Words RD WR) {w : World} {a : Option Addr} {n c : Nat} {bs : List UInt8} {v : Value} {x z i q m : Nat} {W W' : World} (h : RR RD w a n c bs v x z i W) (hq : w.heap.size ≤ q) (hz : q ≠ z) (hv : v.ownBlock ≠ some q) (hF : ∃ F, RD F W w.heap.size x bs i ∧ (∀ k, F k → k ≠ z ∧ v.ownBlock ≠ some k) ∧ ¬ F q) (f : Wr6 W q m W') : RR RD w a n c bs v x z i W' := by
  obtain ⟨F, h1, h2, h3⟩ := hF
  exact ⟨h.fr.trans (f.bel.mono hq), ⟨F, S.rkeep h1 (fun k hk => f.oth k (fun e => h3 (e ▸ hk))) f.bel.size, h2⟩, h.le, (f.oth z (fun e => hz e.symm)).trans h.zb, h.zf, own_of_block h.own (fun k hk => f.oth k (fun e => hv (e ▸ hk))), h.vz⟩

theorem RR.act (S : Words RD WR) {w : World} {a : Option Addr} {n c : Nat} {bs : List UInt8} {v : Value} {x z i : Nat} {W : World} (h : RR RD w a n c bs v x z i W) (o : Obj) : RR RD w a n c bs v x z i (W.alloc o) ∧ ∃ F, RD F (W.alloc o) w.heap.size x bs i ∧ (∀ k, F k → k ≠ z ∧ v.ownBlock ≠ some k) ∧ ¬ F W.heap.size := by
  have b : Below W.heap.size W (W.alloc o) := (Below.refl _ _).alloc (Nat.le_refl _) _
  obtain ⟨F, h1, h2⟩ := h.rd
  exact ⟨h.below S b, F, S.rbelow h1 b, h2, fun hF => by have := (S.rlt h1 _ hF).2; omega⟩
theorem RR.get (S : Words RD WR) {w : World} {a : Option Addr} {n c : Nat} {bs : List UInt8} {v : Value} {x z i A : Nat} {W : World} (hb : Arg w a n c bs) (hn : n ≤ 140737488351232) (h : RR RD w a n c bs v x z i W) (y : WAct) (hA : ActW W A y) (hAF : ∃ F, RD F W w.heap.size x bs i ∧ (∀ k, F k → k ≠ z ∧ v.ownBlock ≠ some k) ∧ ¬ F A) (sg : Bool) (f : Nat) (k : Int) (hk : -9223372036854775808 ≤ k ∧ k ≤ 9223372036854775807)
    (hc : ∀ F, RD F W w.heap.size x bs i → Calls Try.prog f #[.pointer (some ⟨x, 0, none⟩), .int .i64 k] W fun e w' => e = .returned (.tuple #[.int .i64 (getW bs i k sg).1, .int .i64 (getW bs i k sg).2.1]) ∧ (∃ F', RD F' w' w.heap.size x bs (getW bs i k sg).2.2 ∧ ∀ j, F' j → F j ∨ W.heap.size ≤ j) ∧ Fr6 F w.heap.size W w') :
    Calls Try.prog f #[.pointer (some ⟨x, 0, none⟩), .int .i64 k] W fun e w1 => e = .returned (.tuple #[.int .i64 (getW bs i k sg).1, .int .i64 (getW bs i k sg).2.1]) ∧ ActW w1 A y ∧
      Calls Try.prog 12 #[.pointer (some ⟨z, 0, none⟩), .int .i64 k, .bool sg] w1 fun e w2 => e = .returned (.tuple #[.int .i64 (getW bs i k sg).1, .int .i64 (getW bs i k sg).2.1]) ∧ RR RD w a n c bs v x z (getW bs i k sg).2.2 w2 := by
  obtain ⟨F, h1, h2, hAF'⟩ := hAF
  have hlen := hb.len
  refine (hc F h1).mono ?_
  rintro e w1 ⟨rfl, ⟨F', r1, hF'⟩, f1⟩
  have hz1 : w1.heap[z]? = some (.cells #[.slice a n c, .int .i64 (i : Int)] 29 (0, 0)) := (f1.other z (lt_of_heap h.zb) (fun hF => (h2 z hF).1 rfl)).trans h.zb
  have b1 := h.fr.trans f1.below
  have ho1 : w1.ownsRow w.heap.size 5 1 v n (bv bs) := own_of_block h.own (fun q hq => f1.other q (h.own.lt q hq).2 (fun hF => (h2 q hF).2 hq))
  have hF2 : ∀ q, F' q → q ≠ z ∧ v.ownBlock ≠ some q := fun q hq => by
    rcases hF' q hq with h3 | h3
    · exact h2 q h3
    · refine ⟨fun e => ?_, fun e => ?_⟩
      · have := lt_of_heap h.zb
        omega
      · have := (h.own.lt q e).2
        omega
  refine ⟨rfl, (f1.other A (lt_of_heap hA) hAF').trans hA, ?_⟩
  refine (hGet_any w1 z a n c i bs (hb.below (b1.mono (Nat.le_refl _))) (by omega) h.le hz1 k hk sg).mono ?_
  rintro e w2 ⟨rfl, r2⟩
  refine ⟨rfl, b1.trans (r2.bel.mono h.zf), ⟨F', S.rkeep r1 (fun q hq => r2.oth q (hF2 q hq).1) r2.bel.size, hF2⟩, ?_, r2.blk, h.zf, own_of_block ho1 (fun q hq => r2.oth q (fun e => h.vz (e ▸ hq))), h.vz⟩
  have := getW_le (bs := bs) (i := i) (k := k) (sg := sg) (by have := h.le; omega)
  omega

theorem RR.take (S : Words RD WR) {w : World} {a : Option Addr} {n c : Nat} {bs : List UInt8} {v : Value} {x z i A : Nat} {W : World} (hb : Arg w a n c bs) (hn : n ≤ 140737488351232) (h : RR RD w a n c bs v x z i W) (y : WAct) (hA : ActW W A y) (hAF : ∃ F, RD F W w.heap.size x bs i ∧ (∀ k, F k → k ≠ z ∧ v.ownBlock ≠ some k) ∧ ¬ F A) (k : Int) (hk : -9223372036854775808 ≤ k ∧ k ≤ 9223372036854775807) :
    Calls Try.prog 14 #[.pointer (some ⟨x, 0, none⟩), .int .i64 k] W fun e w1 => ∃ a1 m1 c1, e = .returned (.tuple #[.slice a1 m1 c1, .int .i64 (takeW bs i k).2.1]) ∧ ActW w1 A y ∧
      Calls Try.prog 15 #[.pointer (some ⟨z, 0, none⟩), .int .i64 k] w1 fun e w2 => ∃ v2, e = .returned (.tuple #[v2, .int .i64 (takeW bs i k).2.1]) ∧
        Calls Try.prog 16 #[.slice a1 m1 c1, v2] w2 fun e w3 => e = .returned (.bool true) ∧ RR RD w a n c bs v x z (takeW bs i k).2.2 w3 ∧ m1 ≤ 140737488351232 ∧ (m1 = 0 ∨ ∃ q, a1 = some ⟨q, 0, none⟩ ∧ Wr6 w3 q m1 w3 ∧ ∀ W', Wr6 w3 q m1 W' → RR RD w a n c bs v x z (takeW bs i k).2.2 W') := by
  obtain ⟨F, h1, h2, hAF'⟩ := hAF
  have hlen := hb.len
  refine (S.rbytes F W w.heap.size x bs i k h1 (by omega) (by have := h.le; omega) hk).mono ?_
  rintro e w1 ⟨v1, rfl, o1, ⟨F', r1, hF', hv1⟩, f1⟩
  obtain ⟨a1, c1, rfl, hq1⟩ := own_form o1
  have hz1 : w1.heap[z]? = some (.cells #[.slice a n c, .int .i64 (i : Int)] 29 (0, 0)) := (f1.other z (lt_of_heap h.zb) (fun hF => (h2 z hF).1 rfl)).trans h.zb
  have b1 := h.fr.trans f1.below
  have ho1 : w1.ownsRow w.heap.size 5 1 v n (bv bs) := own_of_block h.own (fun q hq => f1.other q (h.own.lt q hq).2 (fun hF => (h2 q hF).2 hq))
  have hF2 : ∀ q, F' q → q ≠ z ∧ v.ownBlock ≠ some q := fun q hq => by
    rcases hF' q hq with h3 | h3
    · exact h2 q h3
    · refine ⟨fun e => ?_, fun e => ?_⟩
      · have := lt_of_heap h.zb
        omega
      · have := (h.own.lt q e).2
        omega
  refine ⟨a1, _, c1, rfl, (f1.other A (lt_of_heap hA) hAF').trans hA, ?_⟩
  refine (hRBytes_any w1 z a n c i bs (hb.below b1) (by omega) h.le hz1 (fun b o e hp => ?_) k hk).mono ?_
  · obtain ⟨b', o', e', hB⟩ := hb.bs.2.resolve_left (by omega)
    rw [e] at e'
    injection e' with e'
    injection e' with e1 e2
    subst e1
    have hg := World.block_lt_of_cell? w _ (bytes_get hB (k := 0) (by omega))
    have := h.zf
    have hg' : b < w.heap.size := hg
    omega
  · rintro e w2 ⟨v2, rfl, o2, r2⟩
    refine ⟨v2, rfl, ?_⟩
    have hv1z : ∀ q, (Value.slice a1 (takeW bs i k).1.length c1).ownBlock = some q → q ≠ z := fun q hq e => by
      have h3 := (o1.lt q hq).1
      have h4 := lt_of_heap h.zb
      omega
    have o12 : w2.ownsRow W.heap.size 5 1 (.slice a1 (takeW bs i k).1.length c1) (takeW bs i k).1.length (bv (takeW bs i k).1) := own_of_block o1 (fun q hq => r2.oth q (o1.lt q hq).2 (hv1z q hq))
    obtain ⟨a2, c2, rfl, _⟩ := own_form o2
    refine (SameBytes_n w2 a1 a2 _ _ _ _ c1 c2 (own_bytes o12) (own_bytes o2) rfl rfl).mono ?_
    rintro e w3 ⟨rfl, rfl⟩
    have hRR : RR RD w a n c bs v x z (takeW bs i k).2.2 w3 := by
      refine ⟨b1.trans (r2.bel.mono h.zf), ⟨F', S.rkeep r1 (fun q hq => r2.oth q (S.rlt r1 q hq).2 (hF2 q hq).1) r2.bel.size, hF2⟩, ?_, r2.blk, h.zf, own_of_block ho1 (fun q hq => r2.oth q (ho1.lt q hq).2 (fun e => h.vz (e ▸ hq))), h.vz⟩
      have := takeW_le (bs := bs) (i := i) (n := k) (by have := h.le; omega)
      omega
    have hm1 : (takeW bs i k).1.length ≤ 140737488351232 := by
      unfold takeW
      split
      · simp
      · split
        · simp
        · simp only [List.length_take, List.length_drop]
          omega
    refine ⟨by simp, hRR, hm1, ?_⟩
    by_cases h0 : (takeW bs i k).1.length = 0
    · exact .inl h0
    · obtain ⟨q, rfl, _⟩ := hq1 (by omega)
      have hlt := o12.lt q rfl
      have hFq : ¬ F' q := hv1 q rfl
      refine .inr ⟨q, rfl, ?_, fun W' hW => ?_⟩
      · rcases o12.2 with ⟨e, _⟩ | ⟨g, cap, cur, e, _, hg, h3, _, h4, _⟩
        · cases e
        · injection e with e1 e2 e3
          injection e1 with e1
          injection e1 with e1
          subst e1
          exact ⟨⟨cur, hg, by omega⟩, fun _ _ => rfl, Below.refl _ _⟩
      · refine hRR.wrote S ?_ (hv1z q rfl) (fun e => ?_) ⟨F', S.rkeep r1 (fun j hj => r2.oth j (S.rlt r1 j hj).2 (hF2 j hj).1) r2.bel.size, hF2, hFq⟩ hW
        · have := h.fr.size
          omega
        · have := (h.own.lt q e).2
          omega

set_option maxHeartbeats 8000000 in
set_option maxRecDepth 100000 in
theorem reads_walk (S : Words RD WR) (w : World) (a : Option Addr) (n c : Nat) (bs : List UInt8) (hb : Arg w a n c bs) (hn : n ≤ 140737488351232) (la : Option Addr) (len lc : Nat) (l : List WAct) (hl : l.length = len) (hlen : len ≤ 9223372036854775807)
    (hA : len = 0 ∨ ∃ b o, la = some ⟨b, o, none⟩ ∧ b < w.heap.size ∧ ∀ (j : Nat) (x : WAct), l[j]? = some x → FullW w b (o + j * 6) x ∧ WOk w x) :
    Calls Try.prog 3 #[.slice a n c, .slice la len lc] w fun e w' => e = .returned (.bool true) ∧ Below w.heap.size w w' := by
  have HB := hide hb
  have HA := hide hA
  have H0 : Hid (Calls Try.prog 8 #[.slice a n c] w fun e w' => ∃ v, e = .returned v ∧ w'.ownsRow w.heap.size 5 1 v n (bv bs) ∧ Below w.heap.size w w') := bytes_copy hb hn
  have hbl := hb.len
  clear hb hA
  go_enter Try.func3, Try.ntmps3
  go_wp2_with fail
  refine (unhide H0).mono ?_
  rintro e w1 ⟨v1, rfl, o1, f1⟩
  obtain ⟨a1, c1, rfl, _⟩ := own_form o1
  have HR := hide (S.read w1 a1 n c1 bs (arg_of_own hbl o1) hn)
  have O1 := hide o1
  have F1 := hide f1
  clear H0 o1 f1
  go_wp2_with fail
  refine (unhide HR).mono ?_
  rintro e w2 ⟨x, F, rfl, r2, f2⟩
  have hR0 : RR RD w a n c bs (.slice a1 n c1) x w2.heap.size 0 (w2.alloc (.cells #[.slice a n c, .int .i64 ((0 : Nat) : Int)] 29)) := by
    have o1 := unhide O1
    have f1 := unhide F1
    have b3 : Below w2.heap.size w2 (w2.alloc (.cells #[.slice a n c, .int .i64 ((0 : Nat) : Int)] 29)) := (Below.refl _ _).alloc (Nat.le_refl _) _
    have g2 := f1.trans (f2.mono f1.size)
    refine ⟨g2.trans (b3.mono g2.size), ⟨F, S.rbelow (S.rbase r2 f1.size) b3, fun k hk => ⟨fun e => ?_, fun e => ?_⟩⟩, Nat.zero_le _, heap_alloc_last w2 _, g2.size, own_below (own_below o1 f2) b3, fun e => ?_⟩
    · have := (S.rlt r2 k hk).2
      omega
    · have h3 := (S.rlt r2 k hk).1
      have h4 := (o1.lt k e).2
      omega
    · have h4 := (o1.lt _ e).2
      have := f2.size
      omega
  have HR0 := hide hR0
  clear HR r2 f2 hR0 O1 F1
  go_wp2
  generalize w2.alloc (.cells #[.slice a n c, .int .i64 ((0 : Nat) : Int)] 29) = w3 at *
  generalize w2.heap.size = z at *
  clear w2
  go_loopg [8] 100 (fun gk i wr => ∃ k : Nat, gk = 100 - k ∧ k ≤ 100 ∧ k ≤ len ∧ i = .int .i64 k ∧ ∃ j, RR RD w a n c bs (.slice a1 n c1) x z j wr)
  case atStart => exact ⟨0, by omega, by omega, by omega, rfl, _, unhide HR0⟩
  case round =>
    obtain ⟨k, rfl, hk100, hk, rfl, j, hR⟩ := hrel
    clear HR0
    by_cases hlt : k < len ∧ k < 100
    · obtain ⟨hlt, hlt100⟩ := hlt
      obtain ⟨b, o, rfl, hbw, hAA⟩ := (unhide HA).resolve_left (by omega)
      obtain ⟨y, hy⟩ : ∃ y, l[k]? = some y := ⟨_, List.getElem?_eq_getElem (by omega)⟩
      obtain ⟨hF, hPO⟩ := hAA k y hy
      have hkl : (k : Int) < (len : Int) := by omega
      have hk8 : (k : Int) < 100 := by omega
      obtain ⟨c0, c1', c2, c3, c4, c5⟩ := hF.below hbw hR.fr
      have HPO := hide hPO
      have HR := hide hR
      clear hPO hR hF hy hAA hbw
      have HAM : Hid (∀ W, Calls Try.prog 10 #[.int .i64 y.kind, .int .i64 4] W fun e w' => e = .returned (.int .i64 (among y.kind 4)) ∧ w' = W) := fun W => Among_any W y.kind 4 (by omega) (by omega)
      go_upto_block 2 with (go_at_call 10; refine (unhide HAM _).mono ?_; rintro e w5 ⟨rfl, e5⟩; have e5' := e5.symm; clear e5; subst e5')
      have hAB := wact_block wr y
      have hact := (unhide HR).act S (.cells #[.int .i64 y.kind, .int .i64 y.k, .int .i64 y.n, .int .i64 y.m, .slice y.la y.l.length y.lc, .slice y.ba y.b.length y.bc] 32)
      generalize wr.alloc (.cells #[.int .i64 y.kind, .int .i64 y.k, .int .i64 y.n, .int .i64 y.m, .slice y.la y.l.length y.lc, .slice y.ba y.b.length y.bc] 32) = wa at *
      generalize wr.heap.size = A at *
      have HAB := hide hAB
      have HR1 := hide hact.1
      have HFA := hide hact.2
      clear hAB hact c0 c1' c2 c3 c4 c5 HR HAM
      clear wr
      have hdl := among_lt y.kind 4 (by omega)
      generalize hd : ((among y.kind 4 : Nat) : Int) = d at *
      have hd4 : d = 0 ∨ d = 1 ∨ d = 2 ∨ d = 3 := by omega
      clear hd hdl
      go_cut [10] from 33 to 154 (fun ok wx => ok = .bool true ∧ ∃ j, RR RD w a n c bs (.slice a1 n c1) x z j wx)
      case first =>
        rcases hd4 with rfl | rfl | rfl | rfl
        · have H1 := hide ((unhide HR1).get S (unhide HB) hn y (unhide HAB) (unhide HFA) false 11 y.k (unhide HPO).k (fun F h => S.ru F wa w.heap.size x bs j y.k h (by omega) (by have := (unhide HR1).le; omega) (unhide HPO).k))
          have a1' := (unhide HAB).c1
          generalize (getW bs j y.k false).2.2 = j' at *
          generalize (getW bs j y.k false).1 = V at *
          generalize (getW bs j y.k false).2.1 = E at *
          clear HAB HR1 HPO HFA HB
          go_wp2_with fail
          refine (unhide H1).mono ?_
          rintro e w5 ⟨rfl, ab5, h5⟩
          have k5 := ab5.c1
          have H5 := hide h5
          clear H1 h5 ab5 a1'
          go_wp2_with fail
          refine (unhide H5).mono ?_
          rintro e w6 ⟨rfl, r6⟩
          have R := hide r6
          have hVV : (V == V) = true := by simp
          have hEE : (E == E) = true := by simp
          clear H5 r6 k5
          go_wp2
          go_meet
          exact ⟨rfl, _, unhide R⟩
        · have H1 := hide ((unhide HR1).get S (unhide HB) hn y (unhide HAB) (unhide HFA) false 11 y.k (unhide HPO).k (fun F h => S.ru F wa w.heap.size x bs j y.k h (by omega) (by have := (unhide HR1).le; omega) (unhide HPO).k))
          have a1' := (unhide HAB).c1
          generalize (getW bs j y.k false).2.2 = j' at *
          generalize (getW bs j y.k false).1 = V at *
          generalize (getW bs j y.k false).2.1 = E at *
          clear HAB HR1 HPO HFA HB
          go_wp2_with fail
          refine (unhide H1).mono ?_
          rintro e w5 ⟨rfl, ab5, h5⟩
          have k5 := ab5.c1
          have H5 := hide h5
          clear H1 h5 ab5 a1'
          go_wp2_with fail
          refine (unhide H5).mono ?_
          rintro e w6 ⟨rfl, r6⟩
          have R := hide r6
          have hVV : (V == V) = true := by simp
          have hEE : (E == E) = true := by simp
          clear H5 r6 k5
          go_wp2
          go_meet
          exact ⟨rfl, _, unhide R⟩
        · have H1 := hide ((unhide HR1).get S (unhide HB) hn y (unhide HAB) (unhide HFA) true 13 y.k (unhide HPO).k (fun F h => S.rs F wa w.heap.size x bs j y.k h (by omega) (by have := (unhide HR1).le; omega) (unhide HPO).k))
          have a1' := (unhide HAB).c1
          generalize (getW bs j y.k true).2.2 = j' at *
          generalize (getW bs j y.k true).1 = V at *
          generalize (getW bs j y.k true).2.1 = E at *
          clear HAB HR1 HPO HFA HB
          go_wp2_with fail
          refine (unhide H1).mono ?_
          rintro e w5 ⟨rfl, ab5, h5⟩
          have k5 := ab5.c1
          have H5 := hide h5
          clear H1 h5 ab5 a1'
          go_wp2_with fail
          refine (unhide H5).mono ?_
          rintro e w6 ⟨rfl, r6⟩
          have R := hide r6
          have hVV : (V == V) = true := by simp
          have hEE : (E == E) = true := by simp
          clear H5 r6 k5
          go_wp2
          go_meet
          exact ⟨rfl, _, unhide R⟩
        · have H1 := hide ((unhide HR1).take S (unhide HB) hn y (unhide HAB) (unhide HFA) y.n (unhide HPO).n)
          have a2' := (unhide HAB).c2
          generalize (takeW bs j y.n).2.2 = j' at *
          generalize (takeW bs j y.n).2.1 = E at *
          clear HAB HR1 HPO HFA HB
          go_wp2_with fail
          refine (unhide H1).mono ?_
          rintro e w5 ⟨ca, cm, cc, rfl, ab5, h5⟩
          have k5 := ab5.c2
          have H5 := hide h5
          clear H1 h5 ab5 a2'
          go_wp2_with fail
          refine (unhide H5).mono ?_
          rintro e w6 ⟨v6, rfl, h6⟩
          have H6 := hide h6
          clear H5 h6 k5
          go_wp2_with fail
          refine (unhide H6).mono ?_
          rintro e w7 ⟨rfl, r7, hcm, hq⟩
          have hEE : (E == E) = true := by simp
          rcases hq with rfl | ⟨q, rfl, wq, hq⟩
          · have R := hide r7
            clear H6 r7
            go_wp2
            refine wp_loop_rounds 1 ?_
            rw [rounds_succ]
            go_wp2
            go_meet
            exact ⟨rfl, _, unhide R⟩
          · have HQ := hide hq
            have WQ := hide wq
            have R := hide r7
            clear H6 r7 hq wq
            go_wp2
            go_loopw [23] (fun i wr => ∃ j : Nat, j ≤ cm ∧ i = .int .i64 j ∧ Wr6 w7 q cm wr) (fun i _ => cm - (intOf i).toNat)
            case atStart => exact ⟨0, by omega, rfl, unhide WQ⟩
            case round =>
              obtain ⟨i, hi, rfl, hW⟩ := hrel
              by_cases hjl : i < cm
              · have hjl' : (i : Int) < (cm : Int) := by omega
                obtain ⟨⟨u, hu⟩, hf⟩ := hW.cell i hjl
                have HW := hide (hW.set i (.int .u8 201))
                clear hW
                go_wp2
                go_roundw
                case rel => exact ⟨i + 1, by omega, by go_num, unhide HW⟩
                case measure => simp [intOf]; omega
              · have hjl' : ¬ (i : Int) < (cm : Int) := by omega
                have R2 := hide (unhide HQ _ hW)
                clear hW HQ WQ R
                go_wp2
                go_meet
                exact ⟨rfl, _, unhide R2⟩
      case rest =>
        obtain ⟨rfl, j', hR3⟩ := hcut
        have hle := hR3.le
        have e1 : wc.cell? ⟨z, 1, none⟩ = some (.int .i64 (j' : Int)) := by rw [cell_of_row _ _ _ _ _ _ hR3.zb]; rfl
        have KZ : Hid (∀ W, Below wc.heap.size wc W → W.cell? ⟨z, 1, none⟩ = some (.int .i64 (j' : Int))) := fun W f => by rw [cell_of_row _ _ _ _ _ _ (hR3.below S f).zb]; rfl
        have HT : Hid (∀ W, Below wc.heap.size wc W → Calls Try.prog 17 #[.pointer (some ⟨x, 0, none⟩)] W fun e w' => e = .returned (.int .i64 (j' : Int)) ∧ Below wc.heap.size wc w') := fun W f => by
          obtain ⟨F, h1, _⟩ := (hR3.below S f).rd
          refine (S.rat F W w.heap.size x bs j' h1 (by omega) (by omega)).mono ?_
          rintro e w' ⟨rfl, f'⟩
          exact ⟨rfl, f.trans (f'.mono f.size)⟩
        have HL : Hid (∀ W, Below wc.heap.size wc W → Calls Try.prog 18 #[.pointer (some ⟨x, 0, none⟩)] W fun e w' => e = .returned (.int .i64 ((n : Int) - j')) ∧ Below wc.heap.size wc w') := fun W f => by
          obtain ⟨F, h1, _⟩ := (hR3.below S f).rd
          have := S.rleft F W w.heap.size x bs j' h1 (by omega) (by omega)
          rw [hbl] at this
          refine Calls.mono this ?_
          rintro e w' ⟨rfl, f'⟩
          exact ⟨rfl, f.trans (f'.mono f.size)⟩
        have y1 : IntKind.i64.wrap ((n : Int) - j') = (n : Int) - j' := by rw [IntKind.wrap_i64]; omega
        have q1 : ((j' : Int) != (j' : Int)) = false := by simp
        have q2 : (((n : Int) - j') != ((n : Int) - j')) = false := by simp
        have HR3 := hide hR3
        clear hR3 HAB HR1 HFA HPO hd4
        go_wp2_with fail
        go_region_held (fun W => W.cell? ⟨z, 1, none⟩ = some (.int .i64 (j' : Int))) (go_keep)
          (first
            | (have ox := f5; clear ox; go_at_call 18; refine (unhide HL _ (by repeat (first | exact f5 | refine Below.drew ?_))).mono ?_; rintro e w6 ⟨rfl, f6⟩; have k6 := unhide KZ _ f6)
            | (go_at_call 17; refine (unhide HT _ (by repeat (first | exact Below.refl _ _ | refine Below.drew ?_))).mono ?_; rintro e w5 ⟨rfl, f5⟩; have k5 := unhide KZ _ f5))
        have R := hide ((unhide HR3).below S f6)
        clear f5 f6 k5 k6 KZ HT HL HR3 e1 y1
        go_wp2
        go_roundg (100 - (k + 1))
        case measure => omega
        case rel => exact ⟨k + 1, rfl, by omega, by omega, by go_num, j', (unhide R).below S (by first | exact below_drewN (Below.refl _ _) _ | repeat (first | exact Below.refl _ _ | refine Below.drew ?_))⟩
    · have hend : ((k : Int) < (len : Int) ∧ ¬ (k : Int) < 100 ∧ decide ((k : Int) < 100) = false) ∨ (¬ (k : Int) < (len : Int) ∧ decide ((k : Int) < (len : Int)) = false) := by
        by_cases h : k < len
        · exact .inl ⟨by omega, by omega, by simp; omega⟩
        · exact .inr ⟨by omega, by simp; omega⟩
      have HS := hide (SameBytes_n wr a1 a bs bs n n c1 c (own_bytes hR.own) (((unhide HB).below hR.fr).bs.at) hbl hbl)
      have HF := hide hR.fr
      have HW := hide (works6_any S wr)
      clear HA HB hR hlt
      rcases hend with ⟨g1, g2, g3⟩ | ⟨g1, g2⟩
      all_goals
        go_wp2_with fail
        refine (unhide HS).mono ?_
        rintro e w5 ⟨rfl, e5⟩
        have e5' := e5.symm
        clear e5
        subst e5'
        have hdt : decide (bs = bs) = true := by simp
        clear HS
        go_wp2_with fail
        refine (unhide HW).mono ?_
        rintro e w6 ⟨rfl, f6⟩
        have F6 := hide ((unhide HF).trans (f6.mono (unhide HF).size))
        clear f6 HW HF
        go_wp2
        go_ret
        exact ⟨rfl, unhide F6⟩

end

end Go.Proofs.Ytkmcpedhcdgnoaa
