/- The landed class: a writer and its names, while a class is written. -/
import Derived.Test.YthhdfokcciibmaaGreatDoorJCkF
import Derived.Test.YthhdfokcciibmaaGreatDoorJH

namespace Go.Proofs.YthhdfokcciibmaaGreatDoor
open Go.RowKit
set_option linter.unusedVariables false
set_option maxRecDepth 100000

/-- The first bytes of types, as the program's table has them. -/
def kindB (k : Nat) : Int := if k = 0 then 0 else if k = 1 then 1 else if k = 2 then 4 else if k = 3 then 5 else 7
def Tab8 (w : World) : Prop := ∀ i, i < 5 → w.cell? ⟨0, i, none⟩ = some (.int .i64 (kindB i))
theorem Tab8.below {w w' : World} (h : Tab8 w) (f : Below w.heap.size w w') : Tab8 w' := fun i hi => by
  have h1 := h i hi
  exact (f.cell (World.block_lt_of_cell? w _ h1)).trans h1
/-- What stays while a class is written: the world that it came in with, the base of all that is new, the writer's block, the names. -/
structure Cx where
  wc : World
  B : Nat
  x : Nat
  g : Nat
  mt : Nat
  mc : Nat
  p : Sl
  l : List Ent
structure Wt (C : Cx) (F : Nat → Prop) (w : World) (bs : List UInt8) : Prop where
  wr : WR F w C.B C.x bs
  bel : Below C.wc.heap.size C.wc w
  hB : C.wc.heap.size ≤ C.B
  nm : Nm w C.g C.mt C.mc C.p C.l
  ng : ¬ F C.g
  nt : ¬ F C.mt
  nc : ¬ F C.mc
  pool : EIn C.wc C.p.a C.p.n C.p.c C.l
  tab : Tab8 C.wc
theorem Wt.lt {C : Cx} {F : Nat → Prop} {w : World} {bs : List UInt8} (h : Wt C F w bs) : ∀ k, F k → C.B ≤ k ∧ k < w.heap.size := kwr_lt h.wr
theorem Wt.base {C : Cx} {F : Nat → Prop} {w : World} {bs : List UInt8} (h : Wt C F w bs) : C.B ≤ w.heap.size := by
  obtain ⟨y, c, _, h⟩ := h.wr
  exact Nat.le_trans h.hx (Nat.le_of_lt h.xlt)
theorem Wt.tb {C : Cx} {F : Nat → Prop} {w : World} {bs : List UInt8} (h : Wt C F w bs) : Tab8 w := h.tab.below h.bel
theorem Wt.below {C : Cx} {F : Nat → Prop} {w w' : World} {bs : List UInt8} (h : Wt C F w bs) (f : Below w.heap.size w w') : Wt C F w' bs :=
  ⟨kwr_below h.wr f, h.bel.trans (f.mono h.bel.size), h.hB, h.nm.below f, h.ng, h.nt, h.nc, h.pool, h.tab⟩
theorem Nm.other {w w' : World} {g mt mc : Nat} {p : Sl} {l : List Ent} (h : Nm w g mt mc p l) (h1 : w'.heap[g]? = w.heap[g]?) (h2 : w'.heap[mt]? = w.heap[mt]?) (h3 : w'.heap[mc]? = w.heap[mc]?) (h4 : EIn w' p.a p.n p.c l) : Nm w' g mt mc p l :=
  ⟨h1.trans h.blk, h.texts.keep h2, h.classes.keep h3, h4, h.right⟩
/-- Written since w0, by one that had the blocks F; what of w0 may have turned lies in G. -/
structure WtG (C : Cx) (F G : Nat → Prop) (w0 : World) (bs : List UInt8) (W : World) : Prop where
  ex : ∃ F', Wt C F' W bs ∧ ∀ j, F' j → F j ∨ w0.heap.size ≤ j
  fr : Fr6 G C.B w0 W
abbrev WtTo (C : Cx) (F : Nat → Prop) (w0 : World) (bs : List UInt8) (W : World) : Prop := WtG C F F w0 bs W
theorem Wt.next {C : Cx} {F F' : Nat → Prop} {w w' : World} {bs bs' : List UInt8} (h : Wt C F w bs) (h1 : WR F' w' C.B C.x bs') (h2 : ∀ j, F' j → F j ∨ w.heap.size ≤ j) (f : Fr6 F C.B w w') : WtTo C F w bs' w' := by
  have hb : Below C.wc.heap.size C.wc w' := h.bel.trans (f.below.mono h.hB)
  have ne : ∀ k, ¬ F k → k < w.heap.size → ¬ F' k := fun k hk hl hf => (h2 k hf).elim hk (fun e => by omega)
  have hg := h.nm.glt
  have ht := h.nm.texts.lt
  have hc := h.nm.classes.lt
  exact ⟨⟨F', ⟨h1, hb, h.hB, h.nm.other (f.other _ hg h.ng) (f.other _ ht h.nt) (f.other _ hc h.nc) (h.pool.below hb), ne _ h.ng hg, ne _ h.nt ht, ne _ h.nc hc, h.pool, h.tab⟩, h2⟩, f⟩
theorem WtG.start {C : Cx} {F : Nat → Prop} {w : World} {bs : List UInt8} (h : Wt C F w bs) (G : Nat → Prop) : WtG C F G w bs w := ⟨⟨F, h, fun j hj => .inl hj⟩, Below.refl _ _, fun _ _ _ => rfl⟩
theorem WtG.below {C : Cx} {F G : Nat → Prop} {w0 W W' : World} {bs : List UInt8} (h : WtG C F G w0 bs W) (f : Below W.heap.size W W') : WtG C F G w0 bs W' := by
  obtain ⟨F', h1, h2⟩ := h.ex
  exact ⟨⟨F', h1.below f, h2⟩, kfr_trans (F1 := fun _ => False) h.fr (Fr6.of_below f h1.base) (fun k hk => hk.elim)⟩
theorem WtG.keep {C : Cx} {F G : Nat → Prop} {w0 W : World} {bs : List UInt8} (h : WtG C F G w0 bs W) {b : Nat} (hb : b < w0.heap.size) (hG : ¬ G b) (o : Nat) : W.cell? ⟨b, o, none⟩ = w0.cell? ⟨b, o, none⟩ := World.cell?_of_block (a := ⟨b, o, none⟩) (h.fr.other b hb hG)
theorem WtG.step {C : Cx} {F G : Nat → Prop} {w0 W W' : World} {bs bs' : List UInt8} {f : Nat} {args : Array Value} {P : Ending → Prop} (h : WtG C F G w0 bs W) (hG : ∀ j, F j → G j)
    (hc : ∀ F1, Wt C F1 W bs → Calls Tryz.prog f args W' fun e w' => P e ∧ WtTo C F1 W bs' w') : Calls Tryz.prog f args W' fun e w' => P e ∧ WtG C F G w0 bs' w' := by
  obtain ⟨F1, h1, h2⟩ := h.ex
  refine (hc F1 h1).mono ?_
  rintro e w' ⟨hP, hT⟩
  obtain ⟨F2, h3, h4⟩ := hT.ex
  refine ⟨hP, ⟨F2, h3, fun j hj => (h4 j hj).elim (h2 j) (fun e => .inr (Nat.le_trans h.fr.below.size e))⟩, kfr_trans h.fr hT.fr (fun k hk => (h2 k hk).elim (fun e => .inl (hG k e)) .inr)⟩
theorem WtG.leave {C : Cx} {F G : Nat → Prop} {w w1 W : World} {bs bs0 : List UInt8} (h : Wt C F w bs0) (b : Below w.heap.size w w1) (g : WtG C F G w1 bs W) (hG : ∀ j, G j → F j ∨ w.heap.size ≤ j) : WtTo C F w bs W := by
  obtain ⟨F', h1, h2⟩ := g.ex
  exact ⟨⟨F', h1, fun j hj => (h2 j hj).elim .inl (fun e => .inr (Nat.le_trans b.size e))⟩, kfr_trans (Fr6.of_below b h.base) g.fr hG⟩
/-- A writer and its names as a value. -/
def Cx.v (C : Cx) : Value := .agg #[.pointer (some ⟨C.x, 0, none⟩), .pointer (some ⟨C.g, 0, none⟩)]

theorem wt_u {C : Cx} {F : Nat → Prop} {W W' : World} {bs : List UInt8} (h : Wt C F W bs) (f : Below W.heap.size W W') (zs : List Int) (n : Nat) (k : Int) (hn : zs.length = n) (hz : ∀ (j : Nat) (z : Int), zs[j]? = some z → W'.cell? ⟨W.heap.size, j, none⟩ = some (.int .i64 z)) (hw : wide k) (hf : ∀ z ∈ zs, fitsW k z false ∧ Rng z) (hb : bs.length ≤ 100000000) (hnn : n ≤ 1000) :
    Calls Tryz.prog 57 #[.pointer (some ⟨C.x, 0, none⟩), .int .i64 k, .slice (some ⟨W.heap.size, 0, none⟩) n n] W' fun e w' => e = .returned (.int .i64 0) ∧ WtTo C F W (bs ++ zs.flatMap (bytesW k)) w' := by
  have h1 := h.below f
  have hk : -9223372036854775808 ≤ k ∧ k ≤ 9223372036854775807 := by rcases hw with rfl | rfl | rfl | rfl <;> omega
  have hp : putW bs k false zs = (bs ++ zs.flatMap (bytesW k), 0) := putW_ok hw (fun z hzz => (hf z hzz).1)
  refine (eU_any F W' C.B C.x bs k _ n n zs h1.wr ⟨hn, .inr ⟨_, _, rfl, fun j z hj => by rw [Nat.zero_add]; exact hz j z hj⟩⟩ (fun b o e _ hb => ?_) (fun z hzz => (hf z hzz).2) (by omega) hk).mono ?_
  · injection e with e
    injection e with e1
    have := (h.lt b hb).2
    omega
  · rintro e w' ⟨rfl, ⟨F', r1, r2⟩, r3⟩
    rw [hp] at r1 ⊢
    exact ⟨rfl, WtG.leave h f (h1.next r1 r2 r3) (fun j hj => .inl hj)⟩
theorem wt_bytes {C : Cx} {F : Nat → Prop} {W : World} {bs : List UInt8} (h : Wt C F W bs) (a : Option Addr) (n c : Nat) (ys : List UInt8) (ha : Arg C.wc a n c ys) (hb : bs.length ≤ 100000000) (hn : n ≤ 100000000) :
    Calls Tryz.prog 88 #[.pointer (some ⟨C.x, 0, none⟩), .slice a n c] W fun e w' => e = .returned (.int .i64 0) ∧ WtTo C F W (bs ++ ys) w' := by
  refine (eBytes_any F W C.B C.x bs a n c ys h.wr (ha.below h.bel) (fun b o e h0 hb => ?_) (by omega)).mono ?_
  · have hlt : b < C.wc.heap.size := by
      subst e
      obtain ⟨hl, hh⟩ := ha.bs
      rcases hh with hz | ⟨b', o', e', hB⟩
      · omega
      · injection e' with e'
        injection e' with e1 e2
        subst e1 e2
        obtain ⟨u, hu⟩ : ∃ u, (bv ys)[0]? = some u := ⟨_, List.getElem?_eq_getElem (by rw [bv_length]; omega)⟩
        have := hB.2 ⟨b, o, none⟩ rfl 0 u hu
        exact World.block_lt_of_cell? _ _ this
    have := (h.lt b hb).1
    have := h.hB
    omega
  · rintro e w' ⟨rfl, ⟨F', r1, r2⟩, r3⟩
    exact ⟨rfl, h.next r1 r2 r3⟩
theorem fz2 {z : Int} (h : 0 ≤ z ∧ z ≤ 65535) : fitsW 2 z false ∧ Rng z := ⟨fitsU2 h, by unfold Rng; omega⟩
theorem fz4 {z : Int} (h : 0 ≤ z ∧ z < 4294967296) : fitsW 4 z false ∧ Rng z := ⟨fitsU4 h, by unfold Rng; omega⟩
theorem fz1 {z : Int} (h : 0 ≤ z ∧ z ≤ 255) : fitsW 1 z false ∧ Rng z := ⟨fits_tag h.1 (by omega), by unfold Rng; omega⟩
end Go.Proofs.YthhdfokcciibmaaGreatDoor
