/- The acts of WordWrites, as calls of both, one behind the other. -/
import Derived.Test.YtkmcpedhcdgnoaaWdW
namespace Go.Proofs.Ytkmcpedhcdgnoaa
open Go.RowKit
set_option linter.unusedVariables false

section
variable {RD : (Nat → Prop) → World → Nat → Nat → List UInt8 → Nat → Prop} {WR : (Nat → Prop) → World → Nat → Nat → List UInt8 → Prop}
/-- At the head of a round: both have the same bytes. -/
structure WSh (WR : (Nat → Prop) → World → Nat → Nat → List UInt8 → Prop) (w : World) (x : Nat) (bs : List UInt8) (v : Value) (n : Nat) (W : World) : Prop where
  fr : Below w.heap.size w W
  wr : ∃ G, WR G W w.heap.size x bs ∧ ∀ k, v.ownBlock = some k → ¬ G k
  own : W.ownsRow w.heap.size 5 1 v n (bv bs)
theorem WS.h {w : World} {x : Nat} {bs : List UInt8} {v : Value} {n A : Nat} {W : World} (h : WS WR w x bs bs v n A W) : WSh WR w x bs v n W := by
  obtain ⟨G, h1, h2, _⟩ := h.wr
  exact ⟨h.fr, ⟨G, h1, h2⟩, h.own⟩
theorem WSh.act (S : Words RD WR) {w : World} {x : Nat} {bs : List UInt8} {v : Value} {n : Nat} {W : World} (h : WSh WR w x bs v n W) (o : Obj) : WS WR w x bs bs v n W.heap.size (W.alloc o) := by
  have b : Below W.heap.size W (W.alloc o) := (Below.refl _ _).alloc (Nat.le_refl _) _
  obtain ⟨G, h1, h2⟩ := h.wr
  exact ⟨h.fr.trans (b.mono h.fr.size), ⟨G, S.wbelow h1 b, h2, fun hG => by have := (S.wlt h1 _ hG).2; omega⟩, own_below h.own b⟩
theorem WSh.below (S : Words RD WR) {w : World} {x : Nat} {bs : List UInt8} {v : Value} {n : Nat} {W W' : World} (h : WSh WR w x bs v n W) (f : Below W.heap.size W W') : WSh WR w x bs v n W' := by
  obtain ⟨G, h1, h2⟩ := h.wr
  exact ⟨h.fr.trans (f.mono h.fr.size), ⟨G, S.wbelow h1 f, h2⟩, own_below h.own f⟩
theorem WSh.len {w : World} {x : Nat} {bs : List UInt8} {v : Value} {n : Nat} {W : World} (h : WSh WR w x bs v n W) : bs.length = n := by
  have := h.own.1
  rw [bv_length] at this
  omega

theorem WS.ints {w : World} {x : Nat} {bs cs : List UInt8} {v : Value} {n A : Nat} {W W' : World} (h : WS WR w x bs cs v n A W) (y : WAct) (hy : WOk w y) (hl : y.l.length ≤ 60) (hA : ActW W A y) (f : Below W.heap.size W W') :
    Calls Try.prog 22 #[.slice y.la y.l.length y.lc] W' fun e w1 => ∃ a c, e = .returned (.slice a y.l.length c) ∧ Nums w1 a y.l.length y.l ∧ (∀ b o, a = some ⟨b, o, none⟩ → W.heap.size ≤ b) ∧ Below W.heap.size W w1 ∧ ActW w1 A y := by
  have f' := h.fr.trans (f.mono h.fr.size)
  refine (ints_copy W' y.la _ y.lc y.l (hy.l.below f') hy.ln (by omega)).mono ?_
  rintro e w1 ⟨a, c, rfl, h1, h2, h3⟩
  have f1 := f.trans (h3.mono f.size)
  exact ⟨a, c, rfl, h1, fun b o e => Nat.le_trans f.size (h2 b o e), f1, hA.below f1⟩
theorem WS.put1 (S : Words RD WR) {w : World} {x : Nat} {bs cs : List UInt8} {v : Value} {n A : Nat} {W w1 : World} (h : WS WR w x bs cs v n A W) (y : WAct) (hy : WOk w y) (hl : y.l.length ≤ 60) (hbs : bs.length ≤ 100000) (hA : ActW W A y) (f : Below W.heap.size W w1) (a : Option Addr) (c : Nat) (hz : Nums w1 a y.l.length y.l) (hfar : ∀ b o, a = some ⟨b, o, none⟩ → W.heap.size ≤ b) (sg : Bool) (fn : Nat)
    (hc : ∀ G, WR G w1 w.heap.size x bs → (∀ b o, a = some ⟨b, o, none⟩ → 0 < y.l.length → ¬ G b) → Calls Try.prog fn #[.pointer (some ⟨x, 0, none⟩), .int .i64 y.k, .slice a y.l.length c] w1 fun e w' => e = .returned (.int .i64 (putW bs y.k sg y.l).2) ∧ (∃ F', WR F' w' w.heap.size x (putW bs y.k sg y.l).1 ∧ ∀ j, F' j → G j ∨ w1.heap.size ≤ j) ∧ Fr6 G w.heap.size w1 w') :
    Calls Try.prog fn #[.pointer (some ⟨x, 0, none⟩), .int .i64 y.k, .slice a y.l.length c] w1 fun e w2 => e = .returned (.int .i64 (putW bs y.k sg y.l).2) ∧ ActW w2 A y ∧ WS WR w x (putW bs y.k sg y.l).1 cs v n A w2 := by
  obtain ⟨G, h1, h2, h3⟩ := h.wr
  have hA1 := lt_of_heap (hA.below f)
  refine (hc G (S.wbelow h1 f) (fun b o e _ hG => ?_)).mono ?_
  · have h4 := hfar b o e
    have h5 := (S.wlt h1 b hG).2
    omega
  · rintro e w2 ⟨rfl, ⟨G', g2, hG'⟩, f2⟩
    exact ⟨rfl, (f2.other A hA1 h3).trans (hA.below f), (h.below S f).step S hA1 G (S.wbelow h1 f) h2 h3 f2 G' g2 hG'⟩
theorem WS.put2 (S : Words RD WR) {w : World} {x : Nat} {bs cs : List UInt8} {a : Option Addr} {n c A : Nat} {W : World} (h : WS WR w x bs cs (.slice a n c) n A W) (y : WAct) (hy : WOk w y) (hl : y.l.length ≤ 60) (hn : n ≤ 100000) (sg : Bool) (hbs : bs = (putW cs y.k sg y.l).1) :
    Calls Try.prog 23 #[.slice a n c, .int .i64 y.k, .bool sg, .slice y.la y.l.length y.lc] W fun e w' => ∃ a' n' c', e = .returned (.tuple #[.slice a' n' c', .int .i64 (putW cs y.k sg y.l).2]) ∧ WS WR w x bs bs (.slice a' n' c') n' A w' := by
  have hlen := h.len
  refine (hPut_any W a n c cs (arg_of_own hlen h.own) y.k hy.k sg y.la _ y.lc y.l (hy.l.below h.fr) hy.lb (by omega)).mono ?_
  rintro e w' ⟨a', n', c', rfl, h1, h2, f⟩
  refine ⟨a', n', c', rfl, ?_⟩
  by_cases h0 : (putW cs y.k sg y.l).2 = 0
  · have ho := h1 h0
    rw [← hbs] at ho
    exact h.moved S f ho
  · obtain ⟨rfl, rfl, rfl⟩ := h2 h0
    have e : bs = cs := by
      rw [hbs]
      unfold putW at h0 ⊢
      split
      · rename_i hc
        rw [if_pos hc] at h0
        exact absurd rfl h0
      · rfl
    subst e
    exact h.below S f
theorem WS.bytes1 (S : Words RD WR) {w : World} {x : Nat} {bs cs : List UInt8} {v : Value} {n A : Nat} {W : World} (h : WS WR w x bs cs v n A W) (y : WAct) (hy : WOk w y) (hl : y.b.length ≤ 500) (hbs : bs.length ≤ 100000) (hA : ActW W A y) :
    Calls Try.prog 8 #[.slice y.ba y.b.length y.bc] W fun e w1 => ∃ a c, e = .returned (.slice a y.b.length c) ∧ Calls Try.prog 25 #[.pointer (some ⟨x, 0, none⟩), .slice a y.b.length c] w1 fun e w2 => e = .returned (.int .i64 0) ∧ ActW w2 A y ∧ WS WR w x (bs ++ y.b) cs v n A w2 := by
  obtain ⟨G, h1, h2, h3⟩ := h.wr
  refine (bytes_copy (hy.b.below h.fr) (by omega)).mono ?_
  rintro e w1 ⟨v1, rfl, o1, f1⟩
  obtain ⟨a1, c1, rfl, _⟩ := own_form o1
  refine ⟨a1, c1, rfl, ?_⟩
  have hA1 := lt_of_heap (hA.below f1)
  refine (S.wbytes G w1 w.heap.size x bs a1 _ c1 y.b (S.wbelow h1 f1) (arg_of_own rfl o1) (fun b o e _ hG => ?_) (by omega)).mono ?_
  · have h4 := (o1.lt b (by rw [e]; rfl)).1
    have h5 := (S.wlt h1 b hG).2
    omega
  · rintro e w2 ⟨rfl, ⟨G', g2, hG'⟩, f2⟩
    exact ⟨rfl, (f2.other A hA1 h3).trans (hA.below f1), (h.below S f1).step S hA1 G (S.wbelow h1 f1) h2 h3 f2 G' g2 hG'⟩
theorem WS.patch1 (S : Words RD WR) {w : World} {x : Nat} {bs cs : List UInt8} {v : Value} {n A : Nat} {W : World} (h : WS WR w x bs cs v n A W) (y : WAct) (hy : WOk w y) (hbs : bs.length ≤ 100000) (hA : ActW W A y) :
    Calls Try.prog 26 #[.pointer (some ⟨x, 0, none⟩), .int .i64 y.n, .int .i64 y.k, .int .i64 y.m] W fun e w2 => e = .returned (.int .i64 (patchW bs y.n y.k y.m).2) ∧ ActW w2 A y ∧ WS WR w x (patchW bs y.n y.k y.m).1 cs v n A w2 ∧
      Calls Try.prog 27 #[.int .i64 y.k, .int .i64 y.m, .bool false] w2 fun e w3 => ∃ a m c, e = .returned (.tuple #[.slice a m c, .bool (decide (fitsW y.k y.m false))]) ∧ (fitsW y.k y.m false → m = y.k.toNat ∧ w3.ownsRow w2.heap.size 5 1 (.slice a m c) m (bv (bytesW y.k y.m))) ∧ ActW w3 A y ∧ WS WR w x (patchW bs y.n y.k y.m).1 cs v n A w3 := by
  obtain ⟨G, h1, h2, h3⟩ := h.wr
  have hA1 := lt_of_heap hA
  refine (S.wpatch G W w.heap.size x bs y.n y.k y.m h1 (by omega) hy.n hy.k hy.m).mono ?_
  rintro e w2 ⟨rfl, ⟨G', g2, hG'⟩, f2⟩
  have hA2 : ActW w2 A y := (f2.other A hA1 h3).trans hA
  have h4 := h.step S hA1 G h1 h2 h3 f2 G' g2 hG'
  refine ⟨rfl, hA2, h4, ?_⟩
  refine (hBytes_any w2 y.k y.m hy.k hy.m false).mono ?_
  rintro e w3 ⟨a, m, c, rfl, h5, f3⟩
  exact ⟨a, m, c, rfl, h5, hA2.below f3, h4.below S f3⟩
end

end Go.Proofs.Ytkmcpedhcdgnoaa
