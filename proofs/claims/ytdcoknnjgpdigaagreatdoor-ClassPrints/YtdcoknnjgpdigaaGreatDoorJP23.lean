/- Joined: CrH GrA GrB GrC. -/
import Derived.Test.YtdcoknnjgpdigaaGreatDoorJP22
import Derived.Test.YtdcoknnjgpdigaaGreatDoorJP12
import Derived.Test.YtdcoknnjgpdigaaGreatDoorJP11
import Derived.Test.YtdcoknnjgpdigaaGreatDoorJP8
import Derived.Test.YtdcoknnjgpdigaaGreatDoorJP13

/- The landed class: its reader: lists that grow while it reads; wide. -/
namespace Go.Proofs.YtdcoknnjgpdigaaGreatDoor
open Go.RowKit
set_option linter.unusedVariables false
set_option maxRecDepth 100000

/-- So many, one behind the other. -/
def manyR {α : Type} (one : List UInt8 → Option (α × List UInt8)) : Nat → List UInt8 → Option (List α × List UInt8)
  | 0, s => some ([], s)
  | n + 1, s => (one s).bind fun x => (manyR one n x.2).bind fun r => some (x.1 :: r.1, r.2)
def listR {α : Type} (one : List UInt8 → Option (α × List UInt8)) (s : List UInt8) : Option (List α × List UInt8) := (uR 2 s).bind fun k => manyR one k.1.toNat k.2
/-- What stands between two rounds. -/
def Mid {α : Type} (one : List UInt8 → Option (α × List UInt8)) (bs : List UInt8) (N : Nat) (en : Bool) (s : List UInt8) (xs : List α) (j : Nat) (ej : Bool) : Prop :=
  (en = true → ej = true) ∧ (en = false → ∀ vs r, manyR one N s = some (vs, r) → ej = false ∧ ∃ vs', vs = xs ++ vs' ∧ manyR one (N - xs.length) (bs.drop j) = some (vs', r))
theorem Mid.next {α : Type} {one : List UInt8 → Option (α × List UInt8)} {bs : List UInt8} {N : Nat} {en : Bool} {s : List UInt8} {xs : List α} {j : Nat} {ej : Bool} (h : Mid one bs N en s xs j ej) (hl : xs.length < N) {x : α} {j1 : Nat} {e1 : Bool} (g : Got one bs j ej x j1 e1) : Mid one bs N en s (xs ++ [x]) j1 e1 := by
  refine ⟨fun e => g.1 (h.1 e), fun e vs r hr => ?_⟩
  obtain ⟨h1, vs', rfl, h2⟩ := h.2 e vs r hr
  obtain ⟨m, hm⟩ : ∃ m, N - xs.length = m + 1 := ⟨N - xs.length - 1, by omega⟩
  rw [hm] at h2
  unfold manyR at h2
  obtain ⟨k1, h3⟩ := got_bind g h1 h2
  obtain ⟨⟨q, s3⟩, hq, h3⟩ := Option.bind_eq_some_iff.1 h3
  obtain ⟨rfl, rfl⟩ := got_end h3
  refine ⟨k1, q, by simp, ?_⟩
  rw [List.length_append, List.length_cons, List.length_nil, show N - (xs.length + (0 + 1)) = m by omega]
  exact hq
theorem Mid.done {α : Type} {one : List UInt8 → Option (α × List UInt8)} {bs : List UInt8} {N : Nat} {en0 en : Bool} {i i1 : Nat} {n : Int} {xs : List α} {j : Nat} {ej : Bool} (g : Got (uR 2) bs i en0 n i1 en) (hn : n = N) (h : Mid one bs N en (bs.drop i1) xs j ej) (hx : ¬ xs.length < N ∨ ej = true) : Got (listR one) bs i en0 xs j ej := by
  refine ⟨fun e => h.1 (g.1 e), fun e v0 r hr => ?_⟩
  unfold listR at hr
  obtain ⟨k1, hr⟩ := got_bind g e hr
  simp only at hr
  rw [hn, Int.toNat_natCast] at hr
  obtain ⟨h1, vs', rfl, h2⟩ := h.2 k1 _ _ hr
  rcases hx with hx | hx
  · rw [show N - xs.length = 0 by omega] at h2
    obtain ⟨rfl, rfl⟩ := got_end h2
    exact ⟨by simp, h1, rfl⟩
  · rw [h1] at hx
    cases hx
theorem orw_block {α : Type} {cs : α → List Value} {e : TypeId} {sz : Nat} {w : World} {base : Nat} {v : Value} {l : List α} (h : Orw cs e sz w base v l) {k : Nat} (hk : v.ownBlock = some k) : ∃ Z, w.heap[k]? = some (.cells Z e (0, 0)) := by
  rcases h.2 with ⟨hv, _⟩ | ⟨g, cap, cur, hv, hb, hh, r⟩
  · rw [hv] at hk; cases hk
  · rw [hv] at hk
    injection hk with hk
    subst hk
    exact ⟨cur, hh⟩
theorem grown_other {w w' : World} {b : Option Nat} (g : w.grownBy w' b) {k : Nat} (hk : k < w.heap.size) (hb : b ≠ some k) : w'.heap[k]? = w.heap[k]? := g.block k hk (fun e => hb e.symm)
theorem Rd8.grown {C : Cr} {i : Nat} {en : Bool} {W W' : World} (h : Rd8 C i en W) {α : Type} {cs : α → List Value} {e : TypeId} {sz base : Nat} {v : Value} {l : List α} (o : Orw cs e sz W base v l) (g : W.grownBy W' v.ownBlock) (he : ¬ (e = 127 ∨ e = 159 ∨ e = 5 ∨ e = 55)) : Rd8 C i en W' :=
  h.keep fun k Z T hk hT => grown_other g (lt_of_heap hk) fun e1 => by
    obtain ⟨Y, h1⟩ := orw_block o e1
    rw [h1] at hk
    injection hk with hk
    injection hk with _ hk
    subst hk
    exact he hT
theorem FX.grown {C : Cr} {w W W' : World} (f : FX C w W) (hB : C.B ≤ w.heap.size) {α : Type} {cs : α → List Value} {e : TypeId} {sz : Nat} {v : Value} {l : List α} (o : Orw cs e sz W w.heap.size v l) (g : W.grownBy W' v.ownBlock) : FX C w W' :=
  ⟨Below.grown f.below g (Nat.le_trans hB f.size) (fun k hk => Nat.le_trans hB (o.lt k hk).1), fun k hk hn => (grown_other g (Nat.lt_of_lt_of_le hk f.size) fun e1 => by have := (o.lt k e1).1; omega).trans (f.other k hk hn)⟩
end Go.Proofs.YtdcoknnjgpdigaaGreatDoor

/- The document's class: its writer: u, must, utf, class. -/
namespace Go.Proofs.YtdcoknnjgpdigaaGreatDoor
open Go.RowKit
set_option linter.unusedVariables false
set_option maxRecDepth 100000

/-- The writer at block X, its bytes in a row of its own from B on; p the pool's place. -/
structure Gw (X B : Nat) (p : Sl) (b : List UInt8) (bad : Bool) (W : World) : Prop where
  hX : B ≤ X
  blk : ∃ a c, W.heap[X]? = some (.cells #[.slice p.a p.n p.c, .slice a b.length c, .bool bad] 65 (0, 0)) ∧ Orw byc 5 1 W B (.slice a b.length c) b
theorem Gw.X_lt {X B : Nat} {p : Sl} {b : List UInt8} {bad : Bool} {W : World} (h : Gw X B p b bad W) : X < W.heap.size := by
  obtain ⟨a, c, h1, _⟩ := h.blk
  exact lt_of_heap h1
theorem Gw.hB {X B : Nat} {p : Sl} {b : List UInt8} {bad : Bool} {W : World} (h : Gw X B p b bad W) : B ≤ W.heap.size := Nat.le_trans h.hX (Nat.le_of_lt h.X_lt)
theorem Gw.keep {X B : Nat} {p : Sl} {b : List UInt8} {bad : Bool} {W W' : World} (h : Gw X B p b bad W) (f : ∀ (k : Nat) (Z : Array Value) (T : TypeId), B ≤ k → W.heap[k]? = some (.cells Z T (0, 0)) → T = 65 ∨ T = 5 → W'.heap[k]? = W.heap[k]?) : Gw X B p b bad W' := by
  obtain ⟨a, c, h1, h2⟩ := h.blk
  exact ⟨h.hX, a, c, (f _ _ _ h.hX h1 (.inl rfl)).trans h1, h2.keep fun k Z hk hZ => f k Z _ hk hZ (.inr rfl)⟩
theorem Gw.below {X B : Nat} {p : Sl} {b : List UInt8} {bad : Bool} {W W' : World} (h : Gw X B p b bad W) (f : Below W.heap.size W W') : Gw X B p b bad W' := h.keep fun k Z T _ hk _ => f.block k (lt_of_heap hk)
theorem Gw.mark {X B : Nat} {p : Sl} {b : List UInt8} {bad : Bool} {W : World} (h : Gw X B p b bad W) (bad' : Bool) : Gw X B p b bad' (W.setCell ⟨X, 2, none⟩ (.bool bad')) := by
  obtain ⟨a, c, h1, h2⟩ := h.blk
  refine ⟨h.hX, a, c, heap_setCell_same W X 2 _ _ _ h1, h2.keep fun k Z _ hk => Below.heap_setCell _ _ _ _ fun e => ?_⟩
  simp only at e
  subst e
  rw [h1] at hk
  injection hk with hk
  injection hk with _ hk
  cases hk
/-- Only the writer's own block, of those that were. -/
def GF (X B : Nat) (w w' : World) : Prop := Kx X w w' ∧ Below B w w'
theorem GF.trans {X B : Nat} {w w1 w2 : World} (f : GF X B w w1) (g : GF X B w1 w2) : GF X B w w2 := ⟨f.1.trans f.2.size g.1, f.2.trans g.2⟩
theorem GF.of_below {X B : Nat} {w w' : World} (f : Below w.heap.size w w') (hB : B ≤ w.heap.size) : GF X B w w' := ⟨Kx.of_below f, f.mono hB⟩
theorem GF.size {X B : Nat} {w w' : World} (f : GF X B w w') : w.heap.size ≤ w'.heap.size := f.2.size
theorem GF.mark {X B : Nat} {p : Sl} {b : List UInt8} {bad : Bool} {W : World} (h : Gw X B p b bad W) (o : Nat) (v : Value) : GF X B W (W.setCell ⟨X, o, none⟩ v) := ⟨fun k _ hk => Below.heap_setCell _ _ _ _ hk, (Below.refl _ _).setCell (p := ⟨X, o, none⟩) h.hX _⟩

set_option maxHeartbeats 800000 in
theorem gwmust_any (X B : Nat) (p : Sl) (b : List UInt8) (bad : Bool) (w : World) (h : Gw X B p b bad w) (is_ : Bool) :
    Calls Tryz.prog 29 #[.pointer (some ⟨X, 0, none⟩), .bool is_] w fun e w' => e = .returned (.tuple #[]) ∧ w' = w.setCell ⟨X, 2, none⟩ (.bool (bad || !is_)) := by
  obtain ⟨a, c, h1, h2⟩ := h.blk
  have c2 : w.cell? ⟨X, 2, none⟩ = some (.bool bad) := bx_cell h1 2 _ rfl
  have z2 := bx_thaw h1 2
  clear h h1 h2
  cases bad with
  | true =>
    go_enter Tryz.func29, Tryz.ntmps29
    go_wp2
    go_end0
    exact ⟨rfl, rfl⟩
  | false =>
    cases is_ with
    | true =>
      go_enter Tryz.func29, Tryz.ntmps29
      go_wp2
      go_end0
      exact ⟨rfl, rfl⟩
    | false =>
      go_enter Tryz.func29, Tryz.ntmps29
      go_wp2
      go_end0
      exact ⟨rfl, rfl⟩
def u_post (X B : Nat) (p : Sl) (w : World) (G : List UInt8 × Int) (bad : Bool) (e : Ending) (w' : World) : Prop := e = .returned (.tuple #[]) ∧ Gw X B p G.1 (bad || decide (G.2 ≠ 0)) w' ∧ GF X B w w'
set_option maxHeartbeats 800000 in
theorem gwu_any (X B : Nat) (p : Sl) (b : List UInt8) (bad : Bool) (w : World) (h : Gw X B p b bad w) (k : Int) (hk : 0 ≤ k ∧ k ≤ 8) (la : Option Addr) (ln lc : Nat) (zs : List Int) (hl : Nums w la ln zs) (hz : ∀ z ∈ zs, -9223372036854775808 ≤ z ∧ z ≤ 9223372036854775807) (hs : b.length + 8 * ln ≤ 140737488351232) :
    Calls Tryz.prog 27 #[.pointer (some ⟨X, 0, none⟩), .int .i64 k, .slice la ln lc] w (u_post X B p w (putW b k false zs) bad) := by
  obtain ⟨a, c, h1, h2⟩ := h.blk
  have h2' : w.ownsRow B 5 1 (.slice a b.length c) b.length (bv b) := by rw [← byc_bv]; exact h2
  have HU := hide (hPut_any w a b.length c b (arg_of_own rfl h2') k (by omega) false la ln lc zs hl hz hs)
  have c1 : w.cell? ⟨X, 1, none⟩ = some (.slice a b.length c) := bx_cell h1 1 _ rfl
  have hput : (putW b k false zs).2 ≠ 0 → (putW b k false zs).1 = b := by
    unfold putW
    split
    · intro e; exact absurd rfl e
    · intro _; rfl
  generalize putW b k false zs = G at *
  obtain ⟨b', er⟩ := G
  simp only at hput
  have hB := h.hB
  have HH := hide (And.intro h (And.intro h1 h2))
  clear h h1 h2 h2' hl hz
  go_enter Tryz.func27, Tryz.ntmps27
  go_wp2_with fail
  refine (unhide HU).mono ?_
  rintro e w1 ⟨a', n', c', rfl, p1, p2, f1⟩
  obtain ⟨h, h1, h2⟩ := unhide HH
  simp only at p1 p2
  have h1' : w1.heap[X]? = some (.cells #[.slice p.a p.n p.c, .slice a b.length c, .bool bad] 65 (0, 0)) := (f1.block _ (lt_of_heap h1)).trans h1
  have hrow : n' = b'.length ∧ Orw byc 5 1 w1 B (.slice a' n' c') b' := by
    by_cases he : er = 0
    · have o := p1 he
      have hn' : b'.length = n' := by
        have := congrArg List.length (rfl : bv b' = bv b')
        rcases o.2 with ⟨hv, hn0⟩ | ⟨g, cap, cur, hv, _, hh, _, _, _, htk⟩
        · have := o.1
          simpa [bv] using this
        · have := o.1
          simpa [bv] using this
      refine ⟨hn'.symm, Orw.base (orw_bv o hn') hB⟩
    · obtain ⟨rfl, rfl, rfl⟩ := p2 he
      have := hput he
      subst this
      exact ⟨rfl, h2.below fun k hk => f1.block k (h2.lt k hk).2⟩
  obtain ⟨rfl, hrow⟩ := hrow
  have d1 : w1.cell? ⟨X, 1, none⟩ = some (.slice a b.length c) := bx_cell h1' 1 _ rfl
  have d2 : w1.cell? ⟨X, 2, none⟩ = some (.bool bad) := bx_cell h1' 2 _ rfl
  have z1 := bx_thaw h1' 1
  have z2 := bx_thaw h1' 2
  have hfin : ∀ bad', Gw X B p b' bad' ((w1.setCell ⟨X, 1, none⟩ (.slice a' b'.length c')).setCell ⟨X, 2, none⟩ (.bool bad')) ∧ GF X B w ((w1.setCell ⟨X, 1, none⟩ (.slice a' b'.length c')).setCell ⟨X, 2, none⟩ (.bool bad')) := fun bad' => by
    have hs : ∀ k, k ≠ X → ((w1.setCell ⟨X, 1, none⟩ (.slice a' b'.length c')).setCell ⟨X, 2, none⟩ (.bool bad')).heap[k]? = w1.heap[k]? := fun k hk => (Below.heap_setCell _ _ _ _ hk).trans (Below.heap_setCell _ _ _ _ hk)
    refine ⟨⟨h.hX, a', c', heap_setCell_same _ _ 2 _ _ _ (heap_setCell_same _ _ 1 _ _ _ h1'), hrow.keep fun k Z _ hk => hs k fun e => ?_⟩, fun k hk hx => (hs k hx).trans (f1.block k hk), ((f1.mono hB).setCell (p := ⟨X, 1, none⟩) h.hX _).setCell (p := ⟨X, 2, none⟩) h.hX _⟩
    subst e
    rw [h1'] at hk
    injection hk with hk
    injection hk with _ hk
    cases hk
  have HF := hide hfin
  clear h h1 h2 h1' hrow p1 p2 f1 HH HU hput c1 hfin
  cases bad with
  | true =>
    go_wp2
    go_end0
    exact ⟨rfl, by simpa using (unhide HF true).1, (unhide HF true).2⟩
  | false =>
    by_cases he : er = 0
    · have he' : (er != 0) = false := by simp [he]
      go_wp2
      go_end0
      exact ⟨rfl, by simpa [he] using (unhide HF false).1, (unhide HF false).2⟩
    · have he' : (er != 0) = true := by simp [he]
      go_wp2
      go_end0
      exact ⟨rfl, by simpa [he] using (unhide HF true).1, (unhide HF true).2⟩
end Go.Proofs.YtdcoknnjgpdigaaGreatDoor

/- The document's class: its writer: utf, class. -/
namespace Go.Proofs.YtdcoknnjgpdigaaGreatDoor
open Go.RowKit
set_option linter.unusedVariables false
set_option maxRecDepth 100000

/-- The pool that came in, ahead of all that is written. -/
structure Gx (wc : World) (B : Nat) (p : Sl) (l : List Ent) : Prop where
  ein : EIn wc p.a p.n p.c l
  hB : wc.heap.size ≤ B
  ck : checkP l = true
theorem Gx.es {wc W : World} {B : Nat} {p : Sl} {l : List Ent} (h : Gx wc B p l) (f : Below wc.heap.size wc W) : Es W p.a p.n l := h.ein.arg.es.below f
theorem Gx.few {wc : World} {B : Nat} {p : Sl} {l : List Ent} (h : Gx wc B p l) : l.length ≤ 1024 ∧ l.length = p.n := ⟨((checkP_all l).1 h.ck).1.2, h.ein.arg.es.1⟩
theorem GF.came {wc w w' : World} {X B : Nat} (f : Below wc.heap.size wc w) (g : GF X B w w') (hB : wc.heap.size ≤ B) : Below wc.heap.size wc w' := f.trans (g.2.mono hB)
theorem put_one {b : List UInt8} {k n : Int} (h : fitsW k n false) : putW b k false [n] = (b ++ bytesW k n, 0) := by
  unfold putW
  rw [if_pos ⟨h.1, fun m hm => by simp at hm; subst hm; exact h⟩]
  simp
theorem utfN_lt {l : List Ent} {s : List UInt8} (h : l.length ≤ 1024) : utfN l s ≤ 1024 := by
  by_cases h0 : utfN l s = 0
  · omega
  · have := (utfN_some h0).2.1
    omega
theorem clsN_lt {l : List Ent} {s : List UInt8} (h : l.length ≤ 1024) : clsN l s ≤ 1024 := by
  by_cases h0 : clsN l s = 0
  · omega
  · have := (clsN_some h0).2.1
    omega
def w_post (X B : Nat) (p : Sl) (w : World) (b' : List UInt8) (bad' : Bool) (e : Ending) (w' : World) : Prop := e = .returned (.tuple #[]) ∧ Gw X B p b' bad' w' ∧ GF X B w w'
set_option maxHeartbeats 800000 in
theorem gwutf_any (wc : World) (X B : Nat) (p : Sl) (l : List Ent) (G : Gx wc B p l) (b : List UInt8) (bad : Bool) (w : World) (hW : Below wc.heap.size wc w) (h : Gw X B p b bad w) (s : List UInt8) (hs : b.length ≤ 100000000) :
    Calls Tryz.prog 30 #[.pointer (some ⟨X, 0, none⟩), .string ⟨s.toArray⟩] w (w_post X B p w (b ++ bytesW 2 (utfN l s : Int)) (bad || decide (utfN l s = 0))) := by
  have hfew := G.few
  have hn := utfN_lt (s := s) hfew.1
  have HU : Hid (∀ W, Below wc.heap.size wc W → Calls Tryz.prog 69 #[.slice p.a p.n p.c, .string ⟨s.toArray⟩] W fun e w' => e = .returned (.int .i64 (utfN l s : Int)) ∧ Below W.heap.size W w') := hide fun W f => gutf_any W p.a p.n p.c l (G.es f) s (by omega)
  generalize utfN l s = n at *
  rcases Nat.eq_zero_or_pos n with h0 | h0
  · subst h0
    obtain ⟨a, c, h1, h2⟩ := h.blk
    have c0 : w.cell? ⟨X, 0, none⟩ = some (.slice p.a p.n p.c) := bx_cell h1 0 _ rfl
    have hB := h.hB
    have H := hide (And.intro h (And.intro hW G))
    have HU1 := hide (unhide HU w hW)
    clear h hW h1 h2 G
    go_enter Tryz.func30, Tryz.ntmps30
    go_wp2_with fail
    refine (unhide HU1).mono ?_
    rintro e w1 ⟨rfl, f1⟩
    clear HU1
    obtain ⟨h, hW, G⟩ := unhide H
    have h1 := h.below f1
    have hW1 := hW.trans (f1.mono hW.size)
    have HM := hide (gwmust_any X B p b bad w1 h1 false)
    have H1 := hide (And.intro h1 (And.intro hW1 f1))
    clear h hW G h1 hW1 f1 c0
    go_wp2_with fail
    refine (unhide HM).mono ?_
    rintro e w2 ⟨rfl, e2⟩
    obtain ⟨h, hW, G⟩ := unhide H
    obtain ⟨h1, hW1, f1⟩ := unhide H1
    have h2 := h1.mark (bad || !false)
    have g2 := GF.mark h1 2 (.bool (bad || !false))
    rw [← e2] at h2 g2
    have hb : (bad || !false) = (bad || decide (0 = 0)) := by simp
    rw [hb] at h2
    obtain ⟨bd, hbd⟩ : ∃ bd, (bad || decide (0 = 0)) = bd := ⟨_, rfl⟩
    rw [hbd] at h2
    have HBD := hide hbd
    clear hbd
    have hW2 : Below wc.heap.size wc w2 := hW1.trans (g2.2.mono G.hB)
    obtain ⟨a2, c2, q2, _⟩ := h2.blk
    have d0 : w2.cell? ⟨X, 0, none⟩ = some (.slice p.a p.n p.c) := bx_cell q2 0 _ rfl
    have HU2 := hide (unhide HU w2 hW2)
    have H2 := hide (And.intro h2 (And.intro (GF.trans (GF.of_below (X := X) f1 hB) g2) hW2))
    clear h hW G h1 hW1 f1 h2 g2 hW2 q2 hb e2 HM H1
    go_wp2_with fail
    refine (unhide HU2).mono ?_
    rintro e w3 ⟨rfl, f3⟩
    obtain ⟨h2, g2, hW2⟩ := unhide H2
    have h3 := h2.below f3
    have b4 : Below w3.heap.size w3 (w3.alloc (.cells #[.int .i64 0] 3)) := (Below.refl _ _).alloc (Nat.le_refl _) _
    have hN : Nums (w3.alloc (.cells #[.int .i64 0] 3)) (some ⟨w3.heap.size, 0, none⟩) 1 [0] := ⟨rfl, .inr ⟨_, 0, rfl, fun j z hz => by rw [Nat.zero_add]; exact ints_at w3 [0] _ rfl j z hz⟩⟩
    have HP := hide (gwu_any X B p b bd _ (h3.below b4) 2 (by omega) (some ⟨w3.heap.size, 0, none⟩) 1 1 [0] hN (fun z hz => by simp at hz; subst hz; omega) (by omega))
    rw [put_one ⟨by unfold wide; omega, by first | (simp; done) | (simp; omega)⟩] at HP
    have g4 : GF X B w (w3.alloc (.cells #[.int .i64 0] 3)) := (g2.trans (GF.of_below f3 h2.hB)).trans (GF.of_below b4 h3.hB)
    have HG4 := hide g4
    clear h2 g2 hW2 h3 b4 hN g4 f3 d0 HU2 H2
    go_wp2_with fail
    refine (unhide HP).mono ?_
    rintro e w5 ⟨rfl, h5, g5⟩
    simp only [ne_eq, not_true_eq_false, decide_false, Bool.or_false] at h5
    have HF := hide (And.intro h5 (GF.trans (unhide HG4) g5))
    clear h5 g5
    go_wp2
    go_end0
    refine ⟨rfl, ?_, (unhide HF).2⟩
    have e := (unhide HF).1
    rw [← unhide HBD] at e
    exact e
  · have hpos : (0 : Int) < (n : Int) := by omega
    have hpos' : ¬ n = 0 := by omega
    obtain ⟨a, c, h1, h2⟩ := h.blk
    have c0 : w.cell? ⟨X, 0, none⟩ = some (.slice p.a p.n p.c) := bx_cell h1 0 _ rfl
    have hB := h.hB
    have H := hide (And.intro h (And.intro hW G))
    have HU1 := hide (unhide HU w hW)
    clear h hW h1 h2 G
    go_enter Tryz.func30, Tryz.ntmps30
    go_wp2_with fail
    refine (unhide HU1).mono ?_
    rintro e w1 ⟨rfl, f1⟩
    clear HU1
    obtain ⟨h, hW, G⟩ := unhide H
    have h1 := h.below f1
    have hW1 := hW.trans (f1.mono hW.size)
    have HM := hide (gwmust_any X B p b bad w1 h1 true)
    have H1 := hide (And.intro h1 (And.intro hW1 f1))
    clear h hW G h1 hW1 f1 c0
    go_wp2_with fail
    refine (unhide HM).mono ?_
    rintro e w2 ⟨rfl, e2⟩
    obtain ⟨h, hW, G⟩ := unhide H
    obtain ⟨h1, hW1, f1⟩ := unhide H1
    have h2 := h1.mark (bad || !true)
    have g2 := GF.mark h1 2 (.bool (bad || !true))
    rw [← e2] at h2 g2
    have hb : (bad || !true) = (bad || decide (n = 0)) := by simp; omega
    rw [hb] at h2
    obtain ⟨bd, hbd⟩ : ∃ bd, (bad || decide (n = 0)) = bd := ⟨_, rfl⟩
    rw [hbd] at h2
    have HBD := hide hbd
    clear hbd
    have hW2 : Below wc.heap.size wc w2 := hW1.trans (g2.2.mono G.hB)
    obtain ⟨a2, c2, q2, _⟩ := h2.blk
    have d0 : w2.cell? ⟨X, 0, none⟩ = some (.slice p.a p.n p.c) := bx_cell q2 0 _ rfl
    have HU2 := hide (unhide HU w2 hW2)
    have H2 := hide (And.intro h2 (And.intro (GF.trans (GF.of_below (X := X) f1 hB) g2) hW2))
    clear h hW G h1 hW1 f1 h2 g2 hW2 q2 hb e2 HM H1
    go_wp2_with fail
    refine (unhide HU2).mono ?_
    rintro e w3 ⟨rfl, f3⟩
    obtain ⟨h2, g2, hW2⟩ := unhide H2
    have h3 := h2.below f3
    have b4 : Below w3.heap.size w3 (w3.alloc (.cells #[.int .i64 (n : Int)] 3)) := (Below.refl _ _).alloc (Nat.le_refl _) _
    have hN : Nums (w3.alloc (.cells #[.int .i64 (n : Int)] 3)) (some ⟨w3.heap.size, 0, none⟩) 1 [(n : Int)] := ⟨rfl, .inr ⟨_, 0, rfl, fun j z hz => by rw [Nat.zero_add]; exact ints_at w3 [(n : Int)] _ rfl j z hz⟩⟩
    have HP := hide (gwu_any X B p b bd _ (h3.below b4) 2 (by omega) (some ⟨w3.heap.size, 0, none⟩) 1 1 [(n : Int)] hN (fun z hz => by simp at hz; subst hz; omega) (by omega))
    rw [put_one ⟨by unfold wide; omega, by first | (simp; done) | (simp; omega)⟩] at HP
    have g4 : GF X B w (w3.alloc (.cells #[.int .i64 (n : Int)] 3)) := (g2.trans (GF.of_below f3 h2.hB)).trans (GF.of_below b4 h3.hB)
    have HG4 := hide g4
    clear h2 g2 hW2 h3 b4 hN g4 f3 d0 HU2 H2
    go_wp2_with fail
    refine (unhide HP).mono ?_
    rintro e w5 ⟨rfl, h5, g5⟩
    simp only [ne_eq, not_true_eq_false, decide_false, Bool.or_false] at h5
    have HF := hide (And.intro h5 (GF.trans (unhide HG4) g5))
    clear h5 g5
    go_wp2
    go_end0
    refine ⟨rfl, ?_, (unhide HF).2⟩
    have e := (unhide HF).1
    rw [← unhide HBD] at e
    exact e
set_option maxHeartbeats 800000 in
theorem gwclass_any (wc : World) (X B : Nat) (p : Sl) (l : List Ent) (G : Gx wc B p l) (b : List UInt8) (bad : Bool) (w : World) (hW : Below wc.heap.size wc w) (h : Gw X B p b bad w) (s : List UInt8) (hs : b.length ≤ 100000000) :
    Calls Tryz.prog 28 #[.pointer (some ⟨X, 0, none⟩), .string ⟨s.toArray⟩] w (w_post X B p w (b ++ bytesW 2 (clsN l s : Int)) (bad || decide (clsN l s = 0))) := by
  have hfew := G.few
  have hn := clsN_lt (s := s) hfew.1
  have HU : Hid (∀ W, Below wc.heap.size wc W → Calls Tryz.prog 68 #[.slice p.a p.n p.c, .string ⟨s.toArray⟩] W fun e w' => e = .returned (.int .i64 (clsN l s : Int)) ∧ Below W.heap.size W w') := hide fun W f => gclass_any W p.a p.n p.c l (G.es f) G.ck s (by omega)
  generalize clsN l s = n at *
  rcases Nat.eq_zero_or_pos n with h0 | h0
  · subst h0
    obtain ⟨a, c, h1, h2⟩ := h.blk
    have c0 : w.cell? ⟨X, 0, none⟩ = some (.slice p.a p.n p.c) := bx_cell h1 0 _ rfl
    have hB := h.hB
    have H := hide (And.intro h (And.intro hW G))
    have HU1 := hide (unhide HU w hW)
    clear h hW h1 h2 G
    go_enter Tryz.func28, Tryz.ntmps28
    go_wp2_with fail
    refine (unhide HU1).mono ?_
    rintro e w1 ⟨rfl, f1⟩
    clear HU1
    obtain ⟨h, hW, G⟩ := unhide H
    have h1 := h.below f1
    have hW1 := hW.trans (f1.mono hW.size)
    have HM := hide (gwmust_any X B p b bad w1 h1 false)
    have H1 := hide (And.intro h1 (And.intro hW1 f1))
    clear h hW G h1 hW1 f1 c0
    go_wp2_with fail
    refine (unhide HM).mono ?_
    rintro e w2 ⟨rfl, e2⟩
    obtain ⟨h, hW, G⟩ := unhide H
    obtain ⟨h1, hW1, f1⟩ := unhide H1
    have h2 := h1.mark (bad || !false)
    have g2 := GF.mark h1 2 (.bool (bad || !false))
    rw [← e2] at h2 g2
    have hb : (bad || !false) = (bad || decide (0 = 0)) := by simp
    rw [hb] at h2
    obtain ⟨bd, hbd⟩ : ∃ bd, (bad || decide (0 = 0)) = bd := ⟨_, rfl⟩
    rw [hbd] at h2
    have HBD := hide hbd
    clear hbd
    have hW2 : Below wc.heap.size wc w2 := hW1.trans (g2.2.mono G.hB)
    obtain ⟨a2, c2, q2, _⟩ := h2.blk
    have d0 : w2.cell? ⟨X, 0, none⟩ = some (.slice p.a p.n p.c) := bx_cell q2 0 _ rfl
    have HU2 := hide (unhide HU w2 hW2)
    have H2 := hide (And.intro h2 (And.intro (GF.trans (GF.of_below (X := X) f1 hB) g2) hW2))
    clear h hW G h1 hW1 f1 h2 g2 hW2 q2 hb e2 HM H1
    go_wp2_with fail
    refine (unhide HU2).mono ?_
    rintro e w3 ⟨rfl, f3⟩
    obtain ⟨h2, g2, hW2⟩ := unhide H2
    have h3 := h2.below f3
    have b4 : Below w3.heap.size w3 (w3.alloc (.cells #[.int .i64 0] 3)) := (Below.refl _ _).alloc (Nat.le_refl _) _
    have hN : Nums (w3.alloc (.cells #[.int .i64 0] 3)) (some ⟨w3.heap.size, 0, none⟩) 1 [0] := ⟨rfl, .inr ⟨_, 0, rfl, fun j z hz => by rw [Nat.zero_add]; exact ints_at w3 [0] _ rfl j z hz⟩⟩
    have HP := hide (gwu_any X B p b bd _ (h3.below b4) 2 (by omega) (some ⟨w3.heap.size, 0, none⟩) 1 1 [0] hN (fun z hz => by simp at hz; subst hz; omega) (by omega))
    rw [put_one ⟨by unfold wide; omega, by first | (simp; done) | (simp; omega)⟩] at HP
    have g4 : GF X B w (w3.alloc (.cells #[.int .i64 0] 3)) := (g2.trans (GF.of_below f3 h2.hB)).trans (GF.of_below b4 h3.hB)
    have HG4 := hide g4
    clear h2 g2 hW2 h3 b4 hN g4 f3 d0 HU2 H2
    go_wp2_with fail
    refine (unhide HP).mono ?_
    rintro e w5 ⟨rfl, h5, g5⟩
    simp only [ne_eq, not_true_eq_false, decide_false, Bool.or_false] at h5
    have HF := hide (And.intro h5 (GF.trans (unhide HG4) g5))
    clear h5 g5
    go_wp2
    go_end0
    refine ⟨rfl, ?_, (unhide HF).2⟩
    have e := (unhide HF).1
    rw [← unhide HBD] at e
    exact e
  · have hpos : (0 : Int) < (n : Int) := by omega
    have hpos' : ¬ n = 0 := by omega
    obtain ⟨a, c, h1, h2⟩ := h.blk
    have c0 : w.cell? ⟨X, 0, none⟩ = some (.slice p.a p.n p.c) := bx_cell h1 0 _ rfl
    have hB := h.hB
    have H := hide (And.intro h (And.intro hW G))
    have HU1 := hide (unhide HU w hW)
    clear h hW h1 h2 G
    go_enter Tryz.func28, Tryz.ntmps28
    go_wp2_with fail
    refine (unhide HU1).mono ?_
    rintro e w1 ⟨rfl, f1⟩
    clear HU1
    obtain ⟨h, hW, G⟩ := unhide H
    have h1 := h.below f1
    have hW1 := hW.trans (f1.mono hW.size)
    have HM := hide (gwmust_any X B p b bad w1 h1 true)
    have H1 := hide (And.intro h1 (And.intro hW1 f1))
    clear h hW G h1 hW1 f1 c0
    go_wp2_with fail
    refine (unhide HM).mono ?_
    rintro e w2 ⟨rfl, e2⟩
    obtain ⟨h, hW, G⟩ := unhide H
    obtain ⟨h1, hW1, f1⟩ := unhide H1
    have h2 := h1.mark (bad || !true)
    have g2 := GF.mark h1 2 (.bool (bad || !true))
    rw [← e2] at h2 g2
    have hb : (bad || !true) = (bad || decide (n = 0)) := by simp; omega
    rw [hb] at h2
    obtain ⟨bd, hbd⟩ : ∃ bd, (bad || decide (n = 0)) = bd := ⟨_, rfl⟩
    rw [hbd] at h2
    have HBD := hide hbd
    clear hbd
    have hW2 : Below wc.heap.size wc w2 := hW1.trans (g2.2.mono G.hB)
    obtain ⟨a2, c2, q2, _⟩ := h2.blk
    have d0 : w2.cell? ⟨X, 0, none⟩ = some (.slice p.a p.n p.c) := bx_cell q2 0 _ rfl
    have HU2 := hide (unhide HU w2 hW2)
    have H2 := hide (And.intro h2 (And.intro (GF.trans (GF.of_below (X := X) f1 hB) g2) hW2))
    clear h hW G h1 hW1 f1 h2 g2 hW2 q2 hb e2 HM H1
    go_wp2_with fail
    refine (unhide HU2).mono ?_
    rintro e w3 ⟨rfl, f3⟩
    obtain ⟨h2, g2, hW2⟩ := unhide H2
    have h3 := h2.below f3
    have b4 : Below w3.heap.size w3 (w3.alloc (.cells #[.int .i64 (n : Int)] 3)) := (Below.refl _ _).alloc (Nat.le_refl _) _
    have hN : Nums (w3.alloc (.cells #[.int .i64 (n : Int)] 3)) (some ⟨w3.heap.size, 0, none⟩) 1 [(n : Int)] := ⟨rfl, .inr ⟨_, 0, rfl, fun j z hz => by rw [Nat.zero_add]; exact ints_at w3 [(n : Int)] _ rfl j z hz⟩⟩
    have HP := hide (gwu_any X B p b bd _ (h3.below b4) 2 (by omega) (some ⟨w3.heap.size, 0, none⟩) 1 1 [(n : Int)] hN (fun z hz => by simp at hz; subst hz; omega) (by omega))
    rw [put_one ⟨by unfold wide; omega, by first | (simp; done) | (simp; omega)⟩] at HP
    have g4 : GF X B w (w3.alloc (.cells #[.int .i64 (n : Int)] 3)) := (g2.trans (GF.of_below f3 h2.hB)).trans (GF.of_below b4 h3.hB)
    have HG4 := hide g4
    clear h2 g2 hW2 h3 b4 hN g4 f3 d0 HU2 H2
    go_wp2_with fail
    refine (unhide HP).mono ?_
    rintro e w5 ⟨rfl, h5, g5⟩
    simp only [ne_eq, not_true_eq_false, decide_false, Bool.or_false] at h5
    have HF := hide (And.intro h5 (GF.trans (unhide HG4) g5))
    clear h5 g5
    go_wp2
    go_end0
    refine ⟨rfl, ?_, (unhide HF).2⟩
    have e := (unhide HF).1
    rw [← unhide HBD] at e
    exact e
end Go.Proofs.YtdcoknnjgpdigaaGreatDoor

/- The document's class: its writer: what types is made of. -/
namespace Go.Proofs.YtdcoknnjgpdigaaGreatDoor
open Go.RowKit
set_option linter.unusedVariables false
set_option maxRecDepth 100000

theorem rkB10 : Rk byc 5 29 1 1 (.int .u8 0) := ⟨fun _ => rfl, fun x u hu => by simp [byc] at hu; subst hu; rfl, by decide, by kernel_rfl, rfl, Tryz.underlying29⟩
theorem stepB_append8 {w : World} {ops : Array Oper} {o : Oper} {a : Act} {K : Act → World → Prop} {Q : Exit → Act → World → Prop} {E : Prop} (hgd : o.guard = none) (s x : Operand) (ho : o.op = .call { callee := .builtin .append, args := #[s, x], argTypes := #[29, 29] })
    (base : Nat) (v : Value) (xs : List UInt8) (hs : a.eval s = v) (hown : Orw byc 5 1 w base v xs) (src : Option Addr) (m c : Nat) (ys : List UInt8) (hx : a.eval x = .slice src m c) (hb : Ls 1 byc w src m ys) (hnil : src = none → m = 0 ∧ c = 0)
    (hsm : (xs.length + m) * 1 ≤ 140737488355328) (hmx : xs.length + m ≤ 140737488355328) (hbase : base ≤ w.heap.size) (h : ∀ v' w', Orw byc 5 1 w' base v' (xs ++ ys) → w.grownBy w' v.ownBlock → K (a.put o.dst v') w') :
    if Region.wanted o (yielded ops a.tmps) = true then Oper.wp Tryz.prog o a w K Q else E := by
  rw [if_pos (by simp [Region.wanted, hgd])]
  exact wpR_append rkB10 s x ho base v xs hs hown src m c ys hx hb hnil hsm hmx hbase h
set_option maxHeartbeats 800000 in
theorem gwmust_at (X : Nat) (u v : Value) (bad : Bool) (w : World) (h1 : w.heap[X]? = some (.cells #[u, v, .bool bad] 65 (0, 0))) (is_ : Bool) :
    Calls Tryz.prog 29 #[.pointer (some ⟨X, 0, none⟩), .bool is_] w fun e w' => e = .returned (.tuple #[]) ∧ w' = w.setCell ⟨X, 2, none⟩ (.bool (bad || !is_)) := by
  have c2 : w.cell? ⟨X, 2, none⟩ = some (.bool bad) := bx_cell h1 2 _ rfl
  have z2 := bx_thaw h1 2
  clear h1
  cases bad with
  | true =>
    go_enter Tryz.func29, Tryz.ntmps29
    go_wp2
    go_end0
    exact ⟨rfl, rfl⟩
  | false =>
    cases is_ with
    | true =>
      go_enter Tryz.func29, Tryz.ntmps29
      go_wp2
      go_end0
      exact ⟨rfl, rfl⟩
    | false =>
      go_enter Tryz.func29, Tryz.ntmps29
      go_wp2
      go_end0
      exact ⟨rfl, rfl⟩
/-- Two writers: the outer one waits but for its mark. -/
structure TI (wc wi : World) (X B Y : Nat) (p : Sl) (a : Option Addr) (n c : Nat) (W : World) (ob : Bool) (ib : List UInt8) (ibad : Bool) : Prop where
  hBX : B ≤ X
  hXY : X < Y
  hcB : wc.heap.size ≤ B
  ox : W.heap[X]? = some (.cells #[.slice p.a p.n p.c, .slice a n c, .bool ob] 65 (0, 0))
  oth : ∀ k, k < Y → k ≠ X → W.heap[k]? = wi.heap[k]?
  inn : Gw Y Y p ib ibad W
  bel : Below B wi W
  came : Below wc.heap.size wc W
section
variable {wc wi : World} {X B Y : Nat} {p : Sl} {a : Option Addr} {n c : Nat} {W W' : World} {ob : Bool} {ib : List UInt8} {ibad : Bool}
theorem TI.on (h : TI wc wi X B Y p a n c W ob ib ibad) (f : Below W.heap.size W W') : TI wc wi X B Y p a n c W' ob ib ibad := by
  have h1 := h.inn.hB
  have h2 := h.hBX
  have h3 := h.hXY
  exact ⟨h.hBX, h.hXY, h.hcB, (f.block _ (lt_of_heap h.ox)).trans h.ox, fun k hk hx => (f.block k (Nat.lt_of_lt_of_le hk h.inn.hB)).trans (h.oth k hk hx), h.inn.below f, h.bel.trans (f.mono (by omega)), h.came.trans (f.mono h.came.size)⟩
theorem TI.must (h : TI wc wi X B Y p a n c W ob ib ibad) (v : Bool) : TI wc wi X B Y p a n c (W.setCell ⟨X, 2, none⟩ (.bool v)) v ib ibad := by
  have h1 := h.hBX
  have h2 := h.hcB
  have h3 := h.hXY
  have hs : ∀ k, k ≠ X → (W.setCell ⟨X, 2, none⟩ (.bool v)).heap[k]? = W.heap[k]? := fun k hk => Below.heap_setCell _ _ _ _ hk
  exact ⟨h.hBX, h.hXY, h.hcB, heap_setCell_same W X 2 _ _ _ h.ox, fun k hk hx => (hs k hx).trans (h.oth k hk hx), h.inn.keep fun k Z T hk _ _ => hs k (by omega), h.bel.setCell (p := ⟨X, 2, none⟩) h.hBX _, h.came.setCell (p := ⟨X, 2, none⟩) (Nat.le_trans h.hcB h.hBX) _⟩
theorem TI.inner (h : TI wc wi X B Y p a n c W ob ib ibad) {ib' : List UInt8} {ibad' : Bool} (g : Gw Y Y p ib' ibad' W') (f : GF Y Y W W') : TI wc wi X B Y p a n c W' ob ib' ibad' := by
  have h1 := h.hBX
  have h2 := h.hcB
  have h3 := h.hXY
  exact ⟨h.hBX, h.hXY, h.hcB, (f.2.block _ h.hXY).trans h.ox, fun k hk hx => (f.2.block k hk).trans (h.oth k hk hx), g, h.bel.trans (f.2.mono (by omega)), h.came.trans (f.2.mono (by omega))⟩
end
theorem goT_cons {l : List Ent} {loc : Bool} {t : Ty} {r : List Ty} (h : ¬ (loc = true ∧ t.kind = 2)) : goT l loc (t :: r) = (okT l t && goT l loc r) ∧ toldT loc (t :: r) = t :: toldT loc r := by
  cases r with
  | nil =>
    unfold goT toldT
    refine ⟨?_, rfl⟩
    have : (!(loc && decide (t.kind = 2))) = true := by
      cases loc with
      | false => rfl
      | true =>
        have : ¬ t.kind = 2 := fun e => h ⟨rfl, e⟩
        simp [this]
    rw [this, Bool.and_true]
  | cons z r =>
    constructor
    · rw [goT, if_neg h]
    · rw [toldT, if_neg h]
/-- What the rounds of types keep. -/
def TV (l : List Ent) (loc : Bool) (ts : List Ty) (bad0 : Bool) (k m : Nat) (ob : Bool) (ib : List UInt8) (ibad : Bool) : Prop :=
  (bad0 || !goT l loc ts) = (ob || ibad || !goT l loc (ts.drop k)) ∧ (ob = false → ibad = false → ib ++ (toldT loc (ts.drop k)).flatMap (tyB l) = (toldT loc ts).flatMap (tyB l) ∧ m + (toldT loc (ts.drop k)).length = (toldT loc ts).length) ∧ ib.length ≤ 3 * k ∧ m ≤ k
theorem TV.start (l : List Ent) (loc : Bool) (ts : List Ty) (bad0 : Bool) : TV l loc ts bad0 0 0 bad0 [] false := ⟨by simp, fun _ _ => ⟨rfl, by simp⟩, by simp, by omega⟩
theorem TV.one {l : List Ent} {loc : Bool} {ts : List Ty} {bad0 : Bool} {k m : Nat} {ob : Bool} {ib : List UInt8} {ibad : Bool} {t : Ty} (h : TV l loc ts bad0 k m ob ib ibad) (ht : ts[k]? = some t) (hn : ¬ (loc = true ∧ t.kind = 2)) {ob' ibad' : Bool} {ib' : List UInt8} (h1 : (ob' || ibad') = (ob || ibad || !okT l t)) (h2 : okT l t = true → ib' = ib ++ tyB l t) (h3 : ib'.length ≤ ib.length + 3) : TV l loc ts bad0 (k + 1) (m + 1) ob' ib' ibad' := by
  have hd : ts.drop k = t :: ts.drop (k + 1) := by
    obtain ⟨hl, e⟩ := List.getElem?_eq_some_iff.1 ht
    rw [List.drop_eq_getElem_cons hl, e]
  obtain ⟨e1, e2⟩ := goT_cons (l := l) (r := ts.drop (k + 1)) hn
  obtain ⟨a1, a2, a3, a4⟩ := h
  rw [hd, e1] at a1
  rw [hd, e2] at a2
  refine ⟨?_, fun b1 b2 => ?_, by omega, by omega⟩
  · rw [a1, h1]
    cases ob <;> cases ibad <;> cases okT l t <;> simp
  · rw [b1, b2] at h1
    have h4 : ob = false ∧ ibad = false ∧ okT l t = true := by
      revert h1
      cases ob <;> cases ibad <;> cases okT l t <;> simp
    obtain ⟨c1, c2⟩ := a2 h4.1 h4.2.1
    rw [h2 h4.2.2]
    rw [List.flatMap_cons] at c1
    refine ⟨by rw [List.append_assoc]; exact c1, ?_⟩
    simp only [List.length_cons] at c2
    omega
theorem TV.two {l : List Ent} {loc : Bool} {ts : List Ty} {bad0 : Bool} {k m : Nat} {ob : Bool} {ib : List UInt8} {ibad : Bool} {t : Ty} (h : TV l loc ts bad0 k m ob ib ibad) (ht : ts[k]? = some t) (hn : loc = true ∧ t.kind = 2) {ob' ibad' : Bool} {ib' : List UInt8} (h1 : (ob' || ibad') = (ob || ibad || !okT l t || !decide (ts[k + 1]? = some ⟨0, []⟩))) (h2 : okT l t = true → ib' = ib ++ tyB l t) (h3 : ib'.length ≤ ib.length + 3) : TV l loc ts bad0 (k + 2) (m + 1) ob' ib' ibad' := by
  have hd : ts.drop k = t :: ts.drop (k + 1) := by
    obtain ⟨hl, e⟩ := List.getElem?_eq_some_iff.1 ht
    rw [List.drop_eq_getElem_cons hl, e]
  obtain ⟨a1, a2, a3, a4⟩ := h
  cases hz : ts[k + 1]? with
  | none =>
    have he : ts.drop (k + 1) = [] := List.drop_eq_nil_of_le (by simpa using hz)
    have he2 : ts.drop (k + 2) = [] := List.drop_eq_nil_of_le (by have : ts.length ≤ k + 1 := by simpa using hz
                                                                  omega)
    have hg : goT l loc [t] = false := by
      unfold goT
      rw [hn.1, hn.2]
      simp
    rw [hz] at h1
    refine ⟨?_, fun b1 b2 => ?_, by omega, by omega⟩
    · rw [a1, hd, he, hg, h1, he2]
      cases ob <;> cases ibad <;> cases okT l t <;> simp
    · rw [b1, b2] at h1
      exfalso
      revert h1
      cases ob <;> cases ibad <;> cases okT l t <;> simp
  | some z =>
    have hd2 : ts.drop (k + 1) = z :: ts.drop (k + 2) := by
      obtain ⟨hl, e⟩ := List.getElem?_eq_some_iff.1 hz
      rw [List.drop_eq_getElem_cons hl, e]
    have hg : goT l loc (t :: z :: ts.drop (k + 2)) = (okT l t && (decide (z = ⟨0, []⟩) && goT l loc (ts.drop (k + 2)))) := by rw [goT, if_pos hn]
    have hg2 : toldT loc (t :: z :: ts.drop (k + 2)) = t :: toldT loc (ts.drop (k + 2)) := by rw [toldT, if_pos hn]
    have hzz : decide (ts[k + 1]? = some ⟨0, []⟩) = decide (z = ⟨0, []⟩) := by rw [hz]; simp
    rw [hzz] at h1
    rw [hd, hd2, hg] at a1
    rw [hd, hd2, hg2] at a2
    refine ⟨?_, fun b1 b2 => ?_, by omega, by omega⟩
    · rw [a1, h1]
      cases ob <;> cases ibad <;> cases okT l t <;> cases decide (z = ⟨0, []⟩) <;> simp
    · rw [b1, b2] at h1
      have h4 : ob = false ∧ ibad = false ∧ okT l t = true := by
        revert h1
        cases ob <;> cases ibad <;> cases okT l t <;> simp
      obtain ⟨c1, c2⟩ := a2 h4.1 h4.2.1
      rw [h2 h4.2.2]
      rw [List.flatMap_cons] at c1
      refine ⟨by rw [List.append_assoc]; exact c1, ?_⟩
      simp only [List.length_cons] at c2
      omega
end Go.Proofs.YtdcoknnjgpdigaaGreatDoor
