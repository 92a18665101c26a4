/- Joined: ShB ShC ShE ShD. -/
import Derived.Test.YthenefjoidckkaaGreatDoorJS1
import Derived.Test.YthenefjoidckkaaGreatDoorJS2
import Derived.Test.YthenefjoidckkaaGreatDoorJP
import Derived.Test.YthenefjoidckkaaGreatDoorJB
import Derived.Maps.AppendAt

/- Layer 11: a work in memory; push. -/
namespace Go.Proofs.YthenefjoidckkaaGreatDoor
open Go.RowKit
set_option linter.unusedVariables false
set_option maxRecDepth 100000

/-- An append, with where it lies. -/
theorem wpR_append_at {α : Type} {cs : α → List Value} {e t : TypeId} {sz by_ : Nat} {z : Value} (R : Rk cs e t sz by_ z) {w : World} {o : Oper} {a : Act} {K : Act → World → Prop} {Q : Exit → Act → World → Prop} (s x : Operand) (ho : o.op = .call { callee := .builtin .append, args := #[s, x], argTypes := #[t, t] })
    (base : Nat) (v : Value) (xs : List α) (hs : a.eval s = v) (hown : Orw cs e sz w base v xs) (src : Option Addr) (m c : Nat) (ys : List α) (hx : a.eval x = .slice src m c) (hb : Ls sz cs w src m ys) (hnil : src = none → m = 0 ∧ c = 0)
    (hsm : (xs.length + m) * by_ ≤ 140737488355328) (hmx : xs.length + m ≤ 140737488355328) (hbase : base ≤ w.heap.size) (h : ∀ v' w', Orw cs e sz w' base v' (xs ++ ys) → w.grownBy w' v.ownBlock → (v'.ownBlock = v.ownBlock ∨ v'.ownBlock = some w.heap.size) → K (a.put o.dst v') w') : o.wp Tryz.prog a w K Q := by
  obtain ⟨i0, hi, hz0, hz1, hz2⟩ := info_parts R.info
  cases src with
  | none =>
    obtain ⟨rfl, rfl⟩ := hnil rfl
    have h0 : ys = [] := List.eq_nil_of_length_eq_zero hb.1
    subst h0
    have hrun := run_append_owned_none (P := Tryz.prog) (w := w) base t o.type e i0 sz R.sl hi v xs.length (xs.flatMap cs) hown
    unfold Oper.wp
    simp [execOp, ho, resolve, invoke, builtin, hs, hx, hrun, Result.andThen]
    exact h v w (by rw [List.append_nil]; exact hown) ⟨rfl, rfl, rfl, Nat.le_refl _, fun _ _ _ => rfl⟩ (.inl rfl)
  | some ad =>
    have hsrc : ∀ j u, (ys.flatMap cs)[j]? = some u → w.cell? (ad.add j) = some u := by
      rcases hb.2 with h0 | ⟨b, o, e1, _, hE⟩
      · have : ys = [] := List.eq_nil_of_length_eq_zero (by rw [hb.1]; exact h0)
        subst this
        intro j u hu
        simp at hu
      · intro j u hu
        injection e1 with e1
        subst e1
        obtain ⟨k, y, q, h1, h2, rfl⟩ := flatR_of R.len R.pos ys j u hu
        have := hE k y h1 q u h2
        rw [Addr.add_mid, ← Nat.add_assoc]
        exact this
    obtain ⟨v', w', hrun, h1, h2, _, h4⟩ := run_append_own_at (P := Tryz.prog) w base t o.type e i0 z sz by_ R.sl hi hz0 hz1 hz2 R.zero R.pos v xs.length (xs.flatMap cs) hown ad m c (ys.flatMap cs) (by rw [flatR_len R.len, hb.1]) hsrc (fun u hu => by
      obtain ⟨y, _, hy⟩ := List.mem_flatMap.1 hu
      exact R.one y u hy) (by unfold maxLen; omega) hsm hbase
    unfold Oper.wp
    simp [execOp, ho, resolve, invoke, builtin, hs, hx, hrun, Result.andThen]
    refine h v' w' ?_ h2 h4
    unfold Orw
    rw [List.length_append, hb.1, List.flatMap_append]
    exact h1
theorem listR_append_at {α : Type} {cs : α → List Value} {e t : TypeId} {sz by_ : Nat} {z : Value} (R : Rk cs e t sz by_ z) {w : World} {ops : Array Oper} {rest : List Oper} {o : Oper} {a : Act} {Q : Exit → Act → World → Prop} (hgd : o.guard = none) (s x : Operand) (ho : o.op = .call { callee := .builtin .append, args := #[s, x], argTypes := #[t, t] })
    (base : Nat) (v : Value) (xs : List α) (hs : a.eval s = v) (hown : Orw cs e sz w base v xs) (src : Option Addr) (m c : Nat) (ys : List α) (hx : a.eval x = .slice src m c) (hb : Ls sz cs w src m ys) (hnil : src = none → m = 0 ∧ c = 0)
    (hsm : (xs.length + m) * by_ ≤ 140737488355328) (hmx : xs.length + m ≤ 140737488355328) (hbase : base ≤ w.heap.size) (h : ∀ v' w', Orw cs e sz w' base v' (xs ++ ys) → w.grownBy w' v.ownBlock → (v'.ownBlock = v.ownBlock ∨ v'.ownBlock = some w.heap.size) → wpList Tryz.prog ops Q rest (a.put o.dst v') w') : wpList Tryz.prog ops Q (o :: rest) a w :=
  wpList_plain hgd fun K hK => wpR_append_at R s x ho base v xs hs hown src m c ys hx hb hnil hsm hmx hbase (fun v' w' h1 h2 h3 => hK _ _ (h v' w' h1 h2 h3))
/-- A row, cut. -/
theorem Orw.cut {α : Type} {cs : α → List Value} {e : TypeId} {sz : Nat} (hl : ∀ x, (cs x).length = sz) {w : World} {base : Nat} {a : Option Addr} {n c : Nat} {l : List α} (h : Orw cs e sz w base (.slice a n c) l) {k : Nat} (hk : k ≤ n) (h0 : a ≠ none) : Orw cs e sz w base (.slice a k c) (l.take k) := by
  have hln : l.length = n := by obtain ⟨a', c', e', _⟩ := h.form; injection e' with _ e2 _; exact e2.symm
  rcases h.2 with ⟨h1, _⟩ | ⟨g, cap, cur, h1, h2, h3, h4, h5, h6, h7⟩
  · injection h1 with h1 _ _
    exact absurd h1 h0
  · injection h1 with h1 _ h8
    have hf : ((l.take k).flatMap cs) = (l.flatMap cs).take (k * sz) := by
      have h9 : l.flatMap cs = (l.take k).flatMap cs ++ (l.drop k).flatMap cs := by rw [← List.flatMap_append, List.take_append_drop]
      have h10 : ((l.take k).flatMap cs).length = k * sz := by rw [flatR_len hl, List.length_take, Nat.min_eq_left (by omega)]
      rw [h9, ← h10, List.take_left']
      rfl
    have hkl : (l.take k).length = k := by rw [List.length_take]; omega
    refine ⟨?_, .inr ⟨g, cap, cur, by rw [hkl, h1, h8], h2, h3, by rw [hkl]; omega, h5, h6, ?_⟩⟩
    · rw [flatR_len hl]
    · rw [hkl, hf, ← h7, List.take_take, Nat.min_eq_left]
      rw [hln]
      exact Nat.mul_le_mul_right _ hk
/-- Two rows in blocks of their own. -/
def Dis (u v : Sl) : Prop := ∀ k, u.v.ownBlock = some k → v.v.ownBlock ≠ some k
theorem Dis.symm {u v : Sl} (h : Dis u v) : Dis v u := fun k h1 h2 => h k h2 h1
/-- What stays: its block, the blocks from w0's size on, the classes, the pool, what is answered, the instruction. -/
structure Wcx where
  X : Nat
  w0 : World
  ca : Option Addr
  cn : Nat
  cc : Nat
  pl : Sl
  p : Wpl
  at_ : Int
  B : Int
  cv : Sl
def wcells (C : Wcx) (ow to_ : Ty) (l s h a : Sl) : Array Value := #[.slice C.ca C.cn C.cc, .slice C.pl.a C.pl.n C.pl.c, .int .i64 C.p.bk.kind, .string ⟨C.p.bk.name.toArray⟩, .int .i64 C.at_, .int .i64 C.p.op, .int .i64 C.p.A, .int .i64 C.B, .slice C.cv.a C.cv.n C.cv.c, .slice l.a l.n l.c, .slice s.a s.n s.c, .slice h.a h.n h.c, .int .i64 ow.kind, .string ⟨ow.name.toArray⟩, .slice a.a a.n a.c, .int .i64 to_.kind, .string ⟨to_.name.toArray⟩]
structure Wk (C : Wcx) (x : Wst) (l s h a : Sl) (W : World) : Prop where
  blk : W.heap[C.X]? = some (.cells (wcells C x.ow x.to_ l s h a) 85 (0, 0))
  ol : Orw tyc 52 2 W C.w0.heap.size l.v x.lo
  os : Orw tyc 52 2 W C.w0.heap.size s.v x.st
  oh : Orw tyc 52 2 W C.w0.heap.size h.v x.ha
  oa : Orw tyc 52 2 W C.w0.heap.size a.v x.ar
  sl : Dis s l
  sh : Dis s h
  sa : Dis s a
  lh : Dis l h
  la : Dis l a
  ha : Dis h a
  bel : Below C.w0.heap.size C.w0 W
  hX : C.w0.heap.size ≤ C.X
structure WsOk (x : Wst) : Prop where
  st : ∀ t ∈ x.st, nmOk t
  lo : ∀ t ∈ x.lo, nmOk t
  ha : ∀ t ∈ x.ha, nmOk t
  ow : nmOk x.ow
  ar : ∀ t ∈ x.ar, nmOk t
  to_ : nmOk x.to_
/-- A work of this state. -/
def WK (C : Wcx) (x : Wst) (W : World) : Prop := WsOk x ∧ ∃ l s h a, Wk C x l s h a W
/-- All that is no row of types, and not the work, stays. -/
def KeepsW (C : Wcx) (W W' : World) : Prop := W.heap.size ≤ W'.heap.size ∧ ∀ (k : Nat) (Z : Array Value) (t : TypeId) fr, W.heap[k]? = some (.cells Z t fr) → k ≠ C.X → t ≠ 52 → W'.heap[k]? = some (.cells Z t fr)
theorem KeepsW.refl (C : Wcx) (W : World) : KeepsW C W W := ⟨Nat.le_refl _, fun _ _ _ _ h _ _ => h⟩
theorem KeepsW.trans {C : Wcx} {A B D : World} (h : KeepsW C A B) (g : KeepsW C B D) : KeepsW C A D := ⟨Nat.le_trans h.1 g.1, fun k Z t fr hk h1 h2 => g.2 k Z t fr (h.2 k Z t fr hk h1 h2) h1 h2⟩
theorem KeepsW.below {C : Wcx} {W W' : World} (f : Below W.heap.size W W') : KeepsW C W W' := ⟨f.size, fun k Z t fr hk _ _ => (f.block _ (lt_of_heap hk)).trans hk⟩
theorem KeepsW.setX (C : Wcx) (W : World) (i : Nat) (v : Value) : KeepsW C W (W.setCell ⟨C.X, i, none⟩ v) := ⟨by simp, fun k Z t fr hk h1 _ => (heap_setCell_other _ _ _ _ h1).trans hk⟩
theorem KeepsW.grown {C : Wcx} {W w' : World} {base : Nat} {v : Value} {l : List Ty} (o : Orw tyc 52 2 W base v l) (g : W.grownBy w' v.ownBlock) : KeepsW C W w' := ⟨g.size, fun k Z t fr hk _ h2 => (g.block k (lt_of_heap hk) fun ek => by
    obtain ⟨Y, fr', hY, _⟩ := orw_blk0 o ek.symm
    rw [hk] at hY
    injection hY with hY
    injection hY with _ hY
    exact h2 hY).trans hk⟩
theorem row_ne {α : Type} {cs : α → List Value} {e t : TypeId} {sz : Nat} {W : World} {base : Nat} {v : Value} {l : List α} (h : Orw cs e sz W base v l) {G : Nat} {X : Array Value} (hb : W.heap[G]? = some (.cells X t (0, 0))) (hne : e ≠ t) {k : Nat} (hk : v.ownBlock = some k) : k ≠ G := by
  intro hkG
  obtain ⟨Y, fr, hY, _⟩ := orw_blk0 h hk
  rw [hkG, hb] at hY
  injection hY with hY
  injection hY with _ hY
  exact hne hY.symm
section
variable {C : Wcx} {x : Wst} {l s h a : Sl} {W W' : World}
theorem Wk.below (k : Wk C x l s h a W) (f : Below W.heap.size W W') : Wk C x l s h a W' :=
  ⟨(f.block _ (lt_of_heap k.blk)).trans k.blk, k.ol.below fun j hj => f.block j (k.ol.lt j hj).2, k.os.below fun j hj => f.block j (k.os.lt j hj).2, k.oh.below fun j hj => f.block j (k.oh.lt j hj).2, k.oa.below fun j hj => f.block j (k.oa.lt j hj).2, k.sl, k.sh, k.sa, k.lh, k.la, k.ha, k.bel.trans (f.mono k.bel.size), k.hX⟩
theorem WK.below (k : WK C x W) (f : Below W.heap.size W W') : WK C x W' := by
  obtain ⟨ok, l, s, h, a, k⟩ := k
  exact ⟨ok, l, s, h, a, k.below f⟩
theorem Wk.cells (k : Wk C x l s h a W) : W.cell? ⟨C.X, 0, none⟩ = some (.slice C.ca C.cn C.cc) ∧ W.cell? ⟨C.X, 5, none⟩ = some (.int .i64 C.p.op) ∧ W.cell? ⟨C.X, 6, none⟩ = some (.int .i64 C.p.A) ∧ W.cell? ⟨C.X, 9, none⟩ = some (.slice l.a l.n l.c) ∧ W.cell? ⟨C.X, 10, none⟩ = some (.slice s.a s.n s.c) ∧ W.cell? ⟨C.X, 11, none⟩ = some (.slice h.a h.n h.c) ∧ ∀ q, W.frozen? ⟨C.X, q, none⟩ = false :=
  ⟨bx_cell k.blk 0 _ rfl, bx_cell k.blk 5 _ rfl, bx_cell k.blk 6 _ rfl, bx_cell k.blk 9 _ rfl, bx_cell k.blk 10 _ rfl, bx_cell k.blk 11 _ rfl, fun q => bx_thaw k.blk q⟩
/-- A row behind a store into the work. -/
theorem Wk.rowX (k : Wk C x l s h a W) {v : Value} {u : List Ty} {B : Nat} (o : Orw tyc 52 2 W B v u) (i : Nat) (y : Value) : Orw tyc 52 2 (W.setCell ⟨C.X, i, none⟩ y) B v u :=
  o.below fun j hj => heap_setCell_other _ _ _ _ (row_ne o k.blk (by decide) hj)
/-- The stack grows. -/
theorem Wk.push (k : Wk C x l s h a W) {ys : List Ty} {s' : Sl} {w' : World} (o : Orw tyc 52 2 w' C.w0.heap.size s'.v (x.st ++ ys)) (g : W.grownBy w' s.v.ownBlock) (hat : s'.v.ownBlock = s.v.ownBlock ∨ s'.v.ownBlock = some W.heap.size) :
    Wk C { x with st := x.st ++ ys } l s' h a (w'.setCell ⟨C.X, 10, none⟩ (.slice s'.a s'.n s'.c)) := by
  have hX := lt_of_heap k.blk
  have hb1 : w'.heap[C.X]? = W.heap[C.X]? := g.block _ hX (fun e => row_ne k.os k.blk (by decide) e.symm rfl)
  have hoth : ∀ {v : Sl} {u : List Ty}, Orw tyc 52 2 W C.w0.heap.size v.v u → Dis s v → Orw tyc 52 2 w' C.w0.heap.size v.v u := fun {v u} o1 d => o1.below fun j hj => g.block j (o1.lt j hj).2 (fun e => d j e.symm hj)
  have hX2 : ∀ {v : Value} {u : List Ty}, Orw tyc 52 2 w' C.w0.heap.size v u → Orw tyc 52 2 (w'.setCell ⟨C.X, 10, none⟩ (.slice s'.a s'.n s'.c)) C.w0.heap.size v u := fun {v u} o1 => o1.below fun j hj => heap_setCell_other _ _ _ _ (row_ne o1 (hb1.trans k.blk) (by decide) hj)
  have hd : ∀ {v : Sl} {u : List Ty}, Orw tyc 52 2 W C.w0.heap.size v.v u → Dis s v → Dis s' v := fun {v u} o1 d j h1 h2 => by
    rcases hat with e | e
    · exact d j (by rw [← e]; exact h1) h2
    · rw [e] at h1
      injection h1 with h1
      have := (o1.lt j h2).2
      omega
  refine ⟨heap_setCell_same w' _ 10 _ _ _ (hb1.trans k.blk), hX2 (hoth k.ol k.sl), hX2 o, hX2 (hoth k.oh k.sh), hX2 (hoth k.oa k.sa), hd k.ol k.sl, hd k.oh k.sh, hd k.oa k.sa, k.lh, k.la, k.ha, ?_, k.hX⟩
  exact (k.bel.grown g k.bel.size (fun j hj => (k.os.lt j hj).1)).setCell (p := ⟨C.X, 10, none⟩) k.hX _
/-- The hand grows. -/
theorem Wk.hand (k : Wk C x l s h a W) {ys : List Ty} {h' : Sl} {w' : World} (o : Orw tyc 52 2 w' C.w0.heap.size h'.v (x.ha ++ ys)) (g : W.grownBy w' h.v.ownBlock) (hat : h'.v.ownBlock = h.v.ownBlock ∨ h'.v.ownBlock = some W.heap.size) :
    Wk C { x with ha := x.ha ++ ys } l s h' a (w'.setCell ⟨C.X, 11, none⟩ (.slice h'.a h'.n h'.c)) := by
  have hX := lt_of_heap k.blk
  have hb1 : w'.heap[C.X]? = W.heap[C.X]? := g.block _ hX (fun e => row_ne k.oh k.blk (by decide) e.symm rfl)
  have hoth : ∀ {v : Sl} {u : List Ty}, Orw tyc 52 2 W C.w0.heap.size v.v u → Dis h v → Orw tyc 52 2 w' C.w0.heap.size v.v u := fun {v u} o1 d => o1.below fun j hj => g.block j (o1.lt j hj).2 (fun e => d j e.symm hj)
  have hX2 : ∀ {v : Value} {u : List Ty}, Orw tyc 52 2 w' C.w0.heap.size v u → Orw tyc 52 2 (w'.setCell ⟨C.X, 11, none⟩ (.slice h'.a h'.n h'.c)) C.w0.heap.size v u := fun {v u} o1 => o1.below fun j hj => heap_setCell_other _ _ _ _ (row_ne o1 (hb1.trans k.blk) (by decide) hj)
  have hd : ∀ {v : Sl} {u : List Ty}, Orw tyc 52 2 W C.w0.heap.size v.v u → Dis h v → Dis h' v := fun {v u} o1 d j h1 h2 => by
    rcases hat with e | e
    · exact d j (by rw [← e]; exact h1) h2
    · rw [e] at h1
      injection h1 with h1
      have := (o1.lt j h2).2
      omega
  refine ⟨heap_setCell_same w' _ 11 _ _ _ (hb1.trans k.blk), hX2 (hoth k.ol k.lh.symm), hX2 (hoth k.os k.sh.symm), hX2 o, hX2 (hoth k.oa k.ha), k.sl, (hd k.os k.sh.symm).symm, k.sa, (hd k.ol k.lh.symm).symm, k.la, hd k.oa k.ha, ?_, k.hX⟩
  exact (k.bel.grown g k.bel.size (fun j hj => (k.oh.lt j hj).1)).setCell (p := ⟨C.X, 11, none⟩) k.hX _
/-- The stack is cut. -/
theorem Wk.cut (k : Wk C x l s h a W) {n : Nat} (hn : n ≤ s.n) (h0 : s.a ≠ none) : Wk C { x with st := x.st.take n } l ⟨s.a, n, s.c⟩ h a (W.setCell ⟨C.X, 10, none⟩ (.slice s.a n s.c)) := by
  have e : (⟨s.a, n, s.c⟩ : Sl).v.ownBlock = s.v.ownBlock := by unfold Sl.v; cases s.a <;> rfl
  have dd : ∀ {v : Sl}, Dis s v → Dis ⟨s.a, n, s.c⟩ v := fun {v} d j h1 h2 => d j (by rw [← e]; exact h1) h2
  have o2 : Orw tyc 52 2 W C.w0.heap.size (⟨s.a, n, s.c⟩ : Sl).v (x.st.take n) := Orw.cut (cs := tyc) (e := 52) (sz := 2) (fun _ => rfl) (a := s.a) (n := s.n) (c := s.c) k.os hn h0
  exact ⟨heap_setCell_same W _ 10 _ _ _ k.blk, k.rowX k.ol 10 _, k.rowX o2 10 _, k.rowX k.oh 10 _, k.rowX k.oa 10 _, dd k.sl, dd k.sh, dd k.sa, k.lh, k.la, k.ha, k.bel.setCell (p := ⟨C.X, 10, none⟩) k.hX _, k.hX⟩
end
/-- What comes of a deed. -/
def Dp (C : Wcx) (W : World) : Option Wst → Ending → World → Prop
  | some x', e, w' => e = .returned (.bool true) ∧ WK C x' w' ∧ KeepsW C W w'
  | none, e, w' => e = .returned (.bool false) ∧ (∃ x', WK C x' w') ∧ KeepsW C W w'
set_option maxHeartbeats 400000 in
theorem w11push_k (C : Wcx) (x : Wst) (W : World) (ok : WsOk x) (l s h a : Sl) (k : Wk C x l s h a W) (sa : Option Addr) (sn sc : Nat) (ys : List Ty) (hy : Ls 2 tyc W sa sn ys) (hnil : sa = none → sn = 0 ∧ sc = 0) (hok : ∀ t ∈ ys, nmOk t) (hs : x.st.length + sn ≤ 1000000000) :
    Calls Tryz.prog 117 #[.pointer (some ⟨C.X, 0, none⟩), .slice sa sn sc] W fun e w' => e = .returned (.bool true) ∧ WsOk { x with st := x.st ++ ys } ∧ (∃ s', Wk C { x with st := x.st ++ ys } l s' h a w') ∧ KeepsW C W w' := by
  obtain ⟨ta, tn, tc⟩ := s
  obtain ⟨_, _, _, _, c10, _, t⟩ := k.cells
  simp only at c10
  have HO : Hid (Orw tyc 52 2 W C.w0.heap.size (.slice ta tn tc) x.st) := k.os
  have HY := hide hy
  have HK := hide k
  have HZ := hide k.bel.size
  have HOK := hide (And.intro ok hok)
  clear k hy ok hok
  go_enter Tryz.func117, Tryz.ntmps117
  go_wp2_with (at_builtin; refine listR_append_at rkT rfl _ _ rfl C.w0.heap.size _ x.st rfl (unhide HO) _ sn sc ys rfl (unhide HY) hnil (by omega) (by omega) (unhide HZ) ?_)
  intro v6 w6 o6 g6 at6
  obtain ⟨va, vc, hv, _⟩ := o6.form
  subst hv
  have HK6 := hide ((unhide HK).push (s' := ⟨va, (x.st ++ ys).length, vc⟩) o6 g6 at6)
  rw [List.length_append] at HK6
  have HKP : Hid (KeepsW C W w6) := KeepsW.grown (unhide HK).os g6
  have hb : w6.heap[C.X]? = _ := (g6.block _ (lt_of_heap (unhide HK).blk) (fun e => row_ne (unhide HK).os (unhide HK).blk (by decide) e.symm rfl)).trans (unhide HK).blk
  have c10' := bx_cell hb 10 _ rfl
  have t' := fun q => bx_thaw hb q
  have HOK' : Hid (WsOk { x with st := x.st ++ ys }) := ⟨fun t ht => by rcases List.mem_append.1 ht with h | h; exact (unhide HOK).1.st t h; exact (unhide HOK).2 t h, (unhide HOK).1.lo, (unhide HOK).1.ha, (unhide HOK).1.ow, (unhide HOK).1.ar, (unhide HOK).1.to_⟩
  clear o6 g6 at6 hb c10 t HOK
  go_wp2
  go_ret
  exact ⟨rfl, unhide HOK', ⟨_, unhide HK6⟩, (unhide HKP).trans (KeepsW.setX C _ _ _)⟩
theorem w11push_any (C : Wcx) (x : Wst) (W : World) (k : WK C x W) (sa : Option Addr) (sn sc : Nat) (ys : List Ty) (hy : Ls 2 tyc W sa sn ys) (hnil : sa = none → sn = 0 ∧ sc = 0) (hok : ∀ t ∈ ys, nmOk t) (hs : x.st.length + sn ≤ 1000000000) :
    Calls Tryz.prog 117 #[.pointer (some ⟨C.X, 0, none⟩), .slice sa sn sc] W fun e w' => Dp C W (pushD ys x) e w' := by
  obtain ⟨ok, l, s, h, a, k⟩ := k
  refine (w11push_k C x W ok l s h a k sa sn sc ys hy hnil hok hs).mono ?_
  rintro e w' ⟨h1, h2, ⟨s', h3⟩, h4⟩
  exact ⟨h1, ⟨h2, _, _, _, _, h3⟩, h4⟩
end Go.Proofs.YthenefjoidckkaaGreatDoor

/- Layer 11: a type is taken off the stack. -/
namespace Go.Proofs.YthenefjoidckkaaGreatDoor
open Go.RowKit
set_option linter.unusedVariables false
set_option maxRecDepth 100000

/-- What comes of taking: where it fails all is as it was. -/
def Tp (C : Wcx) (W : World) (x : Wst) (r : Option Wst) (e : Ending) (w' : World) : Prop := Dp C W r e w' ∧ (r = none → WK C x w')
theorem WK.len {C : Wcx} {x : Wst} {W : World} {l s h a : Sl} (k : Wk C x l s h a W) : l.n = x.lo.length ∧ s.n = x.st.length ∧ h.n = x.ha.length ∧ a.n = x.ar.length := by
  refine ⟨?_, ?_, ?_, ?_⟩
  · obtain ⟨_, _, e, _⟩ := k.ol.form; unfold Sl.v at e; injection e
  · obtain ⟨_, _, e, _⟩ := k.os.form; unfold Sl.v at e; injection e
  · obtain ⟨_, _, e, _⟩ := k.oh.form; unfold Sl.v at e; injection e
  · obtain ⟨_, _, e, _⟩ := k.oa.form; unfold Sl.v at e; injection e
theorem last_of {α : Type} {l : List α} {n : Nat} (h : l.length = n + 1) : ∃ t, l.getLast? = some t ∧ l[n]? = some t ∧ l.take n = l.dropLast ∧ t ∈ l := by
  have hl : n < l.length := by omega
  refine ⟨l[n], ?_, List.getElem?_eq_getElem hl, ?_, List.getElem_mem hl⟩
  · rw [List.getLast?_eq_getElem?, h]; exact List.getElem?_eq_getElem hl
  · rw [List.dropLast_eq_take, h]; rfl
set_option maxHeartbeats 400000 in
theorem w11take_any (C : Wcx) (x : Wst) (W : World) (k : WK C x W) (g : Nat) (lb : Array Value) (eg : ∀ args w, (callFunc g args).run Tryz.prog w = .ok (.enter g args) w) (fit : Ty → Bool)
    (HF : ∀ t, nmOk t → Calls Tryz.prog g (#[tyV t] ++ lb) W fun e w' => e = .returned (.bool (fit t)) ∧ Below W.heap.size W w') (hs : x.st.length + x.ha.length ≤ 1000000000) :
    Calls Tryz.prog 124 #[.pointer (some ⟨C.X, 0, none⟩), .func (.func g) #[] lb] W fun e w' => Tp C W x (takeD fit x) e w' := by
  have k0 := k
  obtain ⟨ok, l, ⟨ta, tn, tc⟩, ⟨ha, hn, hc⟩, a, k⟩ := k
  obtain ⟨_, e2, e3, _⟩ := WK.len k
  simp only at e2 e3
  obtain ⟨_, _, _, _, c10, c11, t⟩ := k.cells
  simp only at c10 c11
  cases tn with
  | zero =>
    have h1 : x.st = [] := List.eq_nil_of_length_eq_zero e2.symm
    have h2 : takeD fit x = none := by unfold takeD; rw [h1]; rfl
    rw [h2]
    have HK := hide k0
    clear k k0 ok e2 e3 h1 h2 HF eg
    go_enter Tryz.func124, Tryz.ntmps124
    go_wp2
    go_ret
    exact ⟨⟨rfl, ⟨_, unhide HK⟩, KeepsW.refl _ _⟩, fun _ => unhide HK⟩
  | succ n =>
    obtain ⟨T, hT1, hT2, hT3, hT4⟩ := last_of e2.symm
    have HP : Hid (takeD fit x = if fit T = true then some { x with st := x.st.dropLast, ha := x.ha ++ [T] } else none) := by show _ = _; unfold takeD; rw [hT1]
    have hL := k.os.ls rkT
    unfold Sl.v at hL
    obtain ⟨b, o, hta, hr⟩ := hL.row (w' := W) (Nat.succ_ne_zero n)
    subst hta
    have q0 := (hr (Below.refl _ _) n T hT2).zero
    have q1 := (hr (Below.refl _ _) n T hT2) 1 _ rfl
    have HFt := hide (HF T (ok.st T hT4))
    have HK0 := hide k0
    have HK := hide k
    have HOK := hide ok
    have HEG := hide eg
    clear k k0 ok hr hL HF eg
    unfold tyV at HFt
    generalize fit T = R at *
    have e4 : ((n : Int) + 1 - 1) = n := by omega
    have hnb : n ≤ 1000000000 := by omega
    have E2 := hide e2
    have E3 := hide e3
    have HS := hide hs
    have HT1 := hide hT1
    have HT2 := hide (And.intro hT3 hT4)
    clear e2 e3 hs hT1 hT2 hT3 hT4
    cases R with
    | false =>
      go_enter Tryz.func124, Tryz.ntmps124
      go_wp2_with fail
      rw [unhide HEG, Oper.upon_enter]
      refine (unhide HFt).mono ?_
      rintro e w1 ⟨rfl, f1⟩
      have F1 := hide f1
      clear HFt f1
      go_wp2
      go_ret
      rw [unhide HP]
      exact ⟨⟨rfl, ⟨x, (unhide HK0).below (unhide F1)⟩, KeepsW.below (unhide F1)⟩, fun _ => (unhide HK0).below (unhide F1)⟩
    | true =>
      go_enter Tryz.func124, Tryz.ntmps124
      go_wp2_with fail
      rw [unhide HEG, Oper.upon_enter]
      refine (unhide HFt).mono ?_
      rintro e w1 ⟨rfl, f1⟩
      have HK1 := hide ((unhide HK).below f1)
      have F1 := hide f1
      obtain ⟨SS, hSS⟩ : ∃ SS : World → Prop, SS = fun W' => W'.cell? ⟨C.X, 10, none⟩ = some (.slice (some ⟨b, o, none⟩) (n + 1) tc) ∧ W'.cell? ⟨C.X, 11, none⟩ = some (.slice ha hn hc) ∧ W'.cell? ⟨b, o + n * 2, none⟩ = some (.int .i64 T.kind) ∧ W'.cell? ⟨b, o + n * 2 + 1, none⟩ = some (.string ⟨T.name.toArray⟩) := ⟨_, rfl⟩
      have KS : Hid (∀ W', SS W' ↔ W'.cell? ⟨C.X, 10, none⟩ = some (.slice (some ⟨b, o, none⟩) (n + 1) tc) ∧ W'.cell? ⟨C.X, 11, none⟩ = some (.slice ha hn hc) ∧ W'.cell? ⟨b, o + n * 2, none⟩ = some (.int .i64 T.kind) ∧ W'.cell? ⟨b, o + n * 2 + 1, none⟩ = some (.string ⟨T.name.toArray⟩)) := fun W' => by rw [hSS]
      have old : ∀ {p : Addr} {v : Value}, W.cell? p = some v → w1.cell? p = some v := fun {p v} hp => (f1.cell (World.block_lt_of_cell? W _ hp)).trans hp
      have S1 := hide ((unhide KS w1).2 ⟨old c10, old c11, old q0, old q1⟩)
      clear HFt f1 c10 c11 q0 q1 t hSS
      clear old
      go_wp2
      refine wp_region_txtn SS [13, 14] (List.range 17) 17 (by rfl) (by kernel_rfl) (by kernel_rfl) ((unhide KS w1.drew).2 ((unhide KS w1).1 (unhide S1))) ?_
      simp only [List.take_succ_cons, List.take_zero]
      repeat (first
        | (refine Txt.reads (v := ?_) (by rfl) (by rfl) (by rfl) ?_ ?_; rotate_left; (focus ((intro W hSW; obtain ⟨p0, p1, p2, p3⟩ := (unhide KS W).1 hSW; go_simp) <;> with_reducible rfl)); simp only [Act.put, List.setIfInBounds_toArray, List.set_cons_zero, List.set_cons_succ]))
      refine Txt.acts (by rfl) (by rfl) (by rfl) (fun KK hKK => ?_)
      go_simp
      have fA : Below w1.heap.size w1 (w1.alloc (.cells #[.int .i64 T.kind, .string ⟨T.name.toArray⟩] 52)).drew := (bA (Below.refl _ _) _).drew
      have kA := (unhide HK1).below fA
      have sA : SS (w1.alloc (.cells #[.int .i64 T.kind, .string ⟨T.name.toArray⟩] 52)).drew := by
        obtain ⟨p0, p1, p2, p3⟩ := (unhide KS w1).1 (unhide S1)
        have old : ∀ {p : Addr} {v : Value}, w1.cell? p = some v → (w1.alloc (.cells #[.int .i64 T.kind, .string ⟨T.name.toArray⟩] 52)).drew.cell? p = some v := fun {p v} hp => (fA.cell (World.block_lt_of_cell? _ _ hp)).trans hp
        exact (unhide KS _).2 ⟨old p0, old p1, old p2, old p3⟩
      refine hKK.out _ _ sA ?_
      clear hKK
      refine Txt.acts (by rfl) (by rfl) (by rfl) (fun KK hKK => ?_)
      have e3' := unhide E3
      have hs' := unhide HS
      refine wpR_append_at rkT (.tmp 32) (.tmp 41) rfl C.w0.heap.size _ x.ha (by rfl) kA.oh (some ⟨w1.heap.size, 0, none⟩) 1 1 [T] (by rfl) (ls_drew (ls_one (cs := tyc) (sz := 2) w1 _ _ T rfl)) (fun e => by cases e) (by omega) (by omega) kA.bel.size ?_
      intro v6 w6 o6 g6 at6
      obtain ⟨va, vc, hv, _⟩ := o6.form
      subst hv
      have HK6 := hide (kA.hand (h' := ⟨va, (x.ha ++ [T]).length, vc⟩) o6 g6 at6)
      have KP6 : Hid (KeepsW C W w6) := ((KeepsW.below (unhide F1)).trans (KeepsW.below fA)).trans (KeepsW.grown kA.oh g6)
      have s6 : SS w6 := by
        obtain ⟨p0, p1, p2, p3⟩ := (unhide KS _).1 sA
        have oX : ∀ {i : Nat} {v : Value}, (w1.alloc (.cells #[.int .i64 T.kind, .string ⟨T.name.toArray⟩] 52)).drew.cell? ⟨C.X, i, none⟩ = some v → w6.cell? ⟨C.X, i, none⟩ = some v := fun {i v} hp => g6.cell hp (fun e => row_ne kA.oh kA.blk (by decide) e.symm rfl)
        have oR : ∀ {i : Nat} {v : Value}, (w1.alloc (.cells #[.int .i64 T.kind, .string ⟨T.name.toArray⟩] 52)).drew.cell? ⟨b, i, none⟩ = some v → w6.cell? ⟨b, i, none⟩ = some v := fun {i v} hp => g6.cell hp (fun e => kA.sh b rfl e.symm)
        exact (unhide KS _).2 ⟨oX p0, oX p1, oR p2, oR p3⟩
      have hb6 : w6.heap[C.X]? = _ := (g6.block _ (lt_of_heap kA.blk) (fun e => row_ne kA.oh kA.blk (by decide) e.symm rfl)).trans kA.blk
      have t6 := fun q => bx_thaw hb6 q
      have S6 := hide s6
      refine hKK.out _ _ s6 ?_
      clear s6 hKK fA kA sA o6 g6 at6 hb6 e3' hs'
      repeat (first
        | (refine Txt.reads (v := ?_) (by rfl) (by rfl) (by rfl) ?_ ?_; rotate_left; (focus ((intro W hSW; go_simp) <;> with_reducible rfl)); simp only [Act.put, List.setIfInBounds_toArray, List.set_cons_zero, List.set_cons_succ]))
      refine Txt.done (thenLast_n (by rfl) (by rfl) (by rfl) (fun KK hKK => ?_))
      have c11 := ((unhide KS w6).1 (unhide S6)).2.1
      go_simp
      refine hKK.out _ _ ?_
      clear c11 hKK KK S6 S1 t6
      rw [List.length_append, List.length_singleton] at HK6
      obtain ⟨_, _, _, _, c10, c11, t⟩ := (unhide HK6).cells
      simp only at c10 c11
      have htc : n + 1 ≤ tc := by
        obtain ⟨_, _, e', _, h2, _⟩ := (unhide HK).os.form
        unfold Sl.v at e'
        injection e' with _ e2 e3
        simp only at e2 e3
        omega
      have htc0 : ¬ tc = 0 := by omega
      have hntc : n ≤ tc := by omega
      have HKP7 : Hid (KeepsW C W (w6.setCell ⟨C.X, 11, none⟩ (.slice va (x.ha.length + 1) vc))) := (unhide KP6).trans (KeepsW.setX C _ _ _)
      clear KP6
      generalize w6.setCell ⟨C.X, 11, none⟩ (.slice va (x.ha.length + 1) vc) = w7 at *
      have HK8 := hide ((unhide HK6).cut (n := n) (Nat.le_succ n) (by intro e; cases e))
      rw [(unhide HT2).1] at HK8
      go_wp2
      go_ret
      rw [unhide HP, if_pos trivial]
      refine ⟨⟨rfl, ⟨?_, _, _, _, _, unhide HK8⟩, (unhide HKP7).trans (KeepsW.setX C _ _ _)⟩, fun e => by cases e⟩
      obtain ⟨o1, o2, o3, o4, o5, o6⟩ := unhide HOK
      refine ⟨fun t ht => o1 t ((List.dropLast_sublist _).subset ht), o2, fun t ht => ?_, o4, o5, o6⟩
      rcases List.mem_append.1 ht with h | h
      · exact o3 t h
      · rw [List.mem_singleton.1 h]; exact o1 _ (unhide HT2).2
end Go.Proofs.YthenefjoidckkaaGreatDoor

/- Layer 11: a type that may stand for another one is popped. -/
namespace Go.Proofs.YthenefjoidckkaaGreatDoor
open Go.RowKit
set_option linter.unusedVariables false
set_option maxRecDepth 100000

set_option maxHeartbeats 1000000 in
theorem w11popF1_any (W : World) (C : Wcx) (b1 b2 : Nat) (y t : Ty) (hcl : Ls 5 ncc W C.ca C.cn C.p.cl) (hn : C.cn ≤ 40) (h1 : W.cell? ⟨b1, 0, none⟩ = some (.pointer (some ⟨C.X, 0, none⟩))) (h20 : W.cell? ⟨b2, 0, none⟩ = some (.int .i64 y.kind)) (h21 : W.cell? ⟨b2, 1, none⟩ = some (.string ⟨y.name.toArray⟩)) (hX : W.cell? ⟨C.X, 0, none⟩ = some (.slice C.ca C.cn C.cc)) (ht : nmOk t) (hy : nmOk y) :
    Calls Tryz.prog 136 #[tyV t, .pointer (some ⟨b1, 0, none⟩), .pointer (some ⟨b2, 0, none⟩)] W fun e w' => e = .returned (.bool (mayT C.p.cl t y)) ∧ Below W.heap.size W w' := by
  obtain ⟨w1, hw1⟩ : ∃ w1, w1 = W.alloc (.cells #[.int .i64 t.kind, .string ⟨t.name.toArray⟩] 52) := ⟨_, rfl⟩
  have f1 : Below W.heap.size W w1 := by rw [hw1]; exact bA (Below.refl _ _) _
  have hb : Bx2c w1 W.heap.size (.int .i64 t.kind) (.string ⟨t.name.toArray⟩) := by rw [hw1]; exact Bx2c.made _ _ _
  obtain ⟨SS, hSS⟩ : ∃ SS : World → Prop, SS = fun W' => Below w1.heap.size w1 W' := ⟨_, rfl⟩
  have KI : Hid (∀ W', Below w1.heap.size w1 W' → SS W') := fun W' f => by rw [hSS]; exact f
  have KB : Hid (∀ W', SS W' → Below W.heap.size W W') := fun W' h => by rw [hSS] at h; exact f1.trans (h.mono f1.size)
  have KK1 : Hid (∀ W', SS W' → Below w1.heap.size w1 W') := fun W' h => by rw [hSS] at h; exact h
  have old : ∀ {W' : World} {p : Addr} {v : Value}, SS W' → W.cell? p = some v → W'.cell? p = some v := fun {W' p v} h hp => ((unhide KB W' h).cell (World.block_lt_of_cell? W _ hp)).trans hp
  have KC : Hid (∀ W', SS W' → W'.cell? ⟨b1, 0, none⟩ = some (.pointer (some ⟨C.X, 0, none⟩)) ∧ W'.cell? ⟨b2, 0, none⟩ = some (.int .i64 y.kind) ∧ W'.cell? ⟨b2, 1, none⟩ = some (.string ⟨y.name.toArray⟩) ∧ W'.cell? ⟨C.X, 0, none⟩ = some (.slice C.ca C.cn C.cc) ∧ W'.cell? ⟨W.heap.size, 0, none⟩ = some (.int .i64 t.kind) ∧ W'.cell? ⟨W.heap.size, 1, none⟩ = some (.string ⟨t.name.toArray⟩)) := fun W' h =>
    ⟨old h h1, old h h20, old h h21, old h hX, (hb.keep (unhide KK1 W' h)).cells.1, (hb.keep (unhide KK1 W' h)).cells.2.1⟩
  have HM : Hid (∀ W', SS W' → Calls Tryz.prog 31 #[.slice C.ca C.cn C.cc, .agg #[.int .i64 t.kind, .string ⟨t.name.toArray⟩], .agg #[.int .i64 y.kind, .string ⟨y.name.toArray⟩]] W' fun e w' => e = .returned (.bool (mayT C.p.cl t y)) ∧ Below W'.heap.size W' w') := fun W' h =>
    yMay_any t.name.length W' C.ca C.cn C.cc C.p.cl (hcl.below (unhide KB W' h)) hn _ _ t y ⟨rfl⟩ ⟨rfl⟩ (Nat.le_refl _) ht hy
  have HS : Hid (∀ A B, SS A → Below A.heap.size A B → SS B) := fun A B h f => unhide KI B ((unhide KK1 A h).trans (f.mono (unhide KK1 A h).size))
  have HW1 := hide hw1
  clear hSS hw1 hb f1 hcl h1 h20 h21 hX
  clear old
  unfold tyV
  generalize mayT C.p.cl t y = R at *
  go_enter Tryz.func136, Tryz.ntmps136
  go_wp2
  rw [← unhide HW1]
  refine wp_region_seq SS (by kernel_rfl) (by kernel_rfl) (unhide KI _ (Below.drew (Below.refl _ _))) ?_
  repeat (first
    | (refine SeqDo.skips (by rfl) ?_; simp only [Act.put, List.setIfInBounds_toArray, List.set_cons_zero, List.set_cons_succ])
    | (refine SeqDo.yields (v := ?_) (by rfl) ?_ ?_; rotate_left; (focus ((intro W' hSW; obtain ⟨q0, q1, q2, q3, q4, q5⟩ := unhide KC W' hSW; go_simp) <;> with_reducible rfl)); simp only [Act.put, List.setIfInBounds_toArray, List.set_cons_zero, List.set_cons_succ])
    | (refine SeqDo.does (v := .bool R) (by rfl) (fun W' hSW KK hKK => ?_) ?_; (focus (go_simp; go_wp2_with (go_at_call 31; refine (unhide HM W' hSW).mono ?_; rintro e W2 ⟨rfl, hw⟩); exact hKK.out _ (unhide HS _ _ hSW hw))); simp only [Act.put, List.setIfInBounds_toArray, List.set_cons_zero, List.set_cons_succ]))
  intro W' hSW
  have FW := hide (unhide KB W' hSW)
  go_wp2
  go_ret
  exact ⟨rfl, unhide FW⟩
theorem Dp.ret {C : Wcx} {W : World} {r : Option Wst} {e : Ending} {w' : World} (h : Dp C W r e w') : ∃ b, e = .returned (.bool b) := by
  cases r with
  | none => exact ⟨_, h.1⟩
  | some z => exact ⟨_, h.1⟩
theorem Dp.pre {C : Wcx} {V W : World} {r : Option Wst} {e : Ending} {w' : World} (h : Dp C W r e w') (f : KeepsW C V W) : Dp C V r e w' := by
  cases r with
  | none => exact ⟨h.1, h.2.1, f.trans h.2.2⟩
  | some z => exact ⟨h.1, h.2.1, f.trans h.2.2⟩
theorem Tp.pre {C : Wcx} {V W : World} {x : Wst} {r : Option Wst} {e : Ending} {w' : World} (h : Tp C W x r e w') (f : KeepsW C V W) : Tp C V x r e w' := ⟨h.1.pre f, h.2⟩
/-- The classes of a work. -/
structure Cok (C : Wcx) : Prop where
  cl : Ls 5 ncc C.w0 C.ca C.cn C.p.cl
  cn : C.cn ≤ 40
theorem eg136 (args : Array Value) (w : World) : (callFunc 136 args).run Tryz.prog w = .ok (.enter 136 args) w := enters_of Tryz.func136 (by kernel_rfl) rfl args w
set_option maxHeartbeats 1000000 in
theorem w11pop_any (C : Wcx) (x : Wst) (W : World) (k : WK C x W) (hC : Cok C) (y : Ty) (hy : nmOk y) (hs : x.st.length + x.ha.length ≤ 1000000000) :
    Calls Tryz.prog 123 #[.pointer (some ⟨C.X, 0, none⟩), tyV y] W fun e w' => Tp C W x (popD C.p.cl y x) e w' := by
  obtain ⟨w2, hw2⟩ : ∃ w2, w2 = (W.alloc (.cells #[.pointer (some ⟨C.X, 0, none⟩)] 81)).alloc (.cells #[.int .i64 y.kind, .string ⟨y.name.toArray⟩] 52) := ⟨_, rfl⟩
  have f2 : Below W.heap.size W w2 := by rw [hw2]; exact bA (bA (Below.refl _ _) _) _
  have hz1 : (W.alloc (.cells #[.pointer (some ⟨C.X, 0, none⟩)] 81)).heap.size = W.heap.size + 1 := by simp
  have hb1 : w2.heap[W.heap.size]? = some (.cells #[.pointer (some ⟨C.X, 0, none⟩)] 81 (0, 0)) := by rw [hw2]; exact (heap_alloc_old _ _ (by simp)).trans (heap_alloc_last _ _)
  have hb2 : w2.heap[W.heap.size + 1]? = some (.cells #[.int .i64 y.kind, .string ⟨y.name.toArray⟩] 52 (0, 0)) := by rw [hw2]; have := heap_alloc_last (W.alloc (.cells #[.pointer (some ⟨C.X, 0, none⟩)] 81)) (.cells #[.int .i64 y.kind, .string ⟨y.name.toArray⟩] 52); rw [hz1] at this; exact this
  have k2 := k.below f2
  have hcl : Ls 5 ncc w2 C.ca C.cn C.p.cl := by
    obtain ⟨_, _, _, _, _, kk⟩ := k2
    exact hC.cl.below kk.bel
  have cX : w2.cell? ⟨C.X, 0, none⟩ = some (.slice C.ca C.cn C.cc) := by
    obtain ⟨_, _, _, _, _, kk⟩ := k2
    exact kk.cells.1
  have HT := hide (w11take_any C x w2 k2 136 #[.pointer (some ⟨W.heap.size, 0, none⟩), .pointer (some ⟨W.heap.size + 1, 0, none⟩)] eg136 (fun t => mayT C.p.cl t y) (fun t ht => w11popF1_any w2 C W.heap.size (W.heap.size + 1) y t hcl hC.cn (bx_cell hb1 0 _ rfl) (bx_cell hb2 0 _ rfl) (bx_cell hb2 1 _ rfl) cX ht hy) hs)
  have HW2 := hide hw2
  have KP := hide (KeepsW.below (C := C) f2)
  clear hw2 f2 hz1 hb1 hb2 k2 hcl cX k
  unfold tyV
  rw [show takeD (fun t => mayT C.p.cl t y) x = popD C.p.cl y x from rfl] at HT
  generalize popD C.p.cl y x = r at *
  go_enter Tryz.func123, Tryz.ntmps123
  go_wp2_with fail
  rw [← unhide HW2]
  refine (unhide HT).mono ?_
  intro e w3 h3
  obtain ⟨v, rfl⟩ := h3.1.ret
  have H3 := hide (h3.pre (unhide KP))
  clear h3 HT
  go_wp2
  go_ret
  exact unhide H3
end Go.Proofs.YthenefjoidckkaaGreatDoor

/- Layer 11: what a type is. -/
namespace Go.Proofs.YthenefjoidckkaaGreatDoor
open Go.RowKit
set_option linter.unusedVariables false
set_option maxRecDepth 100000

set_option maxHeartbeats 400000 in
theorem p11isInt_any (W : World) (t : Ty) : Calls Tryz.prog 120 #[tyV t] W fun e w' => e = .returned (.bool (isIntB t)) ∧ Below W.heap.size W w' := by
  unfold tyV isIntB
  obtain ⟨k, s⟩ := t
  simp only
  have F := hide (bA (Below.refl _ W) (.cells #[.int .i64 k, .string ⟨s.toArray⟩] 52))
  have b1 : (k == 1) = decide (k = 1) := rfl
  go_enter Tryz.func120, Tryz.ntmps120
  go_wp2
  go_ret
  exact ⟨rfl, unhide F⟩
set_option maxHeartbeats 400000 in
theorem p11isLong_any (W : World) (t : Ty) : Calls Tryz.prog 121 #[tyV t] W fun e w' => e = .returned (.bool (isLongB t)) ∧ Below W.heap.size W w' := by
  unfold tyV isLongB
  obtain ⟨k, s⟩ := t
  simp only
  have F := hide (bA (Below.refl _ W) (.cells #[.int .i64 k, .string ⟨s.toArray⟩] 52))
  have b1 : (k == 2) = decide (k = 2) := rfl
  go_enter Tryz.func121, Tryz.ntmps121
  go_wp2
  go_ret
  exact ⟨rfl, unhide F⟩
set_option maxHeartbeats 400000 in
theorem p11isReference_any (W : World) (t : Ty) : Calls Tryz.prog 122 #[tyV t] W fun e w' => e = .returned (.bool (isRefB t)) ∧ Below W.heap.size W w' := by
  unfold tyV isRefB
  obtain ⟨k, s⟩ := t
  simp only
  have F := hide (bA (Below.refl _ W) (.cells #[.int .i64 k, .string ⟨s.toArray⟩] 52))
  by_cases h3 : k = 3
  · subst h3
    go_enter Tryz.func122, Tryz.ntmps122
    go_wp2
    go_ret
    exact ⟨rfl, unhide F⟩
  · have b3 : (k == 3) = false := by simpa using h3
    have b4 : (k == 4) = decide (k = 4) := rfl
    rw [decide_eq_false h3, Bool.false_or]
    go_enter Tryz.func122, Tryz.ntmps122
    go_wp2
    go_ret
    exact ⟨rfl, unhide F⟩
set_option maxHeartbeats 400000 in
theorem p11isSingle_any (W : World) (t : Ty) : Calls Tryz.prog 126 #[tyV t] W fun e w' => e = .returned (.bool (singleB t)) ∧ Below W.heap.size W w' := by
  have F := hide (bA (Below.refl _ W) (.cells (tyc t).toArray 52))
  have HL := hide (p11isLong_any (W.alloc (.cells (tyc t).toArray 52)) t)
  unfold tyV singleB at *
  unfold tyc at *
  generalize isLongB t = R at *
  go_enter Tryz.func126, Tryz.ntmps126
  go_wp2_with fail
  refine (unhide HL).mono ?_
  rintro e w1 ⟨rfl, f1⟩
  have F1 := hide ((unhide F).trans (f1.mono (unhide F).size))
  clear f1 HL F
  go_wp2
  go_ret
  exact ⟨rfl, unhide F1⟩
set_option maxHeartbeats 800000 in
theorem p11mayBeArray_any (W : World) (t : Ty) (hn : nmOk t) : Calls Tryz.prog 129 #[tyV t] W fun e w' => e = .returned (.bool (arrM t)) ∧ Below W.heap.size W w' := by
  have F := hide (bA (Below.refl _ W) (.cells (tyc t).toArray 52))
  have HL := hide (yElem_any (W.alloc (.cells (tyc t).toArray 52)) t.kind ⟨t.name.toArray⟩ t.name ⟨rfl⟩ hn)
  have hb := Bx2c.made W (.int .i64 t.kind) (.string ⟨t.name.toArray⟩)
  have HB := hide hb
  unfold arrM
  rw [show (⟨t.kind, t.name⟩ : Ty) = t from rfl] at HL
  unfold tyc at *
  obtain ⟨k, s⟩ := t
  unfold tyV at *
  simp only at *
  obtain ⟨w0, hw0⟩ : ∃ w0, w0 = W.alloc (.cells #[.int .i64 k, .string ⟨s.toArray⟩] 52) := ⟨_, rfl⟩
  rw [show [Value.int .i64 k, .string ⟨s.toArray⟩].toArray = #[.int .i64 k, .string ⟨s.toArray⟩] from rfl] at F HL
  rw [← hw0] at HB F HL
  have HW0 := hide hw0
  clear hb hw0
  generalize elemP ⟨k, s⟩ = E at *
  obtain ⟨⟨ek, es⟩, ee⟩ := E
  simp only at *
  go_enter Tryz.func129, Tryz.ntmps129
  go_wp2_with fail
  rw [← unhide HW0]
  refine (unhide HL).mono ?_
  rintro e w1 ⟨rfl, f1⟩
  have F1 := hide (bA ((unhide F).trans (f1.mono (unhide F).size)) (.cells #[.int .i64 ek, .string ⟨es.toArray⟩] 52))
  have b1 := (unhide HB).keep (f1.trans (bA (Below.refl _ w1) (.cells #[.int .i64 ek, .string ⟨es.toArray⟩] 52) |>.mono f1.size))
  obtain ⟨d0, _, _⟩ := b1.cells
  clear f1 HL F b1
  by_cases h0 : ee = 0
  · have b0 : (ee == 0) = true := by simpa using h0
    go_wp2
    go_ret
    exact ⟨by rw [decide_eq_true h0]; rfl, unhide F1⟩
  · have b0 : (ee == 0) = false := by simpa using h0
    have b4 : (k == 3) = decide (k = 3) := rfl
    go_wp2
    go_ret
    exact ⟨by rw [decide_eq_false h0]; rfl, unhide F1⟩
set_option maxHeartbeats 800000 in
theorem p11mayHaveReferences_any (W : World) (t : Ty) (hn : nmOk t) : Calls Tryz.prog 125 #[tyV t] W fun e w' => e = .returned (.bool (refsM t)) ∧ Below W.heap.size W w' := by
  have F := hide (bA (Below.refl _ W) (.cells (tyc t).toArray 52))
  have HL := hide (yElem_any (W.alloc (.cells (tyc t).toArray 52)) t.kind ⟨t.name.toArray⟩ t.name ⟨rfl⟩ hn)
  have hb := Bx2c.made W (.int .i64 t.kind) (.string ⟨t.name.toArray⟩)
  have HB := hide hb
  unfold refsM
  rw [show (⟨t.kind, t.name⟩ : Ty) = t from rfl] at HL
  unfold tyc at *
  obtain ⟨k, s⟩ := t
  unfold tyV at *
  simp only at *
  obtain ⟨w0, hw0⟩ : ∃ w0, w0 = W.alloc (.cells #[.int .i64 k, .string ⟨s.toArray⟩] 52) := ⟨_, rfl⟩
  rw [show [Value.int .i64 k, .string ⟨s.toArray⟩].toArray = #[.int .i64 k, .string ⟨s.toArray⟩] from rfl] at F HL
  rw [← hw0] at HB F HL
  have HW0 := hide hw0
  clear hb hw0
  generalize elemP ⟨k, s⟩ = E at *
  obtain ⟨⟨ek, es⟩, ee⟩ := E
  simp only at *
  go_enter Tryz.func125, Tryz.ntmps125
  go_wp2_with fail
  rw [← unhide HW0]
  refine (unhide HL).mono ?_
  rintro e w1 ⟨rfl, f1⟩
  have F1 := hide (bA ((unhide F).trans (f1.mono (unhide F).size)) (.cells #[.int .i64 ek, .string ⟨es.toArray⟩] 52))
  have b1 := (unhide HB).keep (f1.trans (bA (Below.refl _ w1) (.cells #[.int .i64 ek, .string ⟨es.toArray⟩] 52) |>.mono f1.size))
  obtain ⟨d0, _, _⟩ := b1.cells
  clear f1 HL F b1
  by_cases h0 : ek = 4
  · subst h0
    go_wp2
    go_ret
    exact ⟨rfl, unhide F1⟩
  · have b0 : (ek == 4) = false := by simpa using h0
    have b4 : (k == 3) = decide (k = 3) := rfl
    go_wp2
    go_ret
    exact ⟨by rw [decide_eq_false h0]; rfl, unhide F1⟩
end Go.Proofs.YthenefjoidckkaaGreatDoor
