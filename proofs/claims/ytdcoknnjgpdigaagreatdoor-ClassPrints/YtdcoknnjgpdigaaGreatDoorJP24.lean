/- Joined: GrE ClL GrG. -/
import Derived.Test.YtdcoknnjgpdigaaGreatDoorJGrD
import Derived.Test.YtdcoknnjgpdigaaGreatDoorJP20

/- The document's class: its writer: what each step of a code keeps. -/
namespace Go.Proofs.YtdcoknnjgpdigaaGreatDoor
open Go.RowKit
set_option linter.unusedVariables false
set_option maxRecDepth 100000

/-- The writer at X on its way; ok: nothing was wrong so far, and then these bytes are written. -/
structure Wr (wc w0 : World) (X B : Nat) (p : Sl) (b0 : List UInt8) (W : World) (ok : Bool) (bs : List UInt8) (n : Nat) : Prop where
  hcB : wc.heap.size ≤ B
  gw : ∃ b, Gw X B p b (!ok) W ∧ (ok = true → b = b0 ++ bs) ∧ b.length ≤ b0.length + n
  came : Below wc.heap.size wc W
  bel : Below B w0 W
  ks : Ks X w0 W
section
variable {wc w0 : World} {X B : Nat} {p : Sl} {b0 : List UInt8} {W W' : World} {ok : Bool} {bs : List UInt8} {n : Nat}
theorem Wr.hB (h : Wr wc w0 X B p b0 W ok bs n) : B ≤ W.heap.size := by
  obtain ⟨b, g, _⟩ := h.gw
  exact g.hB
theorem Wr.start {bad : Bool} (h : Gw X B p b0 bad W) (hW : Below wc.heap.size wc W) (hcB : wc.heap.size ≤ B) : Wr wc W X B p b0 W (!bad) [] 0 := ⟨hcB, ⟨b0, by rw [Bool.not_not]; exact h, fun _ => by simp, by omega⟩, hW, Below.refl _ _, fun _ _ _ _ _ h => h⟩
theorem Wr.on (h : Wr wc w0 X B p b0 W ok bs n) (f : Below W.heap.size W W') : Wr wc w0 X B p b0 W' ok bs n := by
  have hB := h.hB
  have hcB := h.hcB
  obtain ⟨b, g, g2, g3⟩ := h.gw
  exact ⟨hcB, ⟨b, g.below f, g2, g3⟩, h.came.trans (f.mono (by omega)), h.bel.trans (f.mono hB), h.ks.trans (Ks.of_below f)⟩
theorem Wr.imp {ok' : Bool} {bs' : List UInt8} {n' : Nat} (h : Wr wc w0 X B p b0 W ok bs n) (h1 : ok = ok') (h2 : ok' = true → bs = bs') (h3 : n ≤ n') : Wr wc w0 X B p b0 W ok' bs' n' := by
  subst h1
  obtain ⟨b, g, g2, g3⟩ := h.gw
  exact ⟨h.hcB, ⟨b, g, fun e => by rw [← h2 e]; exact g2 e, by omega⟩, h.came, h.bel, h.ks⟩
/-- A step of the writer's own. -/
theorem Wr.step {b b' : List UInt8} {ok' : Bool} {bs' : List UInt8} {n' : Nat} (h : Wr wc w0 X B p b0 W ok bs n) (g : Gw X B p b' (!ok') W') (f : Below B W W') (k : Ks X W W') (h1 : ok' = true → b' = b0 ++ bs') (h2 : b'.length ≤ b0.length + n') : Wr wc w0 X B p b0 W' ok' bs' n' :=
  ⟨h.hcB, ⟨b', g, h1, h2⟩, h.came.trans (f.mono h.hcB), h.bel.trans f, h.ks.trans k⟩

def wr_post (wc w0 : World) (X B : Nat) (p : Sl) (b0 : List UInt8) (W : World) (ok : Bool) (bs : List UInt8) (n : Nat) (e : Ending) (w' : World) : Prop := e = .returned (.tuple #[]) ∧ Wr wc w0 X B p b0 w' ok bs n ∧ Ks X W w' ∧ Below B W w'

theorem Wr.must (h : Wr wc w0 X B p b0 W ok bs n) (v : Bool) : Calls Tryz.prog 29 #[.pointer (some ⟨X, 0, none⟩), .bool v] W (wr_post wc w0 X B p b0 W (ok && v) bs n) := by
  obtain ⟨b, g, g2, g3⟩ := h.gw
  refine (gwmust_any X B p b (!ok) W g v).mono ?_
  rintro e w' ⟨rfl, rfl⟩
  have g4 := g.mark (!ok || !v)
  have hbb : (!ok || !v) = !(ok && v) := by cases ok <;> cases v <;> rfl
  have f4 := GF.mark g 2 (.bool (!ok || !v))
  rw [hbb] at g4 f4 ⊢
  exact ⟨rfl, h.step (b := b) g4 f4.2 (Ks.of_kx f4.1) (fun e => g2 (by revert e; cases ok <;> simp)) g3, Ks.of_kx f4.1, f4.2⟩
/-- Do numbers fit so many bytes? -/
def fitsB (k : Int) (zs : List Int) : Bool := zs.all fun z => decide (0 ≤ z ∧ z < ((256 ^ k.toNat : Nat) : Int))
theorem fitsB_iff {k : Int} (hk : k = 1 ∨ k = 2 ∨ k = 4) (zs : List Int) : fitsB k zs = true ↔ (wide k ∧ ∀ z ∈ zs, fitsW k z false) := by
  have hw : wide k := by unfold wide; omega
  have h8 : ¬ k = 8 := by omega
  unfold fitsB
  rw [List.all_eq_true]
  constructor
  · intro h
    refine ⟨hw, fun z hz => ⟨hw, ?_⟩⟩
    rw [if_neg h8, if_neg (by simp)]
    simpa using h z hz
  · rintro ⟨_, h⟩ z hz
    have := (h z hz).2
    rw [if_neg h8, if_neg (by simp)] at this
    simpa using this
theorem Wr.u {w1 : World} (h : Wr wc w0 X B p b0 W ok bs n) (f : Below W.heap.size W w1) (k : Int) (hk : k = 1 ∨ k = 2 ∨ k = 4) (zs : List Int) (m : Nat) (hm : zs.length = m) (hz : ∀ (j : Nat) (z : Int), zs[j]? = some z → w1.cell? ⟨W.heap.size, j, none⟩ = some (.int .i64 z)) (hr : ∀ z ∈ zs, fitI z) (hs : b0.length + n + 8 * m ≤ 140737488351232) :
    Calls Tryz.prog 27 #[.pointer (some ⟨X, 0, none⟩), .int .i64 k, .slice (some ⟨W.heap.size, 0, none⟩) m m] w1 (wr_post wc w0 X B p b0 w1 (ok && fitsB k zs) (bs ++ zs.flatMap (bytesW k)) (n + m * k.toNat)) := by
  have h1 := h.on f
  obtain ⟨b, g, g2, g3⟩ := h1.gw
  refine (gwu_any X B p b (!ok) w1 g k (by omega) (some ⟨W.heap.size, 0, none⟩) m m zs ⟨hm, .inr ⟨_, 0, rfl, fun j z hj => by rw [Nat.zero_add]; exact hz j z hj⟩⟩ hr (by omega)).mono ?_
  rintro e w' ⟨rfl, g4, f4⟩
  have hi := fitsB_iff hk zs
  cases hf : fitsB k zs with
  | true =>
    obtain ⟨q1, q2⟩ := hi.1 hf
    rw [putW_ok q1 q2] at g4
    simp only [ne_eq, not_true_eq_false, decide_false, Bool.or_false] at g4
    rw [Bool.and_true]
    refine ⟨rfl, h1.step (b := b) g4 f4.2 (Ks.of_kx f4.1) (fun e => by rw [g2 e, List.append_assoc]) ?_, Ks.of_kx f4.1, f4.2⟩
    rw [List.length_append, flat_len, hm]
    omega
  | false =>
    rw [putW_no (fun e => by rw [hi.2 e] at hf; cases hf)] at g4
    have hb : (!ok || decide ((2 : Int) ≠ 0)) = !false := by cases ok <;> rfl
    simp only at g4
    rw [hb] at g4
    rw [Bool.and_false]
    exact ⟨rfl, h1.step (b := b) g4 f4.2 (Ks.of_kx f4.1) (fun e => by cases e) (by omega), Ks.of_kx f4.1, f4.2⟩
theorem Wr.mustK (h : Wr wc w0 X B p b0 W ok bs n) (v : Bool) : Calls Tryz.prog 29 #[.pointer (some ⟨X, 0, none⟩), .bool v] W (fun e w' => wr_post wc w0 X B p b0 W (ok && v) bs n e w' ∧ Kx X W w') := by
  obtain ⟨b, g, g2, g3⟩ := h.gw
  refine (gwmust_any X B p b (!ok) W g v).mono ?_
  rintro e w' ⟨rfl, rfl⟩
  have g4 := g.mark (!ok || !v)
  have hbb : (!ok || !v) = !(ok && v) := by cases ok <;> cases v <;> rfl
  have f4 := GF.mark g 2 (.bool (!ok || !v))
  rw [hbb] at g4 f4 ⊢
  exact ⟨⟨rfl, h.step (b := b) g4 f4.2 (Ks.of_kx f4.1) (fun e => g2 (by revert e; cases ok <;> simp)) g3, Ks.of_kx f4.1, f4.2⟩, f4.1⟩
theorem Wr.uK {w1 : World} (h : Wr wc w0 X B p b0 W ok bs n) (f : Below W.heap.size W w1) (k : Int) (hk : k = 1 ∨ k = 2 ∨ k = 4) (zs : List Int) (m : Nat) (hm : zs.length = m) (hz : ∀ (j : Nat) (z : Int), zs[j]? = some z → w1.cell? ⟨W.heap.size, j, none⟩ = some (.int .i64 z)) (hr : ∀ z ∈ zs, fitI z) (hs : b0.length + n + 8 * m ≤ 140737488351232) :
    Calls Tryz.prog 27 #[.pointer (some ⟨X, 0, none⟩), .int .i64 k, .slice (some ⟨W.heap.size, 0, none⟩) m m] w1 (fun e w' => wr_post wc w0 X B p b0 w1 (ok && fitsB k zs) (bs ++ zs.flatMap (bytesW k)) (n + m * k.toNat) e w' ∧ Kx X w1 w') := by
  have h1 := h.on f
  obtain ⟨b, g, g2, g3⟩ := h1.gw
  refine (gwu_any X B p b (!ok) w1 g k (by omega) (some ⟨W.heap.size, 0, none⟩) m m zs ⟨hm, .inr ⟨_, 0, rfl, fun j z hj => by rw [Nat.zero_add]; exact hz j z hj⟩⟩ hr (by omega)).mono ?_
  rintro e w' ⟨rfl, g4, f4⟩
  have hi := fitsB_iff hk zs
  cases hf : fitsB k zs with
  | true =>
    obtain ⟨q1, q2⟩ := hi.1 hf
    rw [putW_ok q1 q2] at g4
    simp only [ne_eq, not_true_eq_false, decide_false, Bool.or_false] at g4
    rw [Bool.and_true]
    refine ⟨⟨rfl, h1.step (b := b) g4 f4.2 (Ks.of_kx f4.1) (fun e => by rw [g2 e, List.append_assoc]) ?_, Ks.of_kx f4.1, f4.2⟩, f4.1⟩
    rw [List.length_append, flat_len, hm]
    omega
  | false =>
    rw [putW_no (fun e => by rw [hi.2 e] at hf; cases hf)] at g4
    have hb : (!ok || decide ((2 : Int) ≠ 0)) = !false := by cases ok <;> rfl
    simp only at g4
    rw [hb] at g4
    rw [Bool.and_false]
    exact ⟨⟨rfl, h1.step (b := b) g4 f4.2 (Ks.of_kx f4.1) (fun e => by cases e) (by omega), Ks.of_kx f4.1, f4.2⟩, f4.1⟩
theorem Wr.utf {l : List Ent} (G : Gx wc B p l) (h : Wr wc w0 X B p b0 W ok bs n) (s : List UInt8) (hs : b0.length + n ≤ 50000000) :
    Calls Tryz.prog 30 #[.pointer (some ⟨X, 0, none⟩), .string ⟨s.toArray⟩] W (wr_post wc w0 X B p b0 W (ok && decide (utfN l s ≠ 0)) (bs ++ bytesW 2 (utfN l s : Int)) (n + 2)) := by
  obtain ⟨b, g, g2, g3⟩ := h.gw
  refine (gwutf_any wc X B p l G b (!ok) W h.came g s (by omega)).mono ?_
  rintro e w' ⟨rfl, g4, f4⟩
  have hb : (!ok || decide (utfN l s = 0)) = !(ok && decide (utfN l s ≠ 0)) := by
    by_cases h0 : utfN l s = 0 <;> cases ok <;> simp [h0]
  rw [hb] at g4
  refine ⟨rfl, h.step (b := b) g4 f4.2 (Ks.of_kx f4.1) (fun e => by rw [g2 (by revert e; cases ok <;> simp), List.append_assoc]) ?_, Ks.of_kx f4.1, f4.2⟩
  rw [List.length_append, bytesW_len]
  show _ + 2 ≤ _
  omega
theorem Wr.class {l : List Ent} (G : Gx wc B p l) (h : Wr wc w0 X B p b0 W ok bs n) (s : List UInt8) (hs : b0.length + n ≤ 50000000) :
    Calls Tryz.prog 28 #[.pointer (some ⟨X, 0, none⟩), .string ⟨s.toArray⟩] W (wr_post wc w0 X B p b0 W (ok && decide (clsN l s ≠ 0)) (bs ++ bytesW 2 (clsN l s : Int)) (n + 2)) := by
  obtain ⟨b, g, g2, g3⟩ := h.gw
  refine (gwclass_any wc X B p l G b (!ok) W h.came g s (by omega)).mono ?_
  rintro e w' ⟨rfl, g4, f4⟩
  have hb : (!ok || decide (clsN l s = 0)) = !(ok && decide (clsN l s ≠ 0)) := by
    by_cases h0 : clsN l s = 0 <;> cases ok <;> simp [h0]
  rw [hb] at g4
  refine ⟨rfl, h.step (b := b) g4 f4.2 (Ks.of_kx f4.1) (fun e => by rw [g2 (by revert e; cases ok <;> simp), List.append_assoc]) ?_, Ks.of_kx f4.1, f4.2⟩
  rw [List.length_append, bytesW_len]
  show _ + 2 ≤ _
  omega
theorem Wr.types {l : List Ent} (G : Gx wc B p l) (h : Wr wc w0 X B p b0 W ok bs n) (s : Sl) (ts : List Ty) (loc : Bool) (hL : TysIn wc s ts) (hn : s.n ≤ 6000) (hs : b0.length + n ≤ 40000000) :
    Calls Tryz.prog 70 #[.pointer (some ⟨X, 0, none⟩), s.v, .bool loc] W (wr_post wc w0 X B p b0 W (ok && rightT l loc ts) (bs ++ typesB l loc ts) (n + (5 + 3 * ts.length))) := by
  obtain ⟨b, g, g2, g3⟩ := h.gw
  refine (gwtypes_any wc X B p l G b (!ok) W h.came g s ts loc hL hn (by omega)).mono ?_
  rintro e w' ⟨b', rfl, g4, g5, g6, f4, k4⟩
  have hb : (!ok || !rightT l loc ts) = !(ok && rightT l loc ts) := by
    cases rightT l loc ts <;> cases ok <;> rfl
  rw [hb] at g4 g5
  refine ⟨rfl, h.step (b := b) g4 f4 k4 (fun e => ?_) (by omega), k4, f4⟩
  rw [g5 (by rw [e]; rfl), g2 (by revert e; cases ok <;> simp), List.append_assoc]
end
/-- Bytes were laid behind those that are written. -/
theorem gw_grown {X B : Nat} {p : Sl} {b : List UInt8} {bad : Bool} {W : World} {a : Option Addr} {c : Nat} (h1 : W.heap[X]? = some (.cells #[.slice p.a p.n p.c, .slice a b.length c, .bool bad] 65 (0, 0))) (hX : B ≤ X) (r : Orw byc 5 1 W B (.slice a b.length c) b)
    (q : Nat) (v' : Value) (w7 : World) (ys : List UInt8) (o7 : Orw byc 5 1 w7 B v' (b ++ ys)) (g7 : (W.drewN q).grownBy w7 (Value.slice a b.length c).ownBlock) :
    ∃ a7 c7, v' = .slice a7 (b.length + ys.length) c7 ∧ w7.heap[X]? = some (.cells #[.slice p.a p.n p.c, .slice a b.length c, .bool bad] 65 (0, 0)) ∧ Gw X B p (b ++ ys) bad (w7.setCell ⟨X, 1, none⟩ v') ∧ Ks X W (w7.setCell ⟨X, 1, none⟩ v') ∧ Below B W (w7.setCell ⟨X, 1, none⟩ v') := by
  have hX1 : X < W.heap.size := lt_of_heap h1
  have hBW : B ≤ W.heap.size := by omega
  have hne : ∀ (k : Nat) (Z : Array Value) (T : TypeId), T ≠ 5 → W.heap[k]? = some (.cells Z T (0, 0)) → w7.heap[k]? = some (.cells Z T (0, 0)) := fun k Z T hT9 hk => by
    have hk2 : (W.drewN q).heap[k]? = some (.cells Z T (0, 0)) := ((below_drewN (Below.refl _ _) q).block k (lt_of_heap hk)).trans hk
    refine (grown_other g7 (lt_of_heap hk2) fun e1 => ?_).trans hk2
    obtain ⟨V, h1⟩ := orw_block r e1
    rw [h1] at hk
    injection hk with hk
    injection hk with _ hk
    exact hT9 hk.symm
  have x7 := hne _ _ _ (by decide) h1
  obtain ⟨a7, c7, e7, _⟩ := o7.form
  rw [List.length_append] at e7
  have b7 : Below B W w7 := Below.grown ((below_drewN (Below.refl W.heap.size W) q).mono hBW) g7 (Nat.le_trans hBW (below_drewN (Below.refl W.heap.size W) q).size) (fun k hk => (r.lt k hk).1)
  refine ⟨a7, c7, e7, x7, ⟨hX, a7, c7, ?_, ?_⟩, fun k Z T hx ht hk => (Below.heap_setCell _ _ _ _ hx).trans (hne k Z T ht hk), b7.setCell (p := ⟨X, 1, none⟩) hX _⟩
  · have := heap_setCell_same w7 X 1 _ _ v' x7
    rw [this, List.length_append, e7]
    rfl
  · rw [List.length_append, ← e7]
    exact o7.keep fun k Z _ hk => Below.heap_setCell _ _ _ _ fun e => by
      simp only at e
      subst e
      rw [x7] at hk
      injection hk with hk
      injection hk with _ hk
      cases hk
theorem ls_of_arg9 {w : World} {a : Option Addr} {n c : Nat} {l : List UInt8} (h : Arg w a n c l) : Ls 1 byc w a n l := by
  refine ⟨h.bs.1, ?_⟩
  by_cases h0 : n = 0
  · exact .inl h0
  · rcases h.bs.2 with h1 | ⟨b, o, e, h1⟩
    · exact .inl h1
    · have key : ∀ (k : Nat) (x : UInt8), l[k]? = some x → ∀ (q : Nat) (u : Value), (byc x)[q]? = some u → w.cell? ⟨b, o + k * 1 + q, none⟩ = some u := fun k x hx q u hu => by
        match q, hu with
        | 0, hu =>
          simp [byc] at hu
          have := h1.2 ⟨b, o, none⟩ rfl k u (by unfold bv; rw [List.getElem?_map, hx]; simp [hu])
          rw [Addr.add_mid] at this
          simpa using this
      obtain ⟨x, hx⟩ : ∃ x, l[0]? = some x := ⟨_, List.getElem?_eq_getElem (by have := h.bs.1; omega)⟩
      have hlt := World.block_lt_of_cell? _ _ (key 0 x hx 0 _ rfl)
      exact .inr ⟨b, o, e, hlt, key⟩
theorem last_cons (a : Int) (m : Mp) (r : List Mp) : ((m :: r).map Mp.at_).getLast?.getD a = (r.map Mp.at_).getLast?.getD m.at_ := by
  cases r with
  | nil => rfl
  | cons x r =>
    simp only [List.map_cons, List.getLast?_cons_cons]
    cases h : (x.at_ :: r.map Mp.at_).getLast? with
    | none => simp at h
    | some v => rfl
theorem rightM_snoc (l : List Ent) (m : Mp) : ∀ (ms : List Mp) (a : Int), rightM l a (ms ++ [m]) = (rightM l a ms && (decide ((ms.map Mp.at_).getLast?.getD a < m.at_ ∧ m.at_ ≤ 65535) && rightT l true m.loc && rightT l false m.stk))
  | [], a => by simp [rightM]
  | x :: r, a => by
    rw [last_cons, List.cons_append, rightM, rightM, rightM_snoc l m r x.at_]
    simp only [Bool.and_assoc]
theorem rightM_last (l : List Ent) : ∀ (ms : List Mp) (a : Int), rightM l a ms = true → a ≤ (ms.map Mp.at_).getLast?.getD a
  | [], a, _ => by simp
  | x :: r, a, h => by
    rw [rightM] at h
    simp only [Bool.and_eq_true, decide_eq_true_eq] at h
    have := rightM_last l r x.at_ h.2
    rw [last_cons]
    omega
theorem clamp9 (at_ last z : Int) (hz : z = max 0 (min (wrap64 (wrap64 (at_ - last) - 1)) 65535)) : (0 ≤ z ∧ z ≤ 65535) ∧ (last < at_ ∧ at_ ≤ 65535 → -1 ≤ last → z = at_ - last - 1) := by
  unfold wrap64 at hz
  constructor
  · omega
  · intro h1 h2
    omega
theorem mpsB_step9 (l : List Ent) : ∀ (ms : List Mp) (last : Int) (k : Nat) (m : Mp), ms[k]? = some m → mpsB l last (ms.take (k + 1)) = mpsB l last (ms.take k) ++ mapB l (((ms.take k).map Mp.at_).getLast?.getD last) m
  | [], _, _, _, h => by simp at h
  | x :: r, last, 0, m, h => by
    simp at h
    subst h
    simp [mpsB]
  | x :: r, last, k + 1, m, h => by
    have ih := mpsB_step9 l r x.at_ k m (by simpa using h)
    simp only [List.take_succ_cons, mpsB]
    rw [ih, List.append_assoc]
    congr 2
    simp only [List.map_cons, List.getLast?_cons, Option.getD_some]
end Go.Proofs.YtdcoknnjgpdigaaGreatDoor

/- Is a class small enough? -/
namespace Go.Proofs.YtdcoknnjgpdigaaGreatDoor
open Go.RowKit
set_option linter.unusedVariables false
set_option maxRecDepth 100000

def mapsN (ms : List Mp) : Nat := (ms.map fun m => 1 + m.loc.length + m.stk.length).sum
def methN (m : Md) : Nat := m.code.bytes.length + m.code.hs.length + mapsN m.code.maps
/-- How much a class has. -/
def sizeK (c : Cl) : Nat := c.pool.length + c.fields.length + c.methods.length + (c.methods.map methN).sum
theorem sum_take_succ {α : Type} (f : α → Nat) {l : List α} {k : Nat} {x : α} (h : l[k]? = some x) : ((l.take (k + 1)).map f).sum = ((l.take k).map f).sum + f x := by
  rw [List.take_add_one, h]
  simp
theorem sum_take_le {α : Type} (f : α → Nat) (l : List α) (k : Nat) : ((l.take k).map f).sum ≤ (l.map f).sum := by
  conv => rhs; rw [← List.take_append_drop k l]
  rw [List.map_append, List.sum_append]
  omega

set_option maxHeartbeats 6400000 in
theorem light8_any (w : World) (r : ClR) (hC : CIn w r) :
    Calls Tryz.prog 7 #[r.v] w fun e w' => e = .returned (.bool (decide (sizeK r.c < 5000))) ∧ Below w.heap.size w w' := by
  obtain ⟨cc, p1, f1, m1, mr⟩ := r
  obtain ⟨pl, nm, sp, fl, ml⟩ := cc
  obtain ⟨p1a, p1n, p1c⟩ := p1
  obtain ⟨f1a, f1n, f1c⟩ := f1
  obtain ⟨m1a, m1n, m1c⟩ := m1
  obtain ⟨w0, e0, f0, K0⟩ := one_local w #[.slice p1a p1n p1c, .string ⟨nm.toArray⟩, .string ⟨sp.toArray⟩, .slice f1a f1n f1c, .slice m1a m1n m1c] 26
  have KL : Hid (∀ W, Below w0.heap.size w0 W → W.cell? ⟨w.heap.size, 4, none⟩ = some (.slice m1a m1n m1c)) := fun W f => K0 W f 4 _ rfl
  have q0 := K0 w0 (Below.refl _ _) 0 _ rfl
  have q3 := K0 w0 (Below.refl _ _) 3 _ rfl
  have q4 := K0 w0 (Below.refl _ _) 4 _ rfl
  replace hC := hC.below f0
  have hl := hC.methods.ls.1
  have hsm := hC.methods.small
  have hlf := hC.fields.ls.1
  have hsf := hC.fields.small
  have hlp := hC.pool.arg.es.1
  have hsp := hC.pool.small
  have hsame := hC.same
  simp only at hl hsm hsame hlf hsf hlp hsp
  have hs1 : m1n ≤ 140737488351232 := by omega
  have HM := hide hC.methods.ls
  have HME := hide hC.methods.each
  simp only at HM HME
  have E0 := hide e0
  have F0 := hide f0
  obtain ⟨T, hT⟩ : ∃ T, T = sizeK ⟨pl, nm, sp, fl, ml⟩ := ⟨_, rfl⟩
  rw [← hT]
  obtain ⟨B, hB⟩ : ∃ B : Nat, B = p1n + f1n + m1n := ⟨_, rfl⟩
  have hTT : T = B + (ml.map methN).sum := by rw [hT, hB]; unfold sizeK; simp only; rw [hlp, hlf, hsame]; simp [hl]
  have hB1 : (p1n : Int) + (f1n : Int) + (m1n : Int) = (B : Int) := by omega
  have hBs : B ≤ 422212465053696 := by omega
  have HTT := hide hTT
  have HSM := hide hsame
  clear hT e0 f0 K0 hC hsm hsf hsp hsame hTT hlf hlp hB
  unfold ClR.v Sl.v
  simp only
  go_enter Tryz.func7, Tryz.ntmps7
  have e0 := unhide E0
  go_wp2
  clear e0 q0 q3 q4
  go_loopw [3, 4] (fun nv i wr => ∃ k N : Nat, k ≤ m1n ∧ nv = .int .i64 (N : Int) ∧ i = .int .i64 k ∧ (N = B + ((ml.take k).map methN).sum ∨ (5000 ≤ N ∧ 5000 ≤ T)) ∧ N ≤ 900000000000000 ∧ Below w0.heap.size w0 wr) (fun _ i _ => m1n - (intOf i).toNat)
  case atStart => exact ⟨0, B, by omega, rfl, rfl, .inl (by simp), by omega, Below.refl _ _⟩
  case round =>
    obtain ⟨k, N, hk, rfl, rfl, hN, hNb, hR⟩ := hrel
    have HN := hide hN
    have HR := hide hR
    have k0 := unhide KL _ hR
    clear hN
    have done : (¬ k < m1n ∨ ¬ N < 5000) → decide ((N : Int) < 5000) = decide (T < 5000) := fun hd => by
      have h := unhide HN
      have hT := unhide HTT
      have hle := sum_take_le methN ml k
      have hml : ml.length = m1n := by rw [unhide HSM, List.length_map]; exact hl
      rcases h with h | h
      · by_cases h5 : N < 5000
        · have hkm : ml.take k = ml := List.take_of_length_le (by omega)
          rw [hkm] at h
          have : T = N := by omega
          rw [this]
          congr 1
          exact propext ⟨fun h => by omega, fun h => by omega⟩
        · rw [decide_eq_false (by omega), decide_eq_false (by omega)]
      · rw [decide_eq_false (by omega), decide_eq_false (by omega)]
    by_cases hlt : k < m1n
    · have hlt1 : (k : Int) < (m1n : Int) := by omega
      by_cases h5 : N < 5000
      · have h51 : (N : Int) < 5000 := by omega
        clear done
        obtain ⟨b1, o1, h1a, h1⟩ := Ls.row (unhide HM) (w' := w) (by omega)
        subst h1a
        obtain ⟨x, hx⟩ : ∃ x, mr[k]? = some x := ⟨_, List.getElem?_eq_getElem (by omega)⟩
        have hmx : ml[k]? = some x.m := by rw [unhide HSM, List.getElem?_map, hx]; rfl
        have hMd := unhide HME x (List.mem_of_getElem? hx)
        have hstep := sum_take_succ methN hmx
        have hle := sum_take_le methN ml (k + 1)
        have q1 := h1 hR k x hx
        obtain ⟨xm, ⟨xBa, xBn, xBc⟩, ⟨xHa, xHn, xHc⟩, ⟨xMa, xMn, xMc⟩, xr⟩ := x
        have c3 := q1 3 _ rfl
        have c4 := q1 4 _ rfl
        have c5 := q1 5 _ rfl
        have c6 := q1 6 _ rfl
        have c7 := q1 7 _ rfl
        simp only [Sl.v] at c3 c4 c5 c6 c7
        have hbn := hMd.bs.bs.1
        have hbs := hMd.few
        have hhn := hMd.hs.ls.1
        have hhs := hMd.hs.small
        have hmn := hMd.maps.ls.1
        have hms := hMd.maps.small
        have hmm := hMd.same
        simp only at hbn hbs hhn hhs hmn hms hmm
        have HMM := hide hMd.maps.ls
        have HMEa := hide hMd.maps.each
        simp only at HMM HMEa
        obtain ⟨w3, e3, f3, K3⟩ := one_local wr #[.int .i64 xm.code.stack, .int .i64 xm.code.locals, .slice xBa xBn xBc, .slice xHa xHn xHc, .slice xMa xMn xMc] 47
        have KI : Hid (∀ W, Below w3.heap.size w3 W → W.cell? ⟨wr.heap.size, 4, none⟩ = some (.slice xMa xMn xMc)) := fun W f => K3 W f 4 _ rfl
        have E3 := hide e3
        have F3 := hide (hR.trans (f3.mono hR.size))
        obtain ⟨N1, hN1⟩ : ∃ N1 : Nat, N1 = N + (xBn + xHn) := ⟨_, rfl⟩
        have hN2 : (N : Int) + ((xBn : Int) + (xHn : Int)) = (N1 : Int) := by omega
        have hN1b : N1 ≤ 300000000000000 := by omega
        have hmeth : methN xm = xBn + xHn + mapsN xm.code.maps := by unfold methN; rw [hbn, hhn]
        have HFIN : Hid (∀ j, N1 + ((xm.code.maps.take j).map fun m => 1 + m.loc.length + m.stk.length).sum ≤ T) := fun j => by
          have hT := unhide HTT
          have hs := sum_take_le (fun m : Mp => 1 + m.loc.length + m.stk.length) xm.code.maps j
          have hd : mapsN xm.code.maps = (xm.code.maps.map fun m => 1 + m.loc.length + m.stk.length).sum := rfl
          have h := (unhide HN).resolve_right (fun h => by omega)
          rw [hstep] at hle
          simp only at hle
          omega
        have HEND : Hid (∀ j, xMn ≤ j → N1 + ((xm.code.maps.take j).map fun m => 1 + m.loc.length + m.stk.length).sum = B + ((ml.take (k + 1)).map methN).sum) := fun j hj => by
          have hd : mapsN xm.code.maps = (xm.code.maps.map fun m => 1 + m.loc.length + m.stk.length).sum := rfl
          have hlen : xm.code.maps.length ≤ j := by rw [hmm, List.length_map]; omega
          rw [List.take_of_length_le hlen]
          have h := (unhide HN).resolve_right (fun h => by omega)
          rw [hstep]
          simp only
          omega
        have HMX := hide hmm
        clear h1 q1 hx hmx hMd e3 f3 K3 hR hstep hle hmeth hN1 hmm
        go_wp2
        rw [unhide E3]
        clear c3 c4 c5 c6 c7 k0
        go_loopw [3, 6] (fun nv kv wr2 => ∃ j M : Nat, j ≤ xMn ∧ nv = .int .i64 (M : Int) ∧ kv = .int .i64 j ∧ M = N1 + ((xm.code.maps.take j).map fun m => 1 + m.loc.length + m.stk.length).sum ∧ M ≤ 900000000000000 ∧ Below w3.heap.size w3 wr2) (fun _ kv _ => xMn - (intOf kv).toNat)
        case atStart => exact ⟨0, N1, by omega, rfl, rfl, by simp, by omega, Below.refl _ _⟩
        case round =>
          obtain ⟨j, M, hj, rfl, rfl, hM, hMb, hR2⟩ := hrel
          have k1 := unhide KI _ hR2
          have HM2 := hide hM
          have HR2 := hide ((unhide F3).trans (hR2.mono (unhide F3).size))
          clear hM
          by_cases hjl : j < xMn
          · have hjl1 : (j : Int) < (xMn : Int) := by omega
            by_cases hM5 : M < 5000
            · have hM51 : (M : Int) < 5000 := by omega
              obtain ⟨b2, o2, h2a, h2⟩ := Ls.row (unhide HMM) (w' := w) (by omega)
              subst h2a
              obtain ⟨z, hz⟩ : ∃ z, xr[j]? = some z := ⟨_, List.getElem?_eq_getElem (by omega)⟩
              have hmz : xm.code.maps[j]? = some z.m := by rw [unhide HMX, List.getElem?_map, hz]; rfl
              have hst2 := sum_take_succ (fun m : Mp => 1 + m.loc.length + m.stk.length) hmz
              have q2 := h2 (unhide HR2) j z hz
              have hZ := unhide HMEa z (List.mem_of_getElem? hz)
              obtain ⟨zm, ⟨la, ln, lc⟩, ⟨sa, sn, sc⟩⟩ := z
              have d1 := q2 1 _ rfl
              have d2 := q2 2 _ rfl
              simp only [Sl.v] at d1 d2
              have hl1 := hZ.loc.ls.1
              have hl2 := hZ.loc.small
              have hl3 := hZ.stk.ls.1
              have hl4 := hZ.stk.small
              simp only at hl1 hl2 hl3 hl4 hst2
              obtain ⟨M2, hM2⟩ : ∃ M2 : Nat, M2 = M + (1 + ln + sn) := ⟨_, rfl⟩
              have hM3 : (M : Int) + (1 + (ln : Int) + (sn : Int)) = (M2 : Int) := by omega
              have HNX : Hid (M2 = N1 + ((xm.code.maps.take (j + 1)).map fun m => 1 + m.loc.length + m.stk.length).sum) := by
                show M2 = _
                rw [hst2, hl1, hl3, hM2, unhide HM2]
                omega
              have hM2b : M2 ≤ 900000000000000 := by omega
              have F4 := hide hR2
              clear h2 hz hmz hst2 q2 hZ hM2 hR2
              go_wp2
              go_quiet (fail)
              go_wp2
              go_roundw
              case rel => exact ⟨j + 1, M2, by omega, rfl, by go_num, unhide HNX, hM2b, below_drewN (unhide F4) _⟩
              case measure => simp [intOf]; omega
            · have hM51 : ¬ (M : Int) < 5000 := by omega
              clear hR2
              go_wp2
              go_roundw
              case rel => exact ⟨k + 1, M, by omega, rfl, by go_num, .inr ⟨by omega, by have := unhide HFIN j; rw [← unhide HM2] at this; omega⟩, hMb, unhide HR2⟩
              case measure => simp [intOf]; omega
          · clear hR2
            go_wp2
            go_roundw
            case rel => exact ⟨k + 1, M, by omega, rfl, by go_num, .inl ((unhide HM2).trans (unhide HEND j (by omega))), hMb, unhide HR2⟩
            case measure => simp [intOf]; omega
      · have h51 : ¬ (N : Int) < 5000 := by omega
        have hd : decide (T < 5000) = false := by rw [← done (.inr h5)]; exact decide_eq_false h51
        have HD := hide hd
        clear done hR hd
        go_wp2
        go_ret
        exact ⟨by rw [unhide HD]; rfl, (unhide F0).trans ((unhide HR).mono (unhide F0).size)⟩
    · obtain rfl : k = m1n := by omega
      have hd := done (.inl hlt)
      clear done hR
      go_wp2
      go_ret
      exact ⟨rfl, (unhide F0).trans ((unhide HR).mono (unhide F0).size)⟩
end Go.Proofs.YtdcoknnjgpdigaaGreatDoor

/- The document's class: its writer: what the rounds of fields and methods come to, as plain values. -/
namespace Go.Proofs.YtdcoknnjgpdigaaGreatDoor
open Go.RowKit
set_option linter.unusedVariables false
set_option maxRecDepth 100000

theorem fits_small {z : Int} (h : 0 ≤ z ∧ z ≤ 65535) : fitsB 2 [z] = true := by simp [fitsB]; omega
theorem fits_some {n : Nat} (h : n ≤ 4294967295) : fitsB 4 [(n : Int)] = true := by simp [fitsB]; omega
theorem field_ok (l : List Ent) (f : Fd) (ok : Bool) (z : Int) (hz : z = max 0 f.acc) : (((((ok && decide (f.acc = 0 ∨ f.acc = 8)) && fitsB 2 [z]) && decide (utfN l f.name ≠ 0)) && decide (utfN l f.type ≠ 0)) && fitsB 2 [0]) = (ok && rightF l f) := by
  have e0 : fitsB 2 [0] = true := by decide
  unfold rightF
  rw [e0]
  by_cases h : f.acc = 0 ∨ f.acc = 8
  · rw [fits_small (z := z) (by omega), decide_eq_true h]
    simp only [Bool.and_true, Bool.true_and, Bool.and_assoc, Bool.decide_and]
  · rw [decide_eq_false h]
    simp
theorem field_bytes (l : List Ent) (f : Fd) (bs : List UInt8) (z : Int) (hz : z = max 0 f.acc) (h : rightF l f = true) : ((((bs ++ [z].flatMap (bytesW 2)) ++ bytesW 2 (utfN l f.name : Int)) ++ bytesW 2 (utfN l f.type : Int)) ++ [(0 : Int)].flatMap (bytesW 2)) = bs ++ fieldB l f := by
  unfold rightF at h
  simp only [Bool.and_eq_true, decide_eq_true_eq] at h
  have e : z = f.acc := by omega
  rw [e]
  unfold fieldB
  simp
theorem meth_ok (l : List Ent) (m : Md) (ok : Bool) (z : Int) (hz : z = max 0 m.acc) (n : Nat) (hn : n ≤ 4294967295) : ((((((((ok && decide (m.acc = 0 ∨ m.acc = 8 ∨ m.acc = 32 ∨ m.acc = 40)) && fitsB 2 [z]) && decide (utfN l m.name ≠ 0)) && decide (utfN l m.type ≠ 0)) && fitsB 2 [1]) && decide (utfN l sCode ≠ 0)) && rightD l m.code) && fitsB 4 [(n : Int)]) = (ok && rightMd l m) := by
  have e0 : fitsB 2 [1] = true := by decide
  unfold rightMd
  rw [e0, fits_some hn]
  by_cases h : m.acc = 0 ∨ m.acc = 8 ∨ m.acc = 32 ∨ m.acc = 40
  · rw [fits_small (z := z) (by omega), decide_eq_true h]
    simp only [Bool.and_true, Bool.true_and, Bool.and_assoc, Bool.decide_and]
  · rw [decide_eq_false h]
    simp
theorem meth_bytes (l : List Ent) (m : Md) (bs bi : List UInt8) (z : Int) (hz : z = max 0 m.acc) (h : rightMd l m = true) (hb : bi = codeB l m.code) : (((((((bs ++ [z].flatMap (bytesW 2)) ++ bytesW 2 (utfN l m.name : Int)) ++ bytesW 2 (utfN l m.type : Int)) ++ [(1 : Int)].flatMap (bytesW 2)) ++ bytesW 2 (utfN l sCode : Int)) ++ [(bi.length : Int)].flatMap (bytesW 4)) ++ bi) = bs ++ methodB l m := by
  unfold rightMd at h
  simp only [Bool.and_eq_true, decide_eq_true_eq] at h
  have e : z = m.acc := by omega
  rw [e, hb]
  unfold methodB
  simp
theorem maps_le (ms : List Mp) : (ms.map fun m => 13 + 3 * (m.loc.length + m.stk.length)).sum ≤ 13 * mapsN ms := by
  unfold mapsN
  induction ms with
  | nil => simp
  | cons x r ih =>
    simp only [List.map_cons, List.sum_cons]
    omega
theorem maps_each {ms : List Mp} {m : Mp} (h : m ∈ ms) : m.loc.length + m.stk.length ≤ mapsN ms := by
  unfold mapsN
  induction ms with
  | nil => cases h
  | cons x r ih =>
    simp only [List.map_cons, List.sum_cons]
    rcases List.mem_cons.1 h with rfl | h
    · omega
    · have := ih h
      omega
theorem meth_each {ms : List Md} {m : Md} (h : m ∈ ms) : methN m ≤ (ms.map methN).sum := by
  induction ms with
  | nil => cases h
  | cons x r ih =>
    simp only [List.map_cons, List.sum_cons]
    rcases List.mem_cons.1 h with rfl | h
    · omega
    · have := ih h
      omega
/-- A method of a light class. -/
theorem light_meth {c : Cl} (hc : sizeK c < 5000) {m : Md} (h : m ∈ c.methods) : methN m < 5000 ∧ ∀ x ∈ m.code.maps, x.loc.length ≤ 6000 ∧ x.stk.length ≤ 6000 := by
  have h1 := meth_each h
  have h2 : methN m < 5000 := by unfold sizeK at hc; omega
  refine ⟨h2, fun x hx => ?_⟩
  have h3 := maps_each hx
  unfold methN at h2
  omega
end Go.Proofs.YtdcoknnjgpdigaaGreatDoor
