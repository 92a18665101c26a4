/- Joined: PkS PkT PkU WdL5. -/
import Derived.Test.YtdcoknnjgpdigaaGreatDoorJP13
import Derived.Test.YtdcoknnjgpdigaaGreatDoorJP2
import Derived.Laws.ResultCell

/- The landed pool: readEntry. -/
namespace Go.Proofs.YtdcoknnjgpdigaaGreatDoor
open Go.RowKit
set_option linter.unusedVariables false

theorem krd_keep {F : Nat → Prop} {w w' : World} {B x : Nat} {bs : List UInt8} {i : Nat} (h : RD F w B x bs i) (hk : ∀ k, F k → w'.heap[k]? = w.heap[k]?) : RD F w' B x bs i := by
  obtain ⟨y, c, rfl, h⟩ := h
  exact ⟨y, c, rfl, h.keep (hk x (.inl rfl)) (hk y (.inr rfl))⟩
/-- A reader beside two blocks of one's own. -/
structure RE (F : Nat → Prop) (w : World) (B x : Nat) (bs : List UInt8) (i R X : Nat) (W : World) : Prop where
  ex : ∃ F3, RD F3 W B x bs i ∧ ¬ F3 R ∧ ¬ F3 X ∧ ∀ j, F3 j → F j ∨ w.heap.size ≤ j
  fr : Fr6 F B w W
  kp : Kx x w W
theorem RE.set {F : Nat → Prop} {w W : World} {B x : Nat} {bs : List UInt8} {i R X : Nat} (h : RE F w B x bs i R X W) (hB : B ≤ w.heap.size) (Y j : Nat) (u : Value) (hY : Y = R ∨ Y = X) (hw : w.heap.size ≤ Y) : RE F w B x bs i R X (W.setCell ⟨Y, j, none⟩ u) := by
  obtain ⟨F3, h1, h2, h3, h4⟩ := h.ex
  have hn : ¬ F3 Y := by rcases hY with rfl | rfl <;> assumption
  have hset : ∀ k, k ≠ Y → (W.setCell ⟨Y, j, none⟩ u).heap[k]? = W.heap[k]? := fun k hk => Below.heap_setCell _ _ _ _ hk
  exact ⟨⟨F3, krd_keep h1 (fun k hk => hset k (fun e => hn (e ▸ hk))), h2, h3, h4⟩, ⟨h.fr.below.setCell (p := ⟨Y, j, none⟩) (Nat.le_trans hB hw) _, fun k hk hF => (hset k (by omega)).trans (h.fr.other k hk hF)⟩, fun k hk hx => (hset k (by omega)).trans (h.kp k hk hx)⟩
theorem RE.done {F : Nat → Prop} {w W : World} {B x : Nat} {bs : List UInt8} {i R X : Nat} (h : RE F w B x bs i R X W) : RS F w B x bs i W := by
  obtain ⟨F3, h1, h2, h3, h4⟩ := h.ex
  exact ⟨⟨F3, h1, h4⟩, h.fr, h.kp⟩
end Go.Proofs.YtdcoknnjgpdigaaGreatDoor

/- The landed pool: readPool. -/
namespace Go.Proofs.YtdcoknnjgpdigaaGreatDoor
open Go.RowKit
set_option linter.unusedVariables false

/-- An entry stored, cell by cell. -/
theorem ev_set {l : List Ent} {k : Nat} (x : Ent) (hk : k < l.length) :
    ((((((ev l).toArray.setIfInBounds (k * 5) (.int .i64 x.tag)).setIfInBounds (k * 5 + 1) (.string ⟨x.text.toArray⟩)).setIfInBounds (k * 5 + 2) (.int .i64 x.n)).setIfInBounds (k * 5 + 3) (.int .i64 x.a)).setIfInBounds (k * 5 + 4) (.int .i64 x.b)) = (ev (l.set k x)).toArray := by
  have hl := ev_len l
  apply Array.ext'
  simp only [Array.toList_setIfInBounds]
  apply List.ext_getElem?
  intro t
  simp only [List.getElem?_set, List.length_set]
  have hs : (l.set k x)[k]? = some x := by rw [List.getElem?_set]; simp [hk]
  have key : ∀ q, q < 5 → (ev (l.set k x))[k * 5 + q]? = (ec x)[q]? := fun q hq => by
    have := ev_get hs q hq
    rw [show k * 5 + q = 5 * k + q by omega]
    exact this
  by_cases h4 : k * 5 + 4 = t
  · subst h4
    rw [key 4 (by omega)]
    simp [ec, hl]
    omega
  by_cases h3 : k * 5 + 3 = t
  · subst h3
    rw [key 3 (by omega)]
    simp [ec, hl]
    omega
  by_cases h2 : k * 5 + 2 = t
  · subst h2
    rw [key 2 (by omega)]
    simp [ec, hl]
    omega
  by_cases h1 : k * 5 + 1 = t
  · subst h1
    rw [key 1 (by omega)]
    simp [ec, hl]
    omega
  by_cases h0 : k * 5 = t
  · subst h0
    have := key 0 (by omega)
    rw [Nat.add_zero] at this
    rw [this]
    simp [ec, hl]
    omega
  rw [if_neg h4, if_neg h3, if_neg h2, if_neg h1, if_neg h0]
  by_cases ht : t < l.length * 5
  · have hd : t / 5 < l.length := by omega
    have hne : ¬ k = t / 5 := by omega
    have e1 : l[t / 5]? = some l[t / 5] := List.getElem?_eq_getElem hd
    have e2 : (l.set k x)[t / 5]? = some l[t / 5] := by rw [List.getElem?_set, if_neg hne]; exact e1
    have g1 := ev_get e1 (t % 5) (by omega)
    have g2 := ev_get e2 (t % 5) (by omega)
    rw [show 5 * (t / 5) + t % 5 = t by omega] at g1 g2
    rw [g1, g2]
  · have hl2 := ev_len (l.set k x)
    rw [List.length_set] at hl2
    rw [List.getElem?_eq_none (by omega), List.getElem?_eq_none (by omega)]
/-- A reader, and the pool that is being read. -/
structure RQ (F : Nat → Prop) (w : World) (B z : Nat) (bs : List UInt8) (j q : Nat) (l : List Ent) (W : World) : Prop where
  ex : ∃ F', RD F' W B z bs j ∧ ¬ F' q ∧ ∀ k, F' k → F k ∨ w.heap.size ≤ k
  fr : Fr6 F B w W
  kp : Kx z w W
  blk : W.heap[q]? = some (.cells (ev l).toArray 55 (0, 0))
theorem RQ.below {F : Nat → Prop} {w W W' : World} {B z : Nat} {bs : List UInt8} {j q : Nat} {l : List Ent} (h : RQ F w B z bs j q l W) (hB : B ≤ w.heap.size) (f : Below W.heap.size W W') : RQ F w B z bs j q l W' := by
  obtain ⟨F', h1, h2, h3⟩ := h.ex
  exact ⟨⟨F', krd_below h1 f, h2, h3⟩, kfr2_trans (F1 := fun _ => False) h.fr (Fr6.of_below f (Nat.le_trans hB h.fr.below.size)) (fun k hk => hk.elim), h.kp.trans h.fr.below.size (Kx.of_below f), (f.block q (lt_of_heap h.blk)).trans h.blk⟩
theorem RQ.call {F F' : Nat → Prop} {w W W' : World} {B z : Nat} {bs : List UInt8} {j j' q : Nat} {l : List Ent} (h : RQ F w B z bs j q l W) (h2 : ¬ F' q) (h3 : ∀ k, F' k → F k ∨ w.heap.size ≤ k) (g : RS F' W B z bs j' W') : RQ F w B z bs j' q l W' := by
  obtain ⟨F2, r1, r2⟩ := g.ex
  have hq := lt_of_heap h.blk
  exact ⟨⟨F2, r1, fun e => (r2 q e).elim h2 (fun e => by omega), fun k hk => (r2 k hk).elim (h3 k) (fun e => .inr (Nat.le_trans h.fr.below.size e))⟩, kfr2_trans h.fr g.fr h3, h.kp.trans h.fr.below.size g.kp, (g.fr.other q hq h2).trans h.blk⟩
theorem RQ.store {F : Nat → Prop} {w W : World} {B z : Nat} {bs : List UInt8} {j q : Nat} {l : List Ent} (h : RQ F w B z bs j q l W) (hB : B ≤ w.heap.size) (hq : w.heap.size ≤ q) (k : Nat) (x : Ent) (hk : k < l.length) :
    RQ F w B z bs j q (l.set k x) (((((W.setCell ⟨q, k * 5, none⟩ (.int .i64 x.tag)).setCell ⟨q, k * 5 + 1, none⟩ (.string ⟨x.text.toArray⟩)).setCell ⟨q, k * 5 + 2, none⟩ (.int .i64 x.n)).setCell ⟨q, k * 5 + 3, none⟩ (.int .i64 x.a)).setCell ⟨q, k * 5 + 4, none⟩ (.int .i64 x.b)) := by
  obtain ⟨F', h1, h2, h3⟩ := h.ex
  have hset : ∀ p, p ≠ q → (((((W.setCell ⟨q, k * 5, none⟩ (.int .i64 x.tag)).setCell ⟨q, k * 5 + 1, none⟩ (.string ⟨x.text.toArray⟩)).setCell ⟨q, k * 5 + 2, none⟩ (.int .i64 x.n)).setCell ⟨q, k * 5 + 3, none⟩ (.int .i64 x.a)).setCell ⟨q, k * 5 + 4, none⟩ (.int .i64 x.b)).heap[p]? = W.heap[p]? := fun p hp => by
    rw [Below.heap_setCell _ _ _ _ hp, Below.heap_setCell _ _ _ _ hp, Below.heap_setCell _ _ _ _ hp, Below.heap_setCell _ _ _ _ hp, Below.heap_setCell _ _ _ _ hp]
  have hBq : B ≤ q := Nat.le_trans hB hq
  refine ⟨⟨F', krd_keep h1 (fun p hp => hset p (fun e => h2 (e ▸ hp))), h2, h3⟩, ⟨?_, fun p hp hF => (hset p (by omega)).trans (h.fr.other p hp hF)⟩, fun p hp hz => (hset p (by omega)).trans (h.kp p hp hz), ?_⟩
  · exact ((((h.fr.below.setCell (p := ⟨q, k * 5, none⟩) hBq _).setCell (p := ⟨q, k * 5 + 1, none⟩) hBq _).setCell (p := ⟨q, k * 5 + 2, none⟩) hBq _).setCell (p := ⟨q, k * 5 + 3, none⟩) hBq _).setCell (p := ⟨q, k * 5 + 4, none⟩) hBq _
  · rw [← ev_set x hk]
    exact heap_setCell_same _ q _ _ _ _ (heap_setCell_same _ q _ _ _ _ (heap_setCell_same _ q _ _ _ _ (heap_setCell_same _ q _ _ _ _ (heap_setCell_same _ q _ _ _ _ h.blk))))
theorem RQ.done {F : Nat → Prop} {w W : World} {B z : Nat} {bs : List UInt8} {j q : Nat} {l : List Ent} (h : RQ F w B z bs j q l W) : RS F w B z bs j W := by
  obtain ⟨F', h1, h2, h3⟩ := h.ex
  exact ⟨⟨F', h1, h3⟩, h.fr, h.kp⟩
theorem RQ.es {F : Nat → Prop} {w W : World} {B z : Nat} {bs : List UInt8} {j q n : Nat} {l : List Ent} (h : RQ F w B z bs j q l W) (hl : l.length = n) : Es W (some ⟨q, 0, none⟩) n l := ⟨hl, .inr ⟨q, 0, rfl, es_of_block h.blk⟩⟩

end Go.Proofs.YtdcoknnjgpdigaaGreatDoor

/- The landed pool: readPool, Read. -/
namespace Go.Proofs.YtdcoknnjgpdigaaGreatDoor
open Go.RowKit
set_option linter.unusedVariables false

end Go.Proofs.YtdcoknnjgpdigaaGreatDoor

/- The landed word: the writer's calls. -/
namespace Go.Proofs.YtdcoknnjgpdigaaGreatDoor
open Go.RowKit
set_option linter.unusedVariables false

theorem step_copy_none {P : Program} {ops : Array Oper} {o : Oper} {a : Act} {w : World} {K : Act → World → Prop} {Q : Exit → Act → World → Prop} {E : Prop} (hgd : o.guard = none) (d s : Operand) (dT sT : TypeId)
    (ho : o.op = .call { callee := .builtin .copy, args := #[d, s], argTypes := #[dT, sT] }) (elem : TypeId) (hu : P.underlying dT = some (.slice elem)) (hsz : (P.info? elem).map (·.size) = some 1)
    (dp sp : Option Addr) (dLen dCap sLen sCap : Nat) (hd : a.eval d = .slice dp dLen dCap) (hs : a.eval s = .slice sp sLen sCap) (hn : Nat.min sLen dLen = 0)
    (h : K (a.put o.dst (goInt 0)) w) : if Region.wanted o (yielded ops a.tmps) = true then Oper.wp P o a w K Q else E := by
  rw [if_pos (by simp [Region.wanted, hgd])]
  have hrun := run_copy_none (P := P) w dT sT o.type elem dp sp dLen dCap sLen sCap hu hsz hn
  unfold Oper.wp
  simp [execOp, ho, resolve, invoke, builtin, hd, hs, hrun, Result.andThen]
  exact h

/-- An append to bytes of one's own that are not nil, in a region that draws: where the new slice lies. -/
theorem stepN6_append {w : World} {ops : Array Oper} {o : Oper} {a : Act} {K : Act → World → Prop} {Q : Exit → Act → World → Prop} {E : Prop} (hgd : o.guard = none) (s x : Operand) (ho : o.op = .call { callee := .builtin .append, args := #[s, x], argTypes := #[29, 29] })
    (base g n cap : Nat) (xs : List UInt8) (hs : a.eval s = .slice (some ⟨g, 0, none⟩) n cap) (hown : w.ownsRow base 5 1 (.slice (some ⟨g, 0, none⟩) n cap) n (bv xs)) (src : Option Addr) (m c : Nat) (ys : List UInt8) (hx : a.eval x = .slice src m c) (hb : Bs w src m ys) (hnil : src = none → m = 0 ∧ c = 0)
    (hsm : n + m ≤ 140737488355328) (hbase : base ≤ w.heap.size) (h : ∀ g' c' w', w'.ownsRow base 5 1 (.slice (some ⟨g', 0, none⟩) (n + m) c') (n + m) (bv (xs ++ ys)) → w.grownBy w' (some g) → (g' = g ∨ w.heap.size ≤ g') → K (a.put o.dst (.slice (some ⟨g', 0, none⟩) (n + m) c')) w') :
    if Region.wanted o (yielded ops a.tmps) = true then Oper.wp Tryz.prog o a w K Q else E := by
  rw [if_pos (by simp [Region.wanted, hgd])]
  obtain ⟨i0, hi, hz0, hz1, hz2⟩ := info_parts infoB
  cases src with
  | none =>
    obtain ⟨rfl, rfl⟩ := hnil rfl
    have h0 : ys = [] := List.eq_nil_of_length_eq_zero hb.1
    subst h0
    have hrun := run_append_owned_none (P := Tryz.prog) (w := w) base 29 o.type 5 i0 1 Tryz.underlying29 hi _ n (bv xs) hown
    unfold Oper.wp
    simp [execOp, ho, resolve, invoke, builtin, hs, hx, hrun, Result.andThen]
    exact h g cap w (by rw [List.append_nil]; exact hown) ⟨rfl, rfl, rfl, Nat.le_refl _, fun _ _ _ => rfl⟩ (.inl rfl)
  | some ad =>
    obtain ⟨v', w', hr, h2, h3, h4, h5⟩ := run_append_own_at (P := Tryz.prog) w base 29 o.type 5 i0 (.int .u8 0) 1 1 Tryz.underlying29 hi hz0 hz1 hz2 rfl (by decide) _ n (bv xs) hown ad m c (bv ys) (by rw [bv_length, hb.1]; omega) (hb.at.2 ad rfl) (bv_one _) (by unfold maxLen; omega) (by omega) hbase
    unfold Oper.wp
    simp [execOp, ho, resolve, invoke, builtin, hs, hx, hr, Result.andThen]
    rcases h2.2 with ⟨e, _⟩ | ⟨g', c', cur, rfl, _⟩
    · have := (h4.1 e).1
      cases this
    · refine h g' c' w' (by rw [bv_append]; exact h2) h3 ?_
      rcases h5 with h5 | h5
      · simp [Value.ownBlock] at h5
        exact .inl h5
      · simp [Value.ownBlock] at h5
        exact .inr (by omega)

theorem Sp.stored {T : TypeId} {W : World} {B x y n c : Nat} {bs : List UInt8} {v0 v1 : Value} (hx : B ≤ x) (hb : W.heap[x]? = some (.cells #[v0, v1] T (0, 0))) (ho : W.ownsRow B 5 1 (.slice (some ⟨y, 0, none⟩) n c) n (bv bs)) (hl : bs.length = n) (hne : x ≠ y) (K : Nat) :
    Sp T ((W.setCell ⟨x, 0, none⟩ (.slice (some ⟨y, 0, none⟩) n c)).setCell ⟨x, 1, none⟩ (.int .i64 (K : Int))) B x y c bs K := by
  subst hl
  refine ⟨hx, hne, pair_set _ _ hb, own_of_block ho (fun k hk => ?_)⟩
  simp [Value.ownBlock] at hk
  subst hk
  exact (Below.heap_setCell _ _ _ _ hne.symm).trans (Below.heap_setCell _ _ _ _ hne.symm)

/-- What put leaves: a span of the new bytes, its place behind them. -/
structure PutOk (T : TypeId) (w : World) (B x y : Nat) (bs : List UInt8) (K : Nat) (W : World) : Prop where
  sp : ∃ y' c', Sp T W B x y' c' bs K ∧ (y' = y ∨ w.heap.size ≤ y')
  bel : Below B w W
  oth : ∀ k, k < w.heap.size → k ≠ x → k ≠ y → W.heap[k]? = w.heap[k]?

set_option maxHeartbeats 1600000 in
theorem dput_end (T : TypeId) (w : World) (B x y c : Nat) (bs : List UInt8) (h : Sp T w B x y c bs bs.length) (a : Option Addr) (m d : Nat) (ys : List UInt8) (hb : Arg w a m d ys) (hfar : ∀ b o, a = some ⟨b, o, none⟩ → 0 < m → b ≠ x ∧ b ≠ y) (hn : bs.length + m ≤ 140737488355328) :
    Calls Tryz.prog 120 #[.pointer (some ⟨x, 0, none⟩), .slice a m d] w fun e w' => e = .returned (.tuple #[]) ∧ PutOk T w B x y (bs ++ ys) (bs.length + m) w' := by
  have c0 := h.c0
  have c1 := h.c1
  have hcap := own_cap h.row
  have f0 := h.fz 0
  have f1 := h.fz 1
  have HS := hide h
  have HA := hide hb
  have hr := hb.room
  have hmo := hb.most
  have hyl := hb.bs.1
  have hBw : B ≤ w.heap.size := Nat.le_trans h.hx (Nat.le_of_lt h.xlt)
  have hxlt := h.xlt
  have hr1 : (m : Int) ≤ (d : Int) := by omega
  have hr2 : (d : Int) ≤ 9223372036854775807 := by omega
  have hBx := h.hx
  have HEND : Hid (∀ (j : Nat) (g' c' : Nat) (W : World), W.ownsRow B 5 1 (.slice (some ⟨g', 0, none⟩) (bs.length + m) c') (bs.length + m) (bv (bs ++ ys)) → (w.drewN j).grownBy W (some y) → (g' = y ∨ w.heap.size ≤ g') →
      (W.cell? ⟨x, 1, none⟩ = some (.int .i64 (bs.length : Int)) ∧ (∀ q, W.frozen? ⟨x, q, none⟩ = false) ∧ (∃ u, W.cell? ⟨x, 0, none⟩ = some u)) ∧
      PutOk T w B x y (bs ++ ys) (bs.length + m) ((W.setCell ⟨x, 0, none⟩ (.slice (some ⟨g', 0, none⟩) (bs.length + m) c')).setCell ⟨x, 1, none⟩ (.int .i64 ((bs.length + m : Nat) : Int)))) := fun j g' c' W o1 g1 hat => by
    have hblk : W.heap[x]? = _ := (g1.block x hxlt (by simpa using h.ne)).trans h.blk
    have hne : x ≠ g' := by
      rcases hat with e | e
      · rw [e]; exact h.ne
      · omega
    refine ⟨⟨by rw [cell_of_row _ _ _ _ _ _ hblk]; rfl, fun q => frozen_of_row _ _ _ _ _ hblk, _, by rw [cell_of_row _ _ _ _ _ _ hblk]; rfl⟩, ⟨g', c', Sp.stored hBx hblk o1 (by rw [List.length_append, hyl]) hne _, hat⟩, ?_, fun k hk h1 h2 => ?_⟩
    · have f : Below B w W := ((below_drewN (Below.refl _ _) j).grown g1 (by simpa using hBw) (fun k hk => by simp at hk; rw [← hk]; exact h.y.1))
      exact (f.setCell (p := ⟨x, 0, none⟩) hBx _).setCell (p := ⟨x, 1, none⟩) hBx _
    · exact ((Below.heap_setCell _ _ _ _ h1).trans (Below.heap_setCell _ _ _ _ h1)).trans (g1.block k hk (by simpa using h2))
  have hown : Hid (∀ j, (w.drewN j).ownsRow B 5 1 (.slice (some ⟨y, 0, none⟩) bs.length c) bs.length (bv bs)) := fun j => (h.drewN j).row
  have hsrc : Hid (∀ j, Bs (w.drewN j) a m ys) := fun j => hb.bs.below (below_drewN (Below.refl _ _) j)
  have hnl := hide hb.nil
  clear h hb hfar
  obtain ⟨M, hM⟩ : ∃ M, M = bs.length + m := ⟨_, rfl⟩
  rw [← hM] at HEND
  have k1 : (bs.length : Int) + (m : Int) = (M : Int) := by omega
  have k2 : IntKind.i64.wrap (M : Int) = (M : Int) := by rw [IntKind.wrap_i64]; omega
  have k3 : (M : Int) ≤ 9223372036854775807 := by omega
  generalize hnb : bs.length = n at *
  clear hnb
  have l1 : (n : Int) ≤ (c : Int) := by omega
  have l2 : (c : Int) ≤ 9223372036854775807 := by omega
  have HM := hide hM
  clear hM
  go_enter Tryz.func120, Tryz.ntmps120
  go_wp2_with fail
  go_region_held_law (fun W => W.cell? ⟨x, 0, none⟩ = some (.slice (some ⟨y, 0, none⟩) n c) ∧ W.cell? ⟨x, 1, none⟩ = some (.int .i64 (n : Int))) (go_keep)
    (first | (refine step_copy_none rfl (.tmp 13) (.tmp 14) 29 29 rfl 5 Tryz.underlying29 (by kernel_rfl) _ _ _ _ _ _ (by rfl) (by rfl) (by simp) ?_))
  go_simp
  go_upto_region 1 with fail
  go_region_law (first | (refine stepN6_append rfl (.tmp 20) (.tmp 23) rfl B y n c bs (by rfl) (by exact unhide hown 2) _ m d ys (by rfl) (by first | exact unhide hsrc 2) (by exact unhide hnl) (by omega) (by first | exact hBw) ?_; intro g6 c6 w6; rw [← unhide HM]; intro o6 gr6 hat6; have q6 := unhide HEND 2 g6 c6 w6 o6 gr6 hat6; have k61 := q6.1.1; have k62 := q6.1.2.1 0; have k63 := q6.1.2.1 1; obtain ⟨u6, k60⟩ := q6.1.2.2; have Q6 := hide q6.2; clear q6 o6 gr6 hat6))
  clear HEND hown hsrc hnl c0 c1 f0 f1 HS HA
  go_wp2
  all_goals
    go_end0
    exact ⟨rfl, by rw [← unhide HM]; exact unhide Q6⟩

/-- One byte copied into bytes of one's own, in a region that draws. -/
theorem stepP_copy {w : World} {ops : Array Oper} {o : Oper} {a : Act} {K : Act → World → Prop} {Q : Exit → Act → World → Prop} {E : Prop} (hgd : o.guard = none) (d s : Operand)
    (ho : o.op = .call { callee := .builtin .copy, args := #[d, s], argTypes := #[29, 29] }) (B y n c i : Nat) (bs : List UInt8) (u : UInt8) (hown : w.ownsRow B 5 1 (.slice (some ⟨y, 0, none⟩) n c) n (bv bs)) (hi : i < n)
    (dLen dCap : Nat) (hd : a.eval d = .slice (some ⟨y, i, none⟩) dLen dCap) (hdl : 0 < dLen) (z sCap : Nat) (hs : a.eval s = .slice (some ⟨z, 0, none⟩) 1 sCap) (hz : w.cell? ⟨z, 0, none⟩ = some (.int .u8 (u.toNat : Int)))
    (h : ∀ w', w'.ownsRow B 5 1 (.slice (some ⟨y, 0, none⟩) n c) n (bv (bs.set i u)) → (∀ k, k ≠ y → w'.heap[k]? = w.heap[k]?) → w'.heap.size = w.heap.size → Below B w w' → K (a.put o.dst (.int .i64 1)) w') :
    if Region.wanted o (yielded ops a.tmps) = true then Oper.wp Tryz.prog o a w K Q else E := by
  rw [if_pos (by simp [Region.wanted, hgd])]
  rcases hown.2 with ⟨e, _⟩ | ⟨g, cap, cur, e, hB, hg, hnc, hcm, hcs, htake⟩
  · cases e
  · simp only [Value.slice.injEq, Option.some.injEq, Addr.mk.injEq, and_true, true_and] at e
    obtain ⟨rfl, rfl⟩ := e
    have hl := hown.1
    rw [Nat.mul_one] at hl hcs htake
    have hrun := run_copy_row (P := Tryz.prog) w 29 29 o.type 5 y i dLen dCap ⟨z, 0, none⟩ 1 sCap cur 5 [.int .u8 (u.toNat : Int)] Tryz.underlying29 (by kernel_rfl) hg (by show 1 = min 1 dLen; omega) (fun j v hj => by
      match j with
      | 0 =>
        simp at hj
        subst hj
        simpa [Addr.add_mid] using hz
      | j + 1 => simp at hj) (by show i + 1 ≤ _; omega) (by simp [Value.oneCell'])
    unfold Oper.wp
    simp [execOp, ho, resolve, invoke, builtin, hd, hs, hrun, Result.andThen]
    refine h _ ⟨?_, .inr ⟨y, c, _, rfl, hB, setRow_heap w y cur _ _ _ hg, hnc, hcm, ?_, ?_⟩⟩ (fun k hk => setRow_other w y k _ hk) (by simp [World.setRow]) ⟨rfl, rfl, rfl, by simp [World.setRow], fun k hk => setRow_other w y k _ (by omega)⟩
    · rw [bv_length, List.length_set]
      rw [bv_length] at hl
      omega
    · simp
      omega
    · have h2 : bv (bs.set i u) = (bv bs).set i (.int .u8 (u.toNat : Int)) := by simp [bv, List.map_set]
      rw [h2, ← htake, Nat.mul_one]
      have h3 : cur.toList.take i ++ (Value.int .u8 (u.toNat : Int) :: cur.toList.drop (i + 1)) = cur.toList.set i (.int .u8 (u.toNat : Int)) := by
        rw [List.set_eq_take_append_cons_drop, if_pos (by rw [Array.length_toList]; omega)]
      show List.take n (cur.toList.take i ++ (Value.int .u8 (u.toNat : Int) :: cur.toList.drop (i + 1))) = _
      rw [h3, List.take_set]

/-- An append of nothing, in a region that draws. -/
theorem stepF_append {w : World} {ops : Array Oper} {o : Oper} {a : Act} {K : Act → World → Prop} {Q : Exit → Act → World → Prop} {E : Prop} (hgd : o.guard = none) (s x : Operand) (ho : o.op = .call { callee := .builtin .append, args := #[s, x], argTypes := #[29, 29] })
    (base g n cap : Nat) (xs : List UInt8) (hs : a.eval s = .slice (some ⟨g, 0, none⟩) n cap) (hown : w.ownsRow base 5 1 (.slice (some ⟨g, 0, none⟩) n cap) n (bv xs)) (ad : Addr) (c : Nat) (hx : a.eval x = .slice (some ad) 0 c)
    (h : ∀ w', w'.ownsRow base 5 1 (.slice (some ⟨g, 0, none⟩) n cap) n (bv xs) → w.grownBy w' (some g) → K (a.put o.dst (.slice (some ⟨g, 0, none⟩) n cap)) w') :
    if Region.wanted o (yielded ops a.tmps) = true then Oper.wp Tryz.prog o a w K Q else E := by
  rw [if_pos (by simp [Region.wanted, hgd])]
  obtain ⟨i0, hi, hz0, hz1, hz2⟩ := info_parts infoB
  obtain ⟨w', hr, h2, h3⟩ := run_append_fits (P := Tryz.prog) w base 29 o.type 5 i0 1 Tryz.underlying29 hi hz1 g n cap (bv xs) hown ad 0 c [] rfl (fun j u hu => by simp at hu) (fun u hu => by simp at hu) (own_cap hown).1
  unfold Oper.wp
  simp [execOp, ho, resolve, invoke, builtin, hs, hx, hr, Result.andThen]
  rw [Nat.add_zero, List.append_nil] at h2
  exact h w' h2 h3

structure PutIn (T : TypeId) (w : World) (B x y c : Nat) (bs : List UInt8) (K : Nat) (W : World) : Prop where
  sp : Sp T W B x y c bs K
  bel : Below B w W
  oth : ∀ k, k < w.heap.size → k ≠ x → k ≠ y → W.heap[k]? = w.heap[k]?

set_option maxHeartbeats 1600000 in
theorem dput_in (T : TypeId) (w : World) (B x y c i : Nat) (bs : List UInt8) (h : Sp T w B x y c bs i) (hi : i < bs.length) (z : Nat) (u : UInt8) (hz : w.cell? ⟨z, 0, none⟩ = some (.int .u8 (u.toNat : Int))) (hn : bs.length ≤ 140737488355328) :
    Calls Tryz.prog 120 #[.pointer (some ⟨x, 0, none⟩), .slice (some ⟨z, 0, none⟩) 1 1] w fun e w' => e = .returned (.tuple #[]) ∧ PutIn T w B x y c (bs.set i u) (i + 1) w' := by
  have c0 := h.c0
  have c1 := h.c1
  have hcap := own_cap h.row
  have hBx := h.hx
  have hBw : B ≤ w.heap.size := Nat.le_trans h.hx (Nat.le_of_lt h.xlt)
  have hown : Hid (∀ j, (w.drewN j).ownsRow B 5 1 (.slice (some ⟨y, 0, none⟩) bs.length c) bs.length (bv bs)) := fun j => (h.drewN j).row
  have hci : ¬ c = i := by omega
  have HA : Hid (∀ j (W : World), (∀ k, k ≠ y → W.heap[k]? = (w.drewN j).heap[k]?) → W.cell? ⟨x, 0, none⟩ = some (.slice (some ⟨y, 0, none⟩) bs.length c) ∧ W.cell? ⟨x, 1, none⟩ = some (.int .i64 (i : Int)) ∧ W.frozen? ⟨x, 0, none⟩ = false ∧ W.frozen? ⟨x, 1, none⟩ = false) := fun j W hW => by
    have hblk : W.heap[x]? = _ := (hW x h.ne).trans h.blk
    exact ⟨by rw [cell_of_row _ _ _ _ _ _ hblk]; rfl, by rw [cell_of_row _ _ _ _ _ _ hblk]; rfl, frozen_of_row _ _ _ _ _ hblk, frozen_of_row _ _ _ _ _ hblk⟩
  have HE : Hid (∀ (j j' : Nat) (W W' : World), (∀ k, k ≠ y → W.heap[k]? = (w.drewN j).heap[k]?) → W.heap.size = (w.drewN j).heap.size → Below B (w.drewN j) W → (W.drewN j').grownBy W' (some y) → W'.ownsRow B 5 1 (.slice (some ⟨y, 0, none⟩) bs.length c) bs.length (bv (bs.set i u)) →
      W'.cell? ⟨x, 0, none⟩ = some (.slice (some ⟨y, 0, none⟩) bs.length c) ∧ W'.cell? ⟨x, 1, none⟩ = some (.int .i64 (i : Int)) ∧ W'.frozen? ⟨x, 0, none⟩ = false ∧ W'.frozen? ⟨x, 1, none⟩ = false ∧
      PutIn T w B x y c (bs.set i u) (i + 1) ((W'.setCell ⟨x, 0, none⟩ (.slice (some ⟨y, 0, none⟩) bs.length c)).setCell ⟨x, 1, none⟩ (.int .i64 ((i + 1 : Nat) : Int)))) := fun j j' W W' hW hsz hb g1 o1 => by
    have hlW : ∀ k, k < w.heap.size → k ≠ y → W'.heap[k]? = w.heap[k]? := fun k hk hy => (g1.block k (by show k < W.heap.size; rw [hsz]; exact hk) (by simpa using hy)).trans (hW k hy)
    have hblk : W'.heap[x]? = _ := (hlW x h.xlt h.ne).trans h.blk
    refine ⟨by rw [cell_of_row _ _ _ _ _ _ hblk]; rfl, by rw [cell_of_row _ _ _ _ _ _ hblk]; rfl, frozen_of_row _ _ _ _ _ hblk, frozen_of_row _ _ _ _ _ hblk, ?_, ?_, fun k hk h1 h2 => ?_⟩
    · have := Sp.stored (bs := bs.set i u) hBx hblk o1 (by rw [List.length_set]) h.ne (i + 1)
      exact this
    · have f1 : Below B w W := (below_drewN (Below.refl _ _) j).trans hb
      have f2 : Below B w W' := (below_drewN f1 j').grown g1 (by show B ≤ W.heap.size; rw [hsz]; exact hBw) (fun k hk => by simp at hk; rw [← hk]; exact h.y.1)
      exact (f2.setCell (p := ⟨x, 0, none⟩) hBx _).setCell (p := ⟨x, 1, none⟩) hBx _
    · exact ((Below.heap_setCell _ _ _ _ h1).trans (Below.heap_setCell _ _ _ _ h1)).trans (hlW k hk h2)
  have HZ := hide hz
  clear h hz
  obtain ⟨M, hM⟩ : ∃ M, M = i + 1 := ⟨_, rfl⟩
  rw [← hM] at HE ⊢
  have k1 : (i : Int) + 1 = (M : Int) := by omega
  have k2 : IntKind.i64.wrap (M : Int) = (M : Int) := by rw [IntKind.wrap_i64]; omega
  have k3 : (M : Int) ≤ 9223372036854775807 := by omega
  generalize hnb : bs.length = n at *
  have k4 : (n : Int) ≤ (c : Int) := by omega
  have k5 : (i : Int) ≤ (n : Int) := by omega
  have k6 : (c : Int) ≤ 9223372036854775807 := by omega
  clear hnb hM
  go_enter Tryz.func120, Tryz.ntmps120
  go_wp2_with fail
  go_region_held_law (fun W => W.cell? ⟨x, 0, none⟩ = some (.slice (some ⟨y, 0, none⟩) n c) ∧ W.cell? ⟨x, 1, none⟩ = some (.int .i64 (i : Int))) (go_keep)
    (first | (refine stepP_copy rfl (.tmp 13) (.tmp 14) rfl B y n c i bs u (by exact unhide hown 1) hi (n - i) (c - i) (by rfl) (by omega) z 1 (by rfl) (by exact unhide HZ) ?_; intro w5 o5 oth5 sz5 f5; obtain ⟨k50, k51, k52, k53⟩ := unhide HA 1 w5 oth5; have O5 := hide o5; have OT5 := hide oth5; have SZ5 := hide sz5; have F5 := hide f5; clear o5 oth5 sz5 f5))
  clear HA hown HZ c0 c1
  go_simp
  go_upto_region 1 with fail
  go_region_law (first | (refine stepF_append rfl (.tmp 20) (.tmp 23) rfl B y n c (bs.set i u) (by rfl) (by exact unhide O5) _ 0 (by rfl) ?_; intro w6 o6 g6; obtain ⟨k60, k61, k62, k63, q6⟩ := unhide HE 1 1 w5 w6 (unhide OT5) (unhide SZ5) (unhide F5) g6 o6; have Q6 := hide q6; clear q6 o6 g6))
  clear HE O5 OT5 SZ5 F5 k50 k51 k52 k53
  go_wp2
  go_end0
  exact ⟨rfl, unhide Q6⟩

end Go.Proofs.YtdcoknnjgpdigaaGreatDoor
