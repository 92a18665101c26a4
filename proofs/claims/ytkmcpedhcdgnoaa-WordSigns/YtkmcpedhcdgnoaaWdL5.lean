/- The landed word: the writer's calls. -/
import Derived.Test.YtkmcpedhcdgnoaaWdL4
namespace Go.Proofs.Ytkmcpedhcdgnoaa
open Go.RowKit
set_option linter.unusedVariables false

theorem step_copy_none {P : Program} {ops : Array Oper} {o : Oper} {a : Act} {w : World} {K : Act → World → Prop} {Q : Exit → Act → World → Prop} {E : Prop} (hgd : o.guard = none) (d s : Operand) (dT sT : TypeId)
    (ho : o.op = .call { callee := .builtin .copy, args := #[d, s], argTypes := #[dT, sT] }) (elem : TypeId) (hu : P.underlying dT = some (.slice elem)) (hsz : (P.info? elem).map (·.size) = some 1)
    (dp sp : Option Addr) (dLen dCap sLen sCap : Nat) (hd : a.eval d = .slice dp dLen dCap) (hs : a.eval s = .slice sp sLen sCap) (hn : Nat.min sLen dLen = 0)
    (h : K (a.put o.dst (goInt 0)) w) : if Region.wanted o (yielded ops a.tmps) = true then Oper.wp P o a w K Q else E := by
  rw [if_pos (by simp [Region.wanted, hgd])]
  have hrun := run_copy_none (P := P) w dT sT o.type elem dp sp dLen dCap sLen sCap hu hsz hn
  unfold Oper.wp
  simp [execOp, ho, resolve, invoke, builtin, hd, hs, hrun, Result.andThen]
  exact h

/-- An append to bytes of one's own that are not nil, in a region that draws: where the new slice lies. -/
theorem stepN_append {w : World} {ops : Array Oper} {o : Oper} {a : Act} {K : Act → World → Prop} {Q : Exit → Act → World → Prop} {E : Prop} (hgd : o.guard = none) (s x : Operand) (ho : o.op = .call { callee := .builtin .append, args := #[s, x], argTypes := #[22, 22] })
    (base g n cap : Nat) (xs : List UInt8) (hs : a.eval s = .slice (some ⟨g, 0, none⟩) n cap) (hown : w.ownsRow base 5 1 (.slice (some ⟨g, 0, none⟩) n cap) n (bv xs)) (src : Option Addr) (m c : Nat) (ys : List UInt8) (hx : a.eval x = .slice src m c) (hb : Bs w src m ys) (hnil : src = none → m = 0 ∧ c = 0)
    (hsm : n + m ≤ 140737488355328) (hbase : base ≤ w.heap.size) (h : ∀ g' c' w', w'.ownsRow base 5 1 (.slice (some ⟨g', 0, none⟩) (n + m) c') (n + m) (bv (xs ++ ys)) → w.grownBy w' (some g) → (g' = g ∨ w.heap.size ≤ g') → K (a.put o.dst (.slice (some ⟨g', 0, none⟩) (n + m) c')) w') :
    if Region.wanted o (yielded ops a.tmps) = true then Oper.wp Try.prog o a w K Q else E := by
  rw [if_pos (by simp [Region.wanted, hgd])]
  obtain ⟨i0, hi, hz0, hz1, hz2⟩ := info_parts infoB
  cases src with
  | none =>
    obtain ⟨rfl, rfl⟩ := hnil rfl
    have h0 : ys = [] := List.eq_nil_of_length_eq_zero hb.1
    subst h0
    have hrun := run_append_owned_none (P := Try.prog) (w := w) base 22 o.type 5 i0 1 Try.underlying22 hi _ n (bv xs) hown
    unfold Oper.wp
    simp [execOp, ho, resolve, invoke, builtin, hs, hx, hrun, Result.andThen]
    exact h g cap w (by rw [List.append_nil]; exact hown) ⟨rfl, rfl, rfl, Nat.le_refl _, fun _ _ _ => rfl⟩ (.inl rfl)
  | some ad =>
    obtain ⟨v', w', hr, h2, h3, h4, h5⟩ := run_append_own_at (P := Try.prog) w base 22 o.type 5 i0 (.int .u8 0) 1 1 Try.underlying22 hi hz0 hz1 hz2 rfl (by decide) _ n (bv xs) hown ad m c (bv ys) (by rw [bv_length, hb.1]; omega) (hb.at.2 ad rfl) (bv_one _) (by unfold maxLen; omega) (by omega) hbase
    unfold Oper.wp
    simp [execOp, ho, resolve, invoke, builtin, hs, hx, hr, Result.andThen]
    rcases h2.2 with ⟨e, _⟩ | ⟨g', c', cur, rfl, _⟩
    · have := (h4.1 e).1
      cases this
    · refine h g' c' w' (by rw [bv_append]; exact h2) h3 ?_
      rcases h5 with h5 | h5
      · simp [Value.ownBlock] at h5
        exact .inl h5
      · simp [Value.ownBlock] at h5
        exact .inr (by omega)

theorem Sp.stored {T : TypeId} {W : World} {B x y n c : Nat} {bs : List UInt8} {v0 v1 : Value} (hx : B ≤ x) (hb : W.heap[x]? = some (.cells #[v0, v1] T (0, 0))) (ho : W.ownsRow B 5 1 (.slice (some ⟨y, 0, none⟩) n c) n (bv bs)) (hl : bs.length = n) (hne : x ≠ y) (K : Nat) :
    Sp T ((W.setCell ⟨x, 0, none⟩ (.slice (some ⟨y, 0, none⟩) n c)).setCell ⟨x, 1, none⟩ (.int .i64 (K : Int))) B x y c bs K := by
  subst hl
  refine ⟨hx, hne, pair_set _ _ hb, own_of_block ho (fun k hk => ?_)⟩
  simp [Value.ownBlock] at hk
  subst hk
  exact (Below.heap_setCell _ _ _ _ hne.symm).trans (Below.heap_setCell _ _ _ _ hne.symm)

/-- What put leaves: a span of the new bytes, its place behind them. -/
structure PutOk (T : TypeId) (w : World) (B x y : Nat) (bs : List UInt8) (K : Nat) (W : World) : Prop where
  sp : ∃ y' c', Sp T W B x y' c' bs K ∧ (y' = y ∨ w.heap.size ≤ y')
  bel : Below B w W
  oth : ∀ k, k < w.heap.size → k ≠ x → k ≠ y → W.heap[k]? = w.heap[k]?

set_option maxHeartbeats 1600000 in
theorem dput_end (T : TypeId) (w : World) (B x y c : Nat) (bs : List UInt8) (h : Sp T w B x y c bs bs.length) (a : Option Addr) (m d : Nat) (ys : List UInt8) (hb : Arg w a m d ys) (hfar : ∀ b o, a = some ⟨b, o, none⟩ → 0 < m → b ≠ x ∧ b ≠ y) (hn : bs.length + m ≤ 140737488355328) :
    Calls Try.prog 43 #[.pointer (some ⟨x, 0, none⟩), .slice a m d] w fun e w' => e = .returned (.tuple #[]) ∧ PutOk T w B x y (bs ++ ys) (bs.length + m) w' := by
  have c0 := h.c0
  have c1 := h.c1
  have hcap := own_cap h.row
  have f0 := h.fz 0
  have f1 := h.fz 1
  have HS := hide h
  have HA := hide hb
  have hr := hb.room
  have hmo := hb.most
  have hyl := hb.bs.1
  have hBw : B ≤ w.heap.size := Nat.le_trans h.hx (Nat.le_of_lt h.xlt)
  have hxlt := h.xlt
  have hr1 : (m : Int) ≤ (d : Int) := by omega
  have hr2 : (d : Int) ≤ 9223372036854775807 := by omega
  have hBx := h.hx
  have HEND : Hid (∀ (j : Nat) (g' c' : Nat) (W : World), W.ownsRow B 5 1 (.slice (some ⟨g', 0, none⟩) (bs.length + m) c') (bs.length + m) (bv (bs ++ ys)) → (w.drewN j).grownBy W (some y) → (g' = y ∨ w.heap.size ≤ g') →
      (W.cell? ⟨x, 1, none⟩ = some (.int .i64 (bs.length : Int)) ∧ (∀ q, W.frozen? ⟨x, q, none⟩ = false) ∧ (∃ u, W.cell? ⟨x, 0, none⟩ = some u)) ∧
      PutOk T w B x y (bs ++ ys) (bs.length + m) ((W.setCell ⟨x, 0, none⟩ (.slice (some ⟨g', 0, none⟩) (bs.length + m) c')).setCell ⟨x, 1, none⟩ (.int .i64 ((bs.length + m : Nat) : Int)))) := fun j g' c' W o1 g1 hat => by
    have hblk : W.heap[x]? = _ := (g1.block x hxlt (by simpa using h.ne)).trans h.blk
    have hne : x ≠ g' := by
      rcases hat with e | e
      · rw [e]; exact h.ne
      · omega
    refine ⟨⟨by rw [cell_of_row _ _ _ _ _ _ hblk]; rfl, fun q => frozen_of_row _ _ _ _ _ hblk, _, by rw [cell_of_row _ _ _ _ _ _ hblk]; rfl⟩, ⟨g', c', Sp.stored hBx hblk o1 (by rw [List.length_append, hyl]) hne _, hat⟩, ?_, fun k hk h1 h2 => ?_⟩
    · have f : Below B w W := ((below_drewN (Below.refl _ _) j).grown g1 (by simpa using hBw) (fun k hk => by simp at hk; rw [← hk]; exact h.y.1))
      exact (f.setCell (p := ⟨x, 0, none⟩) hBx _).setCell (p := ⟨x, 1, none⟩) hBx _
    · exact ((Below.heap_setCell _ _ _ _ h1).trans (Below.heap_setCell _ _ _ _ h1)).trans (g1.block k hk (by simpa using h2))
  have hown : Hid (∀ j, (w.drewN j).ownsRow B 5 1 (.slice (some ⟨y, 0, none⟩) bs.length c) bs.length (bv bs)) := fun j => (h.drewN j).row
  have hsrc : Hid (∀ j, Bs (w.drewN j) a m ys) := fun j => hb.bs.below (below_drewN (Below.refl _ _) j)
  have hnl := hide hb.nil
  clear h hb hfar
  obtain ⟨M, hM⟩ : ∃ M, M = bs.length + m := ⟨_, rfl⟩
  rw [← hM] at HEND
  have k1 : (bs.length : Int) + (m : Int) = (M : Int) := by omega
  have k2 : IntKind.i64.wrap (M : Int) = (M : Int) := by rw [IntKind.wrap_i64]; omega
  have k3 : (M : Int) ≤ 9223372036854775807 := by omega
  generalize hnb : bs.length = n at *
  clear hnb
  have l1 : (n : Int) ≤ (c : Int) := by omega
  have l2 : (c : Int) ≤ 9223372036854775807 := by omega
  have HM := hide hM
  clear hM
  go_enter Try.func43, Try.ntmps43
  go_wp2_with fail
  go_region_held_law (fun W => W.cell? ⟨x, 0, none⟩ = some (.slice (some ⟨y, 0, none⟩) n c) ∧ W.cell? ⟨x, 1, none⟩ = some (.int .i64 (n : Int))) (go_keep)
    (first | (refine step_copy_none rfl (.tmp 13) (.tmp 14) 22 22 rfl 5 Try.underlying22 (by kernel_rfl) _ _ _ _ _ _ (by rfl) (by rfl) (by simp) ?_))
  go_simp
  go_upto_region 1 with fail
  go_region_law (first | (refine stepN_append rfl (.tmp 20) (.tmp 23) rfl B y n c bs (by rfl) (by exact unhide hown 2) _ m d ys (by rfl) (by first | exact unhide hsrc 2) (by exact unhide hnl) (by omega) (by first | exact hBw) ?_; intro g6 c6 w6; rw [← unhide HM]; intro o6 gr6 hat6; have q6 := unhide HEND 2 g6 c6 w6 o6 gr6 hat6; have k61 := q6.1.1; have k62 := q6.1.2.1 0; have k63 := q6.1.2.1 1; obtain ⟨u6, k60⟩ := q6.1.2.2; have Q6 := hide q6.2; clear q6 o6 gr6 hat6))
  clear HEND hown hsrc hnl c0 c1 f0 f1 HS HA
  go_wp2
  all_goals
    go_end0
    exact ⟨rfl, by rw [← unhide HM]; exact unhide Q6⟩

/-- One byte copied into bytes of one's own, in a region that draws. -/
theorem stepP_copy {w : World} {ops : Array Oper} {o : Oper} {a : Act} {K : Act → World → Prop} {Q : Exit → Act → World → Prop} {E : Prop} (hgd : o.guard = none) (d s : Operand)
    (ho : o.op = .call { callee := .builtin .copy, args := #[d, s], argTypes := #[22, 22] }) (B y n c i : Nat) (bs : List UInt8) (u : UInt8) (hown : w.ownsRow B 5 1 (.slice (some ⟨y, 0, none⟩) n c) n (bv bs)) (hi : i < n)
    (dLen dCap : Nat) (hd : a.eval d = .slice (some ⟨y, i, none⟩) dLen dCap) (hdl : 0 < dLen) (z sCap : Nat) (hs : a.eval s = .slice (some ⟨z, 0, none⟩) 1 sCap) (hz : w.cell? ⟨z, 0, none⟩ = some (.int .u8 (u.toNat : Int)))
    (h : ∀ w', w'.ownsRow B 5 1 (.slice (some ⟨y, 0, none⟩) n c) n (bv (bs.set i u)) → (∀ k, k ≠ y → w'.heap[k]? = w.heap[k]?) → w'.heap.size = w.heap.size → Below B w w' → K (a.put o.dst (.int .i64 1)) w') :
    if Region.wanted o (yielded ops a.tmps) = true then Oper.wp Try.prog o a w K Q else E := by
  rw [if_pos (by simp [Region.wanted, hgd])]
  rcases hown.2 with ⟨e, _⟩ | ⟨g, cap, cur, e, hB, hg, hnc, hcm, hcs, htake⟩
  · cases e
  · simp only [Value.slice.injEq, Option.some.injEq, Addr.mk.injEq, and_true, true_and] at e
    obtain ⟨rfl, rfl⟩ := e
    have hl := hown.1
    rw [Nat.mul_one] at hl hcs htake
    have hrun := run_copy_row (P := Try.prog) w 22 22 o.type 5 y i dLen dCap ⟨z, 0, none⟩ 1 sCap cur 5 [.int .u8 (u.toNat : Int)] Try.underlying22 (by kernel_rfl) hg (by show 1 = min 1 dLen; omega) (fun j v hj => by
      match j with
      | 0 =>
        simp at hj
        subst hj
        simpa [Addr.add_mid] using hz
      | j + 1 => simp at hj) (by show i + 1 ≤ _; omega) (by simp [Value.oneCell'])
    unfold Oper.wp
    simp [execOp, ho, resolve, invoke, builtin, hd, hs, hrun, Result.andThen]
    refine h _ ⟨?_, .inr ⟨y, c, _, rfl, hB, setRow_heap w y cur _ _ _ hg, hnc, hcm, ?_, ?_⟩⟩ (fun k hk => setRow_other w y k _ hk) (by simp [World.setRow]) ⟨rfl, rfl, rfl, by simp [World.setRow], fun k hk => setRow_other w y k _ (by omega)⟩
    · rw [bv_length, List.length_set]
      rw [bv_length] at hl
      omega
    · simp
      omega
    · have h2 : bv (bs.set i u) = (bv bs).set i (.int .u8 (u.toNat : Int)) := by simp [bv, List.map_set]
      rw [h2, ← htake, Nat.mul_one]
      have h3 : cur.toList.take i ++ (Value.int .u8 (u.toNat : Int) :: cur.toList.drop (i + 1)) = cur.toList.set i (.int .u8 (u.toNat : Int)) := by
        rw [List.set_eq_take_append_cons_drop, if_pos (by rw [Array.length_toList]; omega)]
      show List.take n (cur.toList.take i ++ (Value.int .u8 (u.toNat : Int) :: cur.toList.drop (i + 1))) = _
      rw [h3, List.take_set]

/-- An append of nothing, in a region that draws. -/
theorem stepF_append {w : World} {ops : Array Oper} {o : Oper} {a : Act} {K : Act → World → Prop} {Q : Exit → Act → World → Prop} {E : Prop} (hgd : o.guard = none) (s x : Operand) (ho : o.op = .call { callee := .builtin .append, args := #[s, x], argTypes := #[22, 22] })
    (base g n cap : Nat) (xs : List UInt8) (hs : a.eval s = .slice (some ⟨g, 0, none⟩) n cap) (hown : w.ownsRow base 5 1 (.slice (some ⟨g, 0, none⟩) n cap) n (bv xs)) (ad : Addr) (c : Nat) (hx : a.eval x = .slice (some ad) 0 c)
    (h : ∀ w', w'.ownsRow base 5 1 (.slice (some ⟨g, 0, none⟩) n cap) n (bv xs) → w.grownBy w' (some g) → K (a.put o.dst (.slice (some ⟨g, 0, none⟩) n cap)) w') :
    if Region.wanted o (yielded ops a.tmps) = true then Oper.wp Try.prog o a w K Q else E := by
  rw [if_pos (by simp [Region.wanted, hgd])]
  obtain ⟨i0, hi, hz0, hz1, hz2⟩ := info_parts infoB
  obtain ⟨w', hr, h2, h3⟩ := run_append_fits (P := Try.prog) w base 22 o.type 5 i0 1 Try.underlying22 hi hz1 g n cap (bv xs) hown ad 0 c [] rfl (fun j u hu => by simp at hu) (fun u hu => by simp at hu) (own_cap hown).1
  unfold Oper.wp
  simp [execOp, ho, resolve, invoke, builtin, hs, hx, hr, Result.andThen]
  rw [Nat.add_zero, List.append_nil] at h2
  exact h w' h2 h3

structure PutIn (T : TypeId) (w : World) (B x y c : Nat) (bs : List UInt8) (K : Nat) (W : World) : Prop where
  sp : Sp T W B x y c bs K
  bel : Below B w W
  oth : ∀ k, k < w.heap.size → k ≠ x → k ≠ y → W.heap[k]? = w.heap[k]?

set_option maxHeartbeats 1600000 in
theorem dput_in (T : TypeId) (w : World) (B x y c i : Nat) (bs : List UInt8) (h : Sp T w B x y c bs i) (hi : i < bs.length) (z : Nat) (u : UInt8) (hz : w.cell? ⟨z, 0, none⟩ = some (.int .u8 (u.toNat : Int))) (hn : bs.length ≤ 140737488355328) :
    Calls Try.prog 43 #[.pointer (some ⟨x, 0, none⟩), .slice (some ⟨z, 0, none⟩) 1 1] w fun e w' => e = .returned (.tuple #[]) ∧ PutIn T w B x y c (bs.set i u) (i + 1) w' := by
  have c0 := h.c0
  have c1 := h.c1
  have hcap := own_cap h.row
  have hBx := h.hx
  have hBw : B ≤ w.heap.size := Nat.le_trans h.hx (Nat.le_of_lt h.xlt)
  have hown : Hid (∀ j, (w.drewN j).ownsRow B 5 1 (.slice (some ⟨y, 0, none⟩) bs.length c) bs.length (bv bs)) := fun j => (h.drewN j).row
  have hci : ¬ c = i := by omega
  have HA : Hid (∀ j (W : World), (∀ k, k ≠ y → W.heap[k]? = (w.drewN j).heap[k]?) → W.cell? ⟨x, 0, none⟩ = some (.slice (some ⟨y, 0, none⟩) bs.length c) ∧ W.cell? ⟨x, 1, none⟩ = some (.int .i64 (i : Int)) ∧ W.frozen? ⟨x, 0, none⟩ = false ∧ W.frozen? ⟨x, 1, none⟩ = false) := fun j W hW => by
    have hblk : W.heap[x]? = _ := (hW x h.ne).trans h.blk
    exact ⟨by rw [cell_of_row _ _ _ _ _ _ hblk]; rfl, by rw [cell_of_row _ _ _ _ _ _ hblk]; rfl, frozen_of_row _ _ _ _ _ hblk, frozen_of_row _ _ _ _ _ hblk⟩
  have HE : Hid (∀ (j j' : Nat) (W W' : World), (∀ k, k ≠ y → W.heap[k]? = (w.drewN j).heap[k]?) → W.heap.size = (w.drewN j).heap.size → Below B (w.drewN j) W → (W.drewN j').grownBy W' (some y) → W'.ownsRow B 5 1 (.slice (some ⟨y, 0, none⟩) bs.length c) bs.length (bv (bs.set i u)) →
      W'.cell? ⟨x, 0, none⟩ = some (.slice (some ⟨y, 0, none⟩) bs.length c) ∧ W'.cell? ⟨x, 1, none⟩ = some (.int .i64 (i : Int)) ∧ W'.frozen? ⟨x, 0, none⟩ = false ∧ W'.frozen? ⟨x, 1, none⟩ = false ∧
      PutIn T w B x y c (bs.set i u) (i + 1) ((W'.setCell ⟨x, 0, none⟩ (.slice (some ⟨y, 0, none⟩) bs.length c)).setCell ⟨x, 1, none⟩ (.int .i64 ((i + 1 : Nat) : Int)))) := fun j j' W W' hW hsz hb g1 o1 => by
    have hlW : ∀ k, k < w.heap.size → k ≠ y → W'.heap[k]? = w.heap[k]? := fun k hk hy => (g1.block k (by show k < W.heap.size; rw [hsz]; exact hk) (by simpa using hy)).trans (hW k hy)
    have hblk : W'.heap[x]? = _ := (hlW x h.xlt h.ne).trans h.blk
    refine ⟨by rw [cell_of_row _ _ _ _ _ _ hblk]; rfl, by rw [cell_of_row _ _ _ _ _ _ hblk]; rfl, frozen_of_row _ _ _ _ _ hblk, frozen_of_row _ _ _ _ _ hblk, ?_, ?_, fun k hk h1 h2 => ?_⟩
    · have := Sp.stored (bs := bs.set i u) hBx hblk o1 (by rw [List.length_set]) h.ne (i + 1)
      exact this
    · have f1 : Below B w W := (below_drewN (Below.refl _ _) j).trans hb
      have f2 : Below B w W' := (below_drewN f1 j').grown g1 (by show B ≤ W.heap.size; rw [hsz]; exact hBw) (fun k hk => by simp at hk; rw [← hk]; exact h.y.1)
      exact (f2.setCell (p := ⟨x, 0, none⟩) hBx _).setCell (p := ⟨x, 1, none⟩) hBx _
    · exact ((Below.heap_setCell _ _ _ _ h1).trans (Below.heap_setCell _ _ _ _ h1)).trans (hlW k hk h2)
  have HZ := hide hz
  clear h hz
  obtain ⟨M, hM⟩ : ∃ M, M = i + 1 := ⟨_, rfl⟩
  rw [← hM] at HE ⊢
  have k1 : (i : Int) + 1 = (M : Int) := by omega
  have k2 : IntKind.i64.wrap (M : Int) = (M : Int) := by rw [IntKind.wrap_i64]; omega
  have k3 : (M : Int) ≤ 9223372036854775807 := by omega
  generalize hnb : bs.length = n at *
  have k4 : (n : Int) ≤ (c : Int) := by omega
  have k5 : (i : Int) ≤ (n : Int) := by omega
  have k6 : (c : Int) ≤ 9223372036854775807 := by omega
  clear hnb hM
  go_enter Try.func43, Try.ntmps43
  go_wp2_with fail
  go_region_held_law (fun W => W.cell? ⟨x, 0, none⟩ = some (.slice (some ⟨y, 0, none⟩) n c) ∧ W.cell? ⟨x, 1, none⟩ = some (.int .i64 (i : Int))) (go_keep)
    (first | (refine stepP_copy rfl (.tmp 13) (.tmp 14) rfl B y n c i bs u (by exact unhide hown 1) hi (n - i) (c - i) (by rfl) (by omega) z 1 (by rfl) (by exact unhide HZ) ?_; intro w5 o5 oth5 sz5 f5; obtain ⟨k50, k51, k52, k53⟩ := unhide HA 1 w5 oth5; have O5 := hide o5; have OT5 := hide oth5; have SZ5 := hide sz5; have F5 := hide f5; clear o5 oth5 sz5 f5))
  clear HA hown HZ c0 c1
  go_simp
  go_upto_region 1 with fail
  go_region_law (first | (refine stepF_append rfl (.tmp 20) (.tmp 23) rfl B y n c (bs.set i u) (by rfl) (by exact unhide O5) _ 0 (by rfl) ?_; intro w6 o6 g6; obtain ⟨k60, k61, k62, k63, q6⟩ := unhide HE 1 1 w5 w6 (unhide OT5) (unhide SZ5) (unhide F5) g6 o6; have Q6 := hide q6; clear q6 o6 g6))
  clear HE O5 OT5 SZ5 F5 k50 k51 k52 k53
  go_wp2
  go_end0
  exact ⟨rfl, unhide Q6⟩

end Go.Proofs.Ytkmcpedhcdgnoaa
