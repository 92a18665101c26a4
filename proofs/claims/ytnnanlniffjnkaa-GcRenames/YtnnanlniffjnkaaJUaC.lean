/- Layer 16, the landed gc: meet. -/
import Derived.Test.YtnnanlniffjnkaaJUaB

namespace Go.Proofs.Ytnnanlniffjnkaa
open Go.RowKit Go.Maps
set_option linter.unusedVariables false
set_option maxRecDepth 100000

theorem wpR_update {w : World} {o : Oper} {a : Act} {K : Act → World → Prop} {Q : Exit → Act → World → Prop} (mo xo vo : Operand) (ho : o.op = .mapUpdate 57 mo xo vo) {m N : Nat} {D : DataW Unit} (hm : a.eval mo = .map (some m))
    (hown : w.ownsMap Try.prog 3 (plainElem (H := Unit) Try.prog 3) m N D) (hN : N < maxLen) {n c : Int} (hx : a.eval xo = .int .i64 n) (hv : a.eval vo = .int .i64 c) (hn : fitI n) (hc : fitI c)
    (h : ∀ w', w'.ownsMap Try.prog 3 (plainElem (H := Unit) Try.prog 3) m (N + 1) (D.put (.int .i64 n) (.lit (.int .i64 c))) → w.grownBy w' (some m) → K (a.put o.dst undef) w') : o.wp Try.prog a w K Q := by
  obtain ⟨w', hrun, r1, r2⟩ := hown.update klaw16 Try.underlying57 hN (kkey16 hn) (plainElem_int (H := Unit) (P := Try.prog) Try.underlying3 (a := c) (q := .i64) (wf16 hc))
  unfold Oper.wp
  simp [execOp, ho, hm, hx, hv, hrun, Result.andThen]
  exact h w' r1 r2
/-- A block that a walk doesn't write. -/
def NoQ (m k : Nat) (o : Obj) : Prop := (∀ X fr, o ≠ .cells X 3 fr) ∧ (∀ X fr, o ≠ .cells X 59 fr) ∧ ∀ es c, o = .map es c → k ≠ m
def GQ (m B : Nat) (A C : World) : Prop := Below B A C ∧ ∀ (k : Nat) (o : Obj), A.heap[k]? = some o → NoQ m k o → C.heap[k]? = some o
theorem GQ.refl (m B : Nat) (A : World) : GQ m B A A := ⟨Below.refl _ _, fun _ _ h _ => h⟩
theorem GQ.trans {m B : Nat} {X Y Z : World} (h : GQ m B X Y) (k : GQ m B Y Z) : GQ m B X Z := ⟨h.1.trans k.1, fun q o hq ho => k.2 q o (h.2 q o hq ho) ho⟩
theorem gq_of_below {m B : Nat} {A C : World} (h : Below A.heap.size A C) (hn : B ≤ A.heap.size) : GQ m B A C := ⟨h.mono hn, fun k o hk _ => (h.block k (lt_of_heap hk)).trans hk⟩
theorem GQ.base {m B B' : Nat} {A C : World} (h : GQ m B A C) (hb : B' ≤ B) : GQ m B' A C := ⟨h.1.mono hb, h.2⟩
variable {B p m N : Nat} {s : Sl} {v : Value} {D : DataW Unit} {q : List Nat} {w w' : World}
/-- The queue is one longer; its map doesn't know. -/
theorem Wa.push (h : Wa B p m s v N D q w) {W W' : World} (f : Below w.heap.size w W) (hB : B ≤ w.heap.size) {n : Nat} {v' : Value} (o : Orw i15 3 1 W' B v' (qi q ++ [(n : Int)])) (g : W.grownBy W' v.ownBlock) :
    (W'.setCell ⟨p, 1, none⟩ v').heap[p]? = some (.cells #[s.v, v', .map (some m)] 59 (0, 0)) ∧ Orw i15 3 1 (W'.setCell ⟨p, 1, none⟩ v') B v' (qi (q ++ [n])) ∧ (W'.setCell ⟨p, 1, none⟩ v').ownsMap Try.prog 3 (plainElem (H := Unit) Try.prog 3) m N D ∧ GQ m B w (W'.setCell ⟨p, 1, none⟩ v') ∧ W'.heap[p]? = some (.cells #[s.v, v, .map (some m)] 59 (0, 0)) ∧ ∀ (k : Nat) (o : Obj), w.heap[k]? = some o → NoQ m k o → W'.heap[k]? = some o := by
  have hold : ∀ k, k < w.heap.size → v.ownBlock ≠ some k → W'.heap[k]? = w.heap[k]? := fun k hk hv => (g.block k (Nat.lt_of_lt_of_le hk f.size) (fun e => hv e.symm)).trans (f.block k hk)
  have hset : ∀ k, k ≠ p → (W'.setCell ⟨p, 1, none⟩ v').heap[k]? = W'.heap[k]? := fun k hk => Below.heap_setCell _ _ _ _ hk
  have hblk : W'.heap[p]? = some (.cells #[s.v, v, .map (some m)] 59 (0, 0)) := (hold p h.plt h.vp).trans h.blk
  have hvp : v'.ownBlock ≠ some p := fun e => by
    obtain ⟨X, hX⟩ := own_type o e
    rw [hblk] at hX
    injection hX with hX
    injection hX with _ hX
    cases hX
  have hbel : Below B w (W'.setCell ⟨p, 1, none⟩ v') := ((f.mono hB).grown g (Nat.le_trans hB f.size) (fun k hk => (h.row.lt k hk).1)).setCell (p := ⟨p, 1, none⟩) h.hp _
  have hno : ∀ (k : Nat) (o : Obj), w.heap[k]? = some o → NoQ m k o → W'.heap[k]? = some o := fun k ob hk ho => by
    have hkv : v.ownBlock ≠ some k := fun e => by
      obtain ⟨X, hX⟩ := own_type h.row e
      rw [hk] at hX
      injection hX with hX
      exact ho.1 _ _ hX
    rw [hold k (lt_of_heap hk) hkv, hk]
  refine ⟨heap_setCell_same W' p 1 _ _ _ hblk, ?_, map_keep h.map ((hset m h.pm.symm).trans (hold m h.map.lt h.vm)), ⟨hbel, fun k ob hk ho => ?_⟩, hblk, hno⟩
  · rw [qi_append]
    exact o.below (fun k hk => hset k (fun e => hvp (e ▸ hk)))
  · have hkp : k ≠ p := fun e => by
      rw [e, h.blk] at hk
      injection hk with hk
      exact ho.2.1 _ _ hk.symm
    rw [hset k hkp, hno k ob hk ho]
/-- .. and now it does. -/
theorem wa_told {W : World} (hp : B ≤ p) (hm : B ≤ m) {n : Nat} {v' : Value} (hblk : w.heap[p]? = some (.cells #[s.v, v', .map (some m)] 59 (0, 0))) (hrow : Orw i15 3 1 w B v' (qi (q ++ [n]))) (hmap : w.ownsMap Try.prog 3 (plainElem (H := Unit) Try.prog 3) m N D) (hpx : PX q D) (hroom : N ≤ q.length) (hn : n ∉ q) (hB : B ≤ w.heap.size)
    (f : Below w.heap.size w W) (h2 : w'.ownsMap Try.prog 3 (plainElem (H := Unit) Try.prog 3) m (N + 1) (D.put (.int .i64 (n : Int)) (.lit (.int .i64 ((q.length : Int) + 1))))) (g : W.grownBy w' (some m)) : Wa B p m s v' (N + 1) (D.put (.int .i64 (n : Int)) (.lit (.int .i64 ((q.length : Int) + 1)))) (q ++ [n]) w' ∧ GQ m B w w' := by
  have hold : ∀ k, k < w.heap.size → k ≠ m → w'.heap[k]? = w.heap[k]? := fun k hk hv => (g.block k (Nat.lt_of_lt_of_le hk f.size) (fun e => hv (by injection e))).trans (f.block k hk)
  obtain ⟨es, c, hme⟩ := map_blk hmap
  have hpm : p ≠ m := fun e => by
    rw [e, hme] at hblk
    cases hblk
  refine ⟨⟨hp, hm, (hold p (lt_of_heap hblk) hpm).trans hblk, hrow.below (fun k hk => hold k (hrow.lt k hk).2 (fun e => ?_)), h2, by simp; omega, hpx.put hmap.isMap hn⟩, ?_, fun k ob hk ho => ?_⟩
  · obtain ⟨X, hX⟩ := own_type hrow hk
    rw [e, hme] at hX
    cases hX
  · exact (f.mono hB).grown g (Nat.le_trans hB f.size) (fun k hk => by injection hk with hk; omega)
  · rw [hold k (lt_of_heap hk) (fun e => by
      rw [e, hme] at hk
      injection hk with hk
      exact ho.2.2 _ _ hk.symm e)]
    exact hk
/-- Between two rounds of meet. -/
def Meet (w0 : World) (B p m : Nat) (s : Sl) (l : List Ob) (q : List Nat) (vs : List Vl) (w : World) (k : Nat) (W : World) : Prop := ∃ v N D, Wa B p m s v N D (moreQ l q (vs.take k)) W ∧ GQ m B w W ∧ Below w0.heap.size w0 W
theorem Meet.same {w0 : World} {l : List Ob} {vs : List Vl} {k : Nat} {W W' : World} {v : Value} {x : Vl} (hx : vs[k]? = some x) (hw : Wa B p m s v N D (moreQ l q (vs.take k)) W) (g : GQ m B w W) (f0 : Below w0.heap.size w0 W) (f : Below W.heap.size W W') (hB : B ≤ W.heap.size) (h0 : w0.heap.size ≤ B) (hs : stepQ l (moreQ l q (vs.take k)) x = moreQ l q (vs.take k)) : Meet w0 B p m s l q vs w (k + 1) W' := by
  refine ⟨v, N, D, ?_, g.trans (gq_of_below f hB), f0.trans (f.mono f0.size)⟩
  rw [moreQ_take hx, hs]
  exact hw.below f
set_option maxHeartbeats 1600000 in
theorem meet_any (w0 w : World) (rs : List ObR) (h : HIn w0 s rs) (f : Below w0.heap.size w0 w) (hB : w0.heap.size ≤ B) (hB2 : B ≤ w.heap.size) (hrl : rs.length ≤ 100000) (hw : Wa B p m s v N D q w) (hq : InQ (rs.map ObR.o) q) (t : Sl) (vs : List Vl) (hv : WsIn w0 t vs) :
    Calls Try.prog 43 #[.pointer (some ⟨p, 0, none⟩), t.v] w fun e w' => (∃ v, e = .returned v) ∧ ∃ v' N' D', Wa B p m s v' N' D' (moreQ (rs.map ObR.o) q vs) w' ∧ GQ m B w w' := by
  obtain ⟨ta, tn, tc⟩ := t
  have htn : vs.length = tn := hv.ls.1
  have htm := hv.small
  simp only at htm
  have HI := hide h
  have HV := hide hv
  have HQ := hide hq
  have H0 : Hid (Meet w0 B p m s (rs.map ObR.o) q vs w 0 w) := ⟨v, N, D, hw, GQ.refl _ _ _, f⟩
  obtain ⟨l, hl⟩ : ∃ l, l = rs.map ObR.o := ⟨_, rfl⟩
  have HLL := hide hl
  have hll : l.length ≤ 100000 := by rw [hl, List.length_map]; exact hrl
  rw [← hl] at H0 HQ ⊢
  simp only [Sl.v]
  clear hw hq hv h f hl
  go_enter Try.func43, Try.ntmps43
  go_wp2
  go_loopw [8] (fun i wr => ∃ k : Nat, k ≤ tn ∧ i = .int .i64 k ∧ Meet w0 B p m s l q vs w k wr) (fun i _ => tn - (intOf i).toNat)
  case atStart => exact ⟨0, by omega, rfl, unhide H0⟩
  case round =>
    obtain ⟨k, hk, rfl, hT⟩ := hrel
    by_cases hlt : k < tn
    · have hlt1 : (k : Int) < (tn : Int) := by omega
      have hk0 : (0 : Int) ≤ (k : Int) := by omega
      obtain ⟨x, hx⟩ : ∃ x, vs[k]? = some x := ⟨_, List.getElem?_eq_getElem (by omega)⟩
      obtain ⟨b, o, ea, qq⟩ := memb_row (unhide HV) hx
      simp only at ea
      subst ea
      obtain ⟨v1, N1, D1, hW, hG, hF⟩ := hT
      obtain ⟨xk, xn⟩ := x
      have c0 : wr.cell? ⟨b, o + k * 2, none⟩ = some (.int .i64 xk) := (qq hF).zero
      have c1 : wr.cell? ⟨b, o + k * 2 + 1, none⟩ = some (.int .i64 xn) := (qq hF) 1 _ rfl
      have HX := hide hx
      have hsz : B ≤ wr.heap.size := Nat.le_trans hB2 hG.1.size
      have hin : InQ l (moreQ l q (vs.take k)) := (unhide HQ).more _
      obtain ⟨q1, hq1⟩ : ∃ q1, q1 = moreQ l q (vs.take k) := ⟨_, rfl⟩
      have HQ1 := hide hq1
      rw [← hq1] at hin
      clear hq1
      have hql := hin.le
      have HIN := hide hin
      have HG := hide hG
      have HF := hide hF
      have HW := hide hW
      obtain ⟨w2, hw2⟩ : ∃ w2, w2 = wr.alloc (.cells #[.int .i64 xk, .int .i64 xn] 47) := ⟨_, rfl⟩
      have g2 : Below wr.heap.size wr w2 := by rw [hw2]; exact (Below.refl _ _).alloc (Nat.le_refl _) _
      have HB2 : Hid (∀ W, Below w2.heap.size w2 W → W.cell? ⟨wr.heap.size, 0, none⟩ = some (.int .i64 xk) ∧ W.cell? ⟨wr.heap.size, 1, none⟩ = some (.int .i64 xn) ∧ W.cell? ⟨p, 2, none⟩ = some (.map (some m)) ∧ W.cell? ⟨p, 1, none⟩ = some v1) := fun W g => by
        rw [hw2] at g
        obtain ⟨b0, b1⟩ := stands2 (t := 47) wr (.int .i64 xk) (.int .i64 xn) W g
        rw [← hw2] at g
        have hWW := (unhide HW).below (g2.trans (g.mono g2.size))
        exact ⟨b0, b1, hWW.c2, hWW.c1⟩
      have HL : Hid (∀ W, Below w2.heap.size w2 W → Calls Try.prog 51 #[.pointer (some ⟨p, 0, none⟩), .agg #[.int .i64 xk, .int .i64 xn]] W fun e w' => e = .returned (.bool (decide (leadsN l ⟨xk, xn⟩ ≠ 0))) ∧ Below w2.heap.size w2 w') := fun W g => by
        have g3 := g2.trans (g.mono g2.size)
        have := leads_any w0 W s rs (unhide HI) ((unhide HF).trans (g3.mono (unhide HF).size)) ((unhide HW).below g3) ⟨xk, xn⟩
        rw [unhide HLL]
        exact this.mono (by rintro e w' ⟨rfl, f'⟩; exact ⟨rfl, g.trans (f'.mono g.size)⟩)
      have G2 := hide g2
      have HBX : Hid (∀ W, Below w2.heap.size w2 W → W.heap[wr.heap.size]? = some (.cells #[.int .i64 xk, .int .i64 xn] 47 (0, 0))) := fun W g => by
        rw [hw2] at g
        exact (g.block _ (by simp)).trans (heap_alloc_last _ _)
      clear g2 hW hG hF hin hx qq
      by_cases hle : leadsN l ⟨xk, xn⟩ = 0
      case pos =>
        have e0 : decide (leadsN l ⟨xk, xn⟩ ≠ 0) = false := by simp [hle]
        rw [e0] at HL
        have hs : stepQ l (moreQ l q (vs.take k)) ⟨xk, xn⟩ = moreQ l q (vs.take k) := if_neg (fun c => c.1 hle)
        go_wp2_with (rw [← hw2])
        clear hw2
        refine wp_region_seq (fun W => Below w2.heap.size w2 W) (by kernel_rfl) (by kernel_rfl) (Below.refl _ _).drew ?_
        repeat (first
          | (refine SeqDo.skips (by rfl) ?_; simp only [Act.put, List.setIfInBounds_toArray, List.set_cons_zero, List.set_cons_succ])
          | (refine SeqDo.yields (v := ?_) (by rfl) ?_ ?_; rotate_left; (focus ((intro W hSW; obtain ⟨c0, c1, c2, c3⟩ := unhide HB2 W hSW; go_simp) <;> with_reducible rfl)); simp only [Act.put, List.setIfInBounds_toArray, List.set_cons_zero, List.set_cons_succ])
          | (refine SeqDo.does (v := .bool false) (by rfl) (fun W hSW KK hKK => ?_) ?_; (focus (go_simp; go_wp2_with (go_at_call 51; refine (unhide HL _ hSW).mono ?_; rintro e W' ⟨rfl, fJ⟩); exact hKK.out _ fJ)); simp only [Act.put, List.setIfInBounds_toArray, List.set_cons_zero, List.set_cons_succ]))
        intro W hSW
        have HM : Hid (Meet w0 B p m s l q vs w (k + 1) W) := Meet.same (unhide HX) (unhide HW) (unhide HG) (unhide HF) ((unhide G2).trans (hSW.mono (unhide G2).size)) hsz hB hs
        clear hSW HB2 HL hs
        go_wp2
        go_roundw
        case rel => exact ⟨k + 1, by omega, by go_num, unhide HM⟩
        case measure => simp [intOf]; omega
      case neg =>
        have e0 : decide (leadsN l ⟨xk, xn⟩ ≠ 0) = true := by simp [hle]
        rw [e0] at HL
        obtain ⟨hlv, hk4, hxn⟩ := leads_live hle
        simp only at hk4 hxn
        obtain ⟨j, hj⟩ : ∃ j, j = leadsN l ⟨xk, xn⟩ := ⟨_, rfl⟩
        rw [← hj] at hlv hxn hle
        have HJ := hide hj
        clear hj
        subst hk4 hxn
        have hjl := (liveN_le hlv).2.1
        have hfit : fitI (j : Int) := by unfold fitI; omega
        have HLK : Hid (∀ W, Below w2.heap.size w2 W → (Instr.lookup 57 (.map (some m)) (.int .i64 (j : Int)) false).run Try.prog W = .ok (.int .i64 (posZ q1 (j : Int))) W) := fun W g => by
          rw [unhide HQ1]
          exact ((unhide HW).below ((unhide G2).trans (g.mono (unhide G2).size))).look hfit
        have hz : posZ q1 (j : Int) = (posQ q1 j : Int) := by unfold posZ; rw [if_pos (by omega), Int.toNat_natCast]
        rw [hz] at HLK
        by_cases hmem : j ∈ q1
        case pos =>
          have z0 : posQ q1 j ≠ 0 := fun e => posQ_zero.1 e hmem
          have z1 : (((posQ q1 j : Nat) : Int) == 0) = false := by simpa using z0
          have hs : stepQ l (moreQ l q (vs.take k)) ⟨4, (j : Int)⟩ = moreQ l q (vs.take k) := if_neg (fun c => c.2 (by rw [← unhide HQ1, ← unhide HJ]; exact hmem))
          generalize posQ q1 j = pz at *
          clear hz
          go_wp2_with (rw [← hw2])
          clear hw2
          refine wp_region_seq (fun W => Below w2.heap.size w2 W) (by kernel_rfl) (by kernel_rfl) (Below.refl _ _).drew ?_
          repeat (first
            | (refine SeqDo.skips (by rfl) ?_; simp only [Act.put, List.setIfInBounds_toArray, List.set_cons_zero, List.set_cons_succ])
            | (refine SeqDo.yields (v := ?_) (by rfl) ?_ ?_; rotate_left; (focus ((intro W hSW; obtain ⟨c0, c1, c2, c3⟩ := unhide HB2 W hSW; have cl := unhide HLK W hSW; go_simp) <;> with_reducible rfl)); simp only [Act.put, List.setIfInBounds_toArray, List.set_cons_zero, List.set_cons_succ])
            | (refine SeqDo.does (v := .bool true) (by rfl) (fun W hSW KK hKK => ?_) ?_; (focus (go_simp; go_wp2_with (go_at_call 51; refine (unhide HL _ hSW).mono ?_; rintro e W' ⟨rfl, fJ⟩); exact hKK.out _ fJ)); simp only [Act.put, List.setIfInBounds_toArray, List.set_cons_zero, List.set_cons_succ]))
          intro W hSW
          have HM : Hid (Meet w0 B p m s l q vs w (k + 1) W) := Meet.same (unhide HX) (unhide HW) (unhide HG) (unhide HF) ((unhide G2).trans (hSW.mono (unhide G2).size)) hsz hB hs
          clear hSW HB2 HL hs HLK
          go_wp2
          go_roundw
          case rel => exact ⟨k + 1, by omega, by go_num, unhide HM⟩
          case measure => simp [intOf]; omega
        case neg =>
          have z0 : posQ q1 j = 0 := posQ_zero.2 hmem
          rw [z0] at HLK
          have hs : stepQ l (moreQ l q (vs.take k)) ⟨4, (j : Int)⟩ = q1 ++ [j] := by
            rw [← unhide HQ1]
            unfold stepQ
            rw [← unhide HJ, if_pos ⟨hle, hmem⟩]
          clear hz z0
          go_wp2_with (rw [← hw2])
          clear hw2
          refine wp_region_seq (fun W => Below w2.heap.size w2 W) (by kernel_rfl) (by kernel_rfl) (Below.refl _ _).drew ?_
          repeat (first
            | (refine SeqDo.skips (by rfl) ?_; simp only [Act.put, List.setIfInBounds_toArray, List.set_cons_zero, List.set_cons_succ])
            | (refine SeqDo.yields (v := ?_) (by rfl) ?_ ?_; rotate_left; (focus ((intro W hSW; obtain ⟨c0, c1, c2, c3⟩ := unhide HB2 W hSW; have cl := unhide HLK W hSW; go_simp) <;> with_reducible rfl)); simp only [Act.put, List.setIfInBounds_toArray, List.set_cons_zero, List.set_cons_succ])
            | (refine SeqDo.does (v := .bool true) (by rfl) (fun W hSW KK hKK => ?_) ?_; (focus (go_simp; go_wp2_with (go_at_call 51; refine (unhide HL _ hSW).mono ?_; rintro e W' ⟨rfl, fJ⟩); exact hKK.out _ fJ)); simp only [Act.put, List.setIfInBounds_toArray, List.set_cons_zero, List.set_cons_succ]))
          intro W3 hSW
          have f3 := (unhide G2).trans (hSW.mono (unhide G2).size)
          have W3w := (unhide HW).below f3
          rw [← unhide HQ1] at W3w
          have hsz3 : B ≤ W3.heap.size := Nat.le_trans hsz f3.size
          have F3 := hide f3
          have HS3 := hide hSW
          have HC3 : Hid (∀ W, Below W3.heap.size W3 W → W.cell? ⟨wr.heap.size, 1, none⟩ = some (.int .i64 (j : Int)) ∧ W.cell? ⟨p, 1, none⟩ = some v1) := fun W g => by
            obtain ⟨_, b1, _, b3⟩ := unhide HB2 W (hSW.trans (g.mono hSW.size))
            exact ⟨b1, b3⟩
          have HW3 := hide W3w
          obtain ⟨va, vc, hvv, _⟩ := W3w.row.form
          rw [qi_len] at hvv
          clear hSW HB2 HL HLK f3 W3w
          go_wp2
          obtain ⟨S2, hS2⟩ : ∃ S2 : World → Prop, S2 = fun W => W.cell? ⟨wr.heap.size, 1, none⟩ = some (.int .i64 (j : Int)) ∧ W.cell? ⟨p, 1, none⟩ = some v1 := ⟨_, rfl⟩
          have HS2 : Hid (∀ W, S2 W ↔ (W.cell? ⟨wr.heap.size, 1, none⟩ = some (.int .i64 (j : Int)) ∧ W.cell? ⟨p, 1, none⟩ = some v1)) := fun W => by rw [hS2]
          clear hS2
          subst hvv
          refine wp_region_txtn S2 [7, 8] [0, 1, 2, 3, 4, 5, 6, 7, 8, 9, 10] 11 (by rfl) (by kernel_rfl) (by kernel_rfl) ((unhide HS2 _).2 (unhide HC3 _ (Below.refl _ _).drew)) ?_
          simp only [List.take_succ_cons, List.take_zero]
          repeat (first
            | (refine Txt.reads (v := ?_) (by rfl) (by rfl) (by rfl) ?_ ?_; rotate_left; (focus ((intro W hSW; obtain ⟨c1, c3⟩ := (unhide HS2 W).1 hSW; go_simp) <;> with_reducible rfl)); simp only [Act.put, List.setIfInBounds_toArray, List.set_cons_zero, List.set_cons_succ]))
          refine Txt.acts (by rfl) (by rfl) (by rfl) (fun K hK => ?_)
          go_simp
          obtain ⟨w4, hw4⟩ : ∃ w4, w4 = (W3.alloc (.cells #[.int .i64 (j : Int)] 3)).drew := ⟨_, rfl⟩
          have f4 : Below W3.heap.size W3 w4 := by rw [hw4]; exact ((Below.refl _ _).alloc (Nat.le_refl _) _).drew
          have l4 : Ls 1 i15 w4 (some ⟨W3.heap.size, 0, none⟩) 1 [(j : Int)] := by rw [hw4]; exact ls_one (cs := i15) (sz := 1) W3 _ _ (j : Int) rfl
          rw [← hw4]
          clear hw4
          refine hK.out _ _ ((unhide HS2 _).2 (unhide HC3 _ f4)) ?_
          clear hK
          refine Txt.acts (by rfl) (by rfl) (by rfl) (fun K hK => ?_)
          have hrow := orw_on (unhide HW3).row f4
          refine wpR_append rkI15 (.tmp 29) (.tmp 32) rfl B _ (qi q1) (by rfl) hrow (some ⟨W3.heap.size, 0, none⟩) 1 1 [(j : Int)] (by rfl) l4 (fun e => by cases e) (by rw [qi_len]; omega) (by rw [qi_len]; omega) (Nat.le_trans hsz3 f4.size) ?_
          intro v5 w5 o5 g5
          obtain ⟨p1, p2, p3, p4, p5, p6⟩ := (unhide HW3).push f4 hsz3 o5 g5
          have hbx5 := p6 _ _ (unhide HBX _ (unhide HS3)) ⟨(fun X fr e => by injection e with _ e; cases e), (fun X fr e => by injection e with _ e; cases e), (fun es c e => by cases e)⟩
          have k5 : S2 w5 := (unhide HS2 _).2 ⟨bx_cell hbx5 1 _ rfl, bx_cell p5 1 _ rfl⟩
          have f5 : w5.frozen? ⟨p, 1, none⟩ = false := frozen_of_row _ _ _ _ _ p5
          have c5 : w5.cell? ⟨p, 1, none⟩ = some (.slice va q1.length vc) := bx_cell p5 1 _ rfl
          obtain ⟨v5a, v5c, rfl, _⟩ := o5.form
          have hl5 : (qi q1 ++ [(j : Int)]).length = q1.length + 1 := by rw [List.length_append, qi_len]; rfl
          rw [hl5] at p1 p2 p3 p4 ⊢
          refine hK.out _ _ k5 ?_
          clear hK g5 o5 hrow l4 k5 p5 p6 hbx5
          obtain ⟨w6, hw6⟩ : ∃ w6, w6 = w5.setCell ⟨p, 1, none⟩ (.slice v5a (q1.length + 1) v5c) := ⟨_, rfl⟩
          rw [← hw6] at p1 p2 p3 p4
          have P1 := hide p1
          have P2 := hide p2
          have P3 := hide p3
          have P4 := hide p4
          have F4 := hide f4
          clear p1 p2 p3 p4 f4
          repeat (first
            | (refine Txt.reads (v := ?_) (by rfl) (by rfl) (by rfl) ?_ ?_; rotate_left; (focus ((intro W hSW; obtain ⟨c1, c3⟩ := (unhide HS2 W).1 hSW; go_simp) <;> with_reducible rfl)); simp only [Act.put, List.setIfInBounds_toArray, List.set_cons_zero, List.set_cons_succ]))
          refine Txt.done (thenLast_n (by rfl) (by rfl) (by rfl) (fun KK hKK => ?_))
          go_simp
          rw [← hw6]
          refine hKK.out _ _ ?_
          clear hKK hw6 c5 f5 HS2 HC3
          have hbx6 := (unhide P4).2 _ _ (unhide HBX _ (unhide HS3)) ⟨(fun X fr e => by injection e with _ e; cases e), (fun X fr e => by injection e with _ e; cases e), (fun es c e => by cases e)⟩
          have HC6 : Hid (∀ W, Below w6.heap.size w6 W → W.cell? ⟨wr.heap.size, 1, none⟩ = some (.int .i64 (j : Int)) ∧ W.cell? ⟨p, 1, none⟩ = some (.slice v5a (q1.length + 1) v5c) ∧ W.cell? ⟨p, 2, none⟩ = some (.map (some m))) := fun W g =>
            ⟨bx_cell ((g.block _ (lt_of_heap hbx6)).trans hbx6) 1 _ rfl, bx_cell ((g.block _ (lt_of_heap (unhide P1))).trans (unhide P1)) 1 _ rfl, bx_cell ((g.block _ (lt_of_heap (unhide P1))).trans (unhide P1)) 2 _ rfl⟩
          clear hbx6
          go_wp2
          refine wp_region_txtn (fun W => Below w6.heap.size w6 W) [] [0, 1, 2, 3, 4, 5, 6, 7, 8, 9, 10] 11 (by rfl) (by kernel_rfl) (by kernel_rfl) (Below.refl _ _).drew ?_
          simp only [List.take_succ_cons, List.take_zero]
          repeat (first
            | (refine Txt.reads (v := ?_) (by rfl) (by rfl) (by rfl) ?_ ?_; rotate_left; (focus ((intro W hSW; obtain ⟨c1, c2, c3⟩ := unhide HC6 W hSW; go_simp) <;> with_reducible rfl)); simp only [Act.put, List.setIfInBounds_toArray, List.set_cons_zero, List.set_cons_succ]))
          refine Txt.done (thenLast_n (by rfl) (by rfl) (by rfl) (fun KK hKK => ?_))
          have h6B : B ≤ w6.heap.size := Nat.le_trans hsz3 (unhide P4).1.size
          have hd6 : Below w6.heap.size w6 w6.drew := (Below.refl _ _).drew
          have hroom := (unhide HW3).room
          refine wpR_update (.tmp 39) (.tmp 41) (.tmp 46) rfl (by rfl) (map_keep (w' := w6.drew) (unhide P3) rfl) (by unfold maxLen; omega) (n := (j : Int)) (c := ((q1.length + 1 : Nat) : Int)) (by rfl) (by rfl) hfit (by unfold fitI; omega) ?_
          intro w7 o7 g7
          rw [show ((q1.length + 1 : Nat) : Int) = (q1.length : Int) + 1 by omega] at o7
          obtain ⟨a7, b7⟩ := wa_told (unhide HW3).hp (unhide HW3).hm (unhide P1) (unhide P2) (unhide P3) (unhide HW3).px hroom hmem h6B hd6 o7 g7
          have gAll : GQ m B wr w7 := ((gq_of_below (unhide F3) hsz).trans (unhide P4)).trans b7
          have HM : Hid (Meet w0 B p m s l q vs w (k + 1) w7) := ⟨_, _, _, by rw [moreQ_take (unhide HX), hs]; exact a7, (unhide HG).trans gAll, (unhide HF).trans (gAll.1.mono hB)⟩
          clear a7 b7 o7 g7 gAll
          refine hKK.out _ _ ?_
          clear hKK P1 P2 P3 P4 HC6 hd6 h6B hs
          go_wp2
          go_roundw
          case rel => exact ⟨k + 1, by omega, by go_num, unhide HM⟩
          case measure => simp [intOf]; omega
    · obtain rfl : k = tn := by omega
      obtain ⟨v1, N1, D1, hW, hG, hF⟩ := hT
      rw [List.take_of_length_le (by omega)] at hW
      have HR : Hid (∃ v' N' D', Wa B p m s v' N' D' (moreQ l q vs) wr ∧ GQ m B w wr) := ⟨v1, N1, D1, hW, hG⟩
      clear hW hG hF
      go_wp2
      go_end0
      exact ⟨⟨_, rfl⟩, unhide HR⟩
end Go.Proofs.Ytnnanlniffjnkaa
