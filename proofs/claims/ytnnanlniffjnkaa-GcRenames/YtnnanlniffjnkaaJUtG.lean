/- Layer 16: the walk of GcRenames. -/
import Derived.Test.YtnnanlniffjnkaaJUrI
import Derived.Test.YtnnanlniffjnkaaJHqE

namespace Go.Proofs.Ytnnanlniffjnkaa
open Go.RowKit
set_option linter.unusedVariables false
set_option maxRecDepth 100000

/-- Between two rounds of the outer loop. -/
def RnO (wB : World) (l : List Ob) (k g n i : Nat) (W : World) : Prop := Below wB.heap.size wB W ∧ ∃ dn, HOwn W wB.heap.size (.slice (some ⟨g, 0, none⟩) n n) dn ∧ dn.map ObR.o = turnK l k i
/-- Between two rounds of the inner one. -/
def RnJ (W0 : World) (st : ByteArray) (us : List Vl) (W : World) : Prop := Below W0.heap.size W0 W ∧ ∃ v, W.heap[W0.heap.size]? = some (.cells #[.string st, v] 43 (0, 0)) ∧ Orw vlc 47 2 W (W0.heap.size + 1) v us
theorem rnj_next {W0 W W1 W2 : World} {st : ByteArray} {v v' : Value} {us : List Vl} {x : Vl} (f0 : Below W0.heap.size W0 W) (hb : W.heap[W0.heap.size]? = some (.cells #[.string st, v] 43 (0, 0))) (ho : Orw vlc 47 2 W (W0.heap.size + 1) v us) (f : Below W.heap.size W W1) (hr : Orw vlc 47 2 W2 (W0.heap.size + 1) v' (us ++ [x])) (g : W1.grownBy W2 v.ownBlock) :
    W2.heap[W0.heap.size]? = some (.cells #[.string st, v] 43 (0, 0)) ∧ Below W0.heap.size W0 W2 ∧ RnJ W0 st (us ++ [x]) (W2.setCell ⟨W0.heap.size, 1, none⟩ v') := by
  have hlt := lt_of_heap hb
  have hne : ∀ {i}, v.ownBlock = some i → W0.heap.size + 1 ≤ i := fun hi => (ho.lt _ hi).1
  have h2 : W2.heap[W0.heap.size]? = some (.cells #[.string st, v] 43 (0, 0)) := (g.block _ (Nat.lt_of_lt_of_le hlt f.size) (fun e => by have := hne e.symm; omega)).trans ((f.block _ hlt).trans hb)
  have hB : Below W0.heap.size W0 W2 := (f0.trans (f.mono f0.size)).grown g (Nat.le_trans f0.size f.size) (fun i hi => by have := hne hi; omega)
  refine ⟨h2, hB, hB.setCell (p := ⟨W0.heap.size, 1, none⟩) (Nat.le_refl _) _, v', heap_setCell_same W2 W0.heap.size 1 _ _ v' h2, hr.below (fun i hi => Below.heap_setCell _ _ _ _ (fun e => ?_))⟩
  have e2 : i = W0.heap.size := e
  have := (hr.lt i hi).1
  omega
set_option maxHeartbeats 6400000 in
theorem renames_walk16 (w : World) (a : Option Addr) (n c : Nat) (rs : List ObR) (h : HIn w ⟨a, n, c⟩ rs) (hfr : ∀ r ∈ rs, VFit r.ws) (b : Option Addr) (m d : Nat) (vs : List Vl) (hv : WsIn w ⟨b, m, d⟩ vs) (hfv : VFit vs) (turn : Int) (hturn : fitI turn) :
    Calls Try.prog 8 #[.slice a n c, .slice b m d, .int .i64 turn] w fun e w' => e = .returned (.bool true) ∧ Below w.heap.size w w' := by
  obtain ⟨wl, hwl⟩ : ∃ wl, wl = w.alloc (.cells #[.slice a n c] 22) := ⟨_, rfl⟩
  have fl : Below w.heap.size w wl := by rw [hwl]; exact (Below.refl _ _).alloc (Nat.le_refl _) _
  have bl : wl.heap[w.heap.size]? = some (.cells #[.slice a n c] 22 (0, 0)) := by rw [hwl]; exact heap_alloc_last _ _
  have HWK := hide (works16_any wl)
  have hln := h.ls.1
  have hsm := h.small
  simp only at hln hsm
  have HI := hide (h.below fl)
  have HV := hide (hv.below fl)
  have HFR := hide hfr
  have HFV := hide hfv
  have KFIN : Hid (∀ W, Below wl.heap.size wl W → Below w.heap.size w W) := fun W f => fl.trans (f.mono fl.size)
  have KB : Hid (∀ {W W2}, Below wl.heap.size wl W → Below W.heap.size W W2 → Below wl.heap.size wl W2) := fun f g => f.trans (g.mono f.size)
  have C3 : Hid (∀ W, Below wl.heap.size wl W → W.cell? ⟨w.heap.size, 0, none⟩ = some (.slice a n c)) := fun W f => bx_cell ((f.block _ (lt_of_heap bl)).trans bl) 0 _ rfl
  clear h hv hfr hfv fl bl
  go_enter Try.func8, Try.ntmps8
  go_wp2_with fail
  rw [← hwl]
  clear hwl
  refine (unhide HWK).mono ?_
  rintro e w1 ⟨rfl, f1⟩
  have F1 := hide f1
  clear HWK
  have HLG : Hid (∀ W, Below w1.heap.size w1 W → Calls Try.prog 9 #[.slice a n c] W fun e w' => IsB e ∧ w' = W) := fun W f => light16_any W ⟨a, n, c⟩ rs ((unhide HI).below (unhide KB f1 f))
  have HCH : Hid (∀ W, Below w1.heap.size w1 W → Calls Try.prog 25 #[.slice a n c] W fun e w' => e = .returned (.int .i64 (checkE (rs.map ObR.o))) ∧ Below W.heap.size W w') := fun W f => rcheck_any W ⟨a, n, c⟩ rs ((unhide HI).below (unhide KB f1 f))
  have HC3 : Hid (∀ W, Below w1.heap.size w1 W → W.cell? ⟨w.heap.size, 0, none⟩ = some (.slice a n c)) := fun W f => unhide C3 W (unhide KB f1 f)
  have HLV : Hid (rs.length ≤ 5000 → ∀ W, Below w1.heap.size w1 W → Calls Try.prog 24 #[.slice a n c] W fun e w' => ∃ v, e = .returned v ∧ Orw i15 3 1 w' W.heap.size v (liveH (rs.map ObR.o)) ∧ Below W.heap.size W w') := fun hr W f => rlive_any W ⟨a, n, c⟩ rs ((unhide HI).below (unhide KB f1 f)) hr
  obtain ⟨ce, hce⟩ : ∃ ce, ce = checkE (rs.map ObR.o) := ⟨_, rfl⟩
  have HCE := hide hce
  rw [← hce] at HCH
  clear f1 hce
  go_wp2
  refine wp_region_txtn (fun W => Below w1.heap.size w1 W) [1, 10, 20] [0, 1, 2, 3, 4, 5, 6, 7, 8, 9, 10, 11, 12, 13, 14, 15, 16, 17, 18, 19, 22, 23, 20, 21, 24] 25 (by rfl) (by kernel_rfl) (by kernel_rfl) (Below.refl _ _).drew ?_
  simp only [List.take_succ_cons, List.take_zero]
  refine Txt.reads (v := ?_) (by rfl) (by rfl) (by rfl) ?_ ?_
  rotate_left
  focus ((intro W hSW; have c3 := unhide HC3 W hSW; go_simp) <;> with_reducible rfl)
  simp only [Act.put, List.setIfInBounds_toArray, List.set_cons_zero, List.set_cons_succ]
  refine Txt.acts (by rfl) (by rfl) (by rfl) (fun K hK => ?_)
  go_simp
  go_wp2_with (go_at_call 9; refine (unhide HLG _ (Below.refl _ _).drew).mono ?_; rintro e W1 ⟨⟨lb, rfl⟩, rfl⟩)
  refine hK.out _ _ (Below.refl _ _).drew ?_
  clear hK
  cases lb with
  | false =>
    repeat (first
      | (refine Txt.skips (by rfl) (by rfl) ?_; simp only [Act.put, List.setIfInBounds_toArray, List.set_cons_zero, List.set_cons_succ])
      | (refine Txt.reads (v := ?_) (by rfl) (by rfl) (by rfl) ?_ ?_; rotate_left; (focus ((intro W hSW; have c3 := unhide HC3 W hSW; go_simp) <;> with_reducible rfl)); simp only [Act.put, List.setIfInBounds_toArray, List.set_cons_zero, List.set_cons_succ]))
    refine Txt.done (thenLast_n (by rfl) (by rfl) (by rfl) (fun KK hKK => ?_))
    go_simp
    refine hKK.out _ _ ?_
    clear hKK
    go_wp2
    go_ret
    exact ⟨rfl, unhide KFIN _ (unhide KB (unhide F1) (Below.refl _ _).drew)⟩
  | true =>
    by_cases hm : m ≤ 300
    case neg =>
      have hm1 : (300 : Int) < (m : Int) := by omega
      have hm2 : decide ((300 : Int) < (m : Int)) = true := decide_eq_true hm1
      repeat (first
        | (refine Txt.skips (by rfl) (by rfl) ?_; simp only [Act.put, List.setIfInBounds_toArray, List.set_cons_zero, List.set_cons_succ])
        | (refine Txt.reads (v := ?_) (by rfl) (by rfl) (by rfl) ?_ ?_; rotate_left; (focus ((intro W hSW; have c3 := unhide HC3 W hSW; go_simp; (try rw [hm2])) <;> with_reducible rfl)); simp only [Act.put, List.setIfInBounds_toArray, List.set_cons_zero, List.set_cons_succ]))
      refine Txt.done (thenLast_n (by rfl) (by rfl) (by rfl) (fun KK hKK => ?_))
      go_simp
      refine hKK.out _ _ ?_
      clear hKK
      go_wp2
      go_ret
      exact ⟨rfl, unhide KFIN _ (unhide KB (unhide F1) (Below.refl _ _).drew)⟩
    have hm1 : ¬ (300 : Int) < (m : Int) := by omega
    have hm2 : decide ((300 : Int) < (m : Int)) = false := decide_eq_false hm1
    repeat (first
      | (refine Txt.skips (by rfl) (by rfl) ?_; simp only [Act.put, List.setIfInBounds_toArray, List.set_cons_zero, List.set_cons_succ])
      | (refine Txt.reads (v := ?_) (by rfl) (by rfl) (by rfl) ?_ ?_; rotate_left; (focus ((intro W hSW; have c3 := unhide HC3 W hSW; go_simp; (try rw [hm2])) <;> with_reducible rfl)); simp only [Act.put, List.setIfInBounds_toArray, List.set_cons_zero, List.set_cons_succ]))
    refine Txt.acts (by rfl) (by rfl) (by rfl) (fun K hK => ?_)
    go_simp
    go_wp2_with (go_at_call 25; refine (unhide HCH _ (Below.refl _ _).drew).mono ?_; rintro e W2 ⟨rfl, f2⟩)
    have g2 : Below w1.heap.size w1 W2 := (Below.refl _ _).drew.trans f2
    refine hK.out _ _ g2 ?_
    clear hK f2
    by_cases h0 : ce = 0
    case neg =>
      have h00 : (ce != 0) = true := by simpa using h0
      repeat (first
        | (refine Txt.skips (by rfl) (by rfl) ?_; simp only [Act.put, List.setIfInBounds_toArray, List.set_cons_zero, List.set_cons_succ])
        | (refine Txt.reads (v := ?_) (by rfl) (by rfl) (by rfl) ?_ ?_; rotate_left; (focus ((intro W hSW; have c3 := unhide HC3 W hSW; go_simp; (try rw [h00])) <;> with_reducible rfl)); simp only [Act.put, List.setIfInBounds_toArray, List.set_cons_zero, List.set_cons_succ]))
      refine Txt.done (thenLast_n (by rfl) (by rfl) (by rfl) (fun KK hKK => ?_))
      go_simp
      refine hKK.out _ _ ?_
      clear hKK
      go_wp2
      go_ret
      exact ⟨rfl, unhide KFIN _ (unhide KB (unhide F1) g2)⟩
    subst h0
    by_cases hn0 : n = 0
    case pos =>
      subst hn0
      repeat (first
        | (refine Txt.skips (by rfl) (by rfl) ?_; simp only [Act.put, List.setIfInBounds_toArray, List.set_cons_zero, List.set_cons_succ])
        | (refine Txt.reads (v := ?_) (by rfl) (by rfl) (by rfl) ?_ ?_; rotate_left; (focus ((intro W hSW; have c3 := unhide HC3 W hSW; go_simp) <;> with_reducible rfl)); simp only [Act.put, List.setIfInBounds_toArray, List.set_cons_zero, List.set_cons_succ]))
      refine Txt.done (thenLast_n (by rfl) (by rfl) (by rfl) (fun KK hKK => ?_))
      go_simp
      refine hKK.out _ _ ?_
      clear hKK
      go_wp2
      go_ret
      exact ⟨rfl, unhide KFIN _ (unhide KB (unhide F1) g2)⟩
    have hn1 : ((n : Int) == 0) = false := by simp; omega
    have hck := check_fit (unhide HCE).symm
    rw [List.length_map] at hck
    repeat (first
      | (refine Txt.skips (by rfl) (by rfl) ?_; simp only [Act.put, List.setIfInBounds_toArray, List.set_cons_zero, List.set_cons_succ])
      | (refine Txt.reads (v := ?_) (by rfl) (by rfl) (by rfl) ?_ ?_; rotate_left; (focus ((intro W hSW; have c3 := unhide HC3 W hSW; go_simp; (try rw [hn1])) <;> with_reducible rfl)); simp only [Act.put, List.setIfInBounds_toArray, List.set_cons_zero, List.set_cons_succ]))
    have HLV2 := hide (unhide HLV (by omega) W2 g2)
    refine Txt.acts (by rfl) (by rfl) (by rfl) (fun K hK => ?_)
    go_simp
    go_wp2_with (go_at_call 24; refine (unhide HLV2).mono ?_; rintro e W3 ⟨v3, rfl, o3, f3⟩)
    have g3 : Below w1.heap.size w1 W3 := g2.trans (f3.mono g2.size)
    obtain ⟨a3, c3', rfl, _⟩ := o3.form
    refine hK.out _ _ g3 ?_
    clear hK f3 o3 HLV2
    obtain ⟨L, hL⟩ : ∃ L, L = (liveH (rs.map ObR.o)).length := ⟨_, rfl⟩
    have HLE := hide hL
    rw [← hL]
    clear hL
    by_cases hll : L = n
    case neg =>
      have h00 : ((L : Int) != (n : Int)) = true := by simp; omega
      repeat (first
        | (refine Txt.skips (by rfl) (by rfl) ?_; simp only [Act.put, List.setIfInBounds_toArray, List.set_cons_zero, List.set_cons_succ])
        | (refine Txt.reads (v := ?_) (by rfl) (by rfl) (by rfl) ?_ ?_; rotate_left; (focus ((intro W hSW; have c3 := unhide HC3 W hSW; go_simp; (try rw [h00])) <;> with_reducible rfl)); simp only [Act.put, List.setIfInBounds_toArray, List.set_cons_zero, List.set_cons_succ]))
      refine Txt.done (thenLast_n (by rfl) (by rfl) (by rfl) (fun KK hKK => ?_))
      go_simp
      refine hKK.out _ _ ?_
      clear hKK
      go_wp2
      go_ret
      exact ⟨rfl, unhide KFIN _ (unhide KB (unhide F1) g3)⟩
    subst hll
    repeat (first
      | (refine Txt.skips (by rfl) (by rfl) ?_; simp only [Act.put, List.setIfInBounds_toArray, List.set_cons_zero, List.set_cons_succ])
      | (refine Txt.reads (v := ?_) (by rfl) (by rfl) (by rfl) ?_ ?_; rotate_left; (focus ((intro W hSW; have c3 := unhide HC3 W hSW; go_simp) <;> with_reducible rfl)); simp only [Act.put, List.setIfInBounds_toArray, List.set_cons_zero, List.set_cons_succ]))
    refine Txt.done (thenLast_n (by rfl) (by rfl) (by rfl) (fun KK hKK => ?_))
    go_simp
    refine hKK.out _ _ ?_
    clear hKK
    have R3 := hide (unhide KB (unhide F1) g3)
    have HAL : Hid (allL (rs.map ObR.o)) := all_live (by rw [← unhide HLE, List.length_map, hln])
    have HAM := hide (Among_any W3 turn L (by omega) (by omega))
    have hkl := among_lt turn L (by omega)
    generalize among turn L = k at *
    have c33 := unhide C3 W3 (unhide R3)
    clear g2 g3 F1 HLG HCH HC3 HLV hm2 hn1
    go_wp2_with fail
    refine (unhide HAM).mono ?_
    rintro e w4 ⟨rfl, rfl⟩
    obtain ⟨wB, hwB⟩ : ∃ wB, wB = w4.alloc (.cells #[.int .i64 (k : Int)] 3) := ⟨_, rfl⟩
    have fB : Below w4.heap.size w4 wB := by rw [hwB]; exact (Below.refl _ _).alloc (Nat.le_refl _) _
    have bB : wB.heap[w4.heap.size]? = some (.cells #[.int .i64 (k : Int)] 3 (0, 0)) := by rw [hwB]; exact heap_alloc_last _ _
    have RB := unhide KB (unhide R3) fB
    obtain ⟨wC, hmk, oC, fC, zC⟩ := make_two rkO (x0 := ob0) rfl rfl wB wB.heap.size L (by omega) (by omega) (Nat.le_refl _)
    have H0 : Hid (RnO wB (rs.map ObR.o) k wB.heap.size L 0 wC) := ⟨fC, List.replicate L ob0, ⟨oC, fun r hr => by
      rw [List.eq_of_mem_replicate hr]
      exact Orw.nil _ _ _ _ _, List.pairwise_replicate.2 (.inr (fun i hi => by simp [ob0, Sl.v, Value.ownBlock] at hi))⟩, by rw [List.map_replicate, turnK_zero, List.length_map, hln]; rfl⟩
    have C7 : Hid (∀ W, Below wB.heap.size wB W → W.cell? ⟨w.heap.size, 0, none⟩ = some (.slice a L c) ∧ W.cell? ⟨w4.heap.size, 0, none⟩ = some (.int .i64 (k : Int))) := fun W f => ⟨unhide C3 W (unhide KB RB f), bx_cell ((f.block _ (lt_of_heap bB)).trans bB) 0 _ rfl⟩
    have HIB : Hid (∀ W, Below wB.heap.size wB W → HIn W ⟨a, L, c⟩ rs ∧ WsIn W ⟨b, m, d⟩ vs ∧ Below wl.heap.size wl W) := fun W f => ⟨(unhide HI).below (unhide KB RB f), (unhide HV).below (unhide KB RB f), unhide KB RB f⟩
    have HNUM : Hid (∀ W v, Below wB.heap.size wB W → Calls Try.prog 27 #[.agg #[.int .i64 v.kind, .int .i64 v.n], .pointer (some ⟨w.heap.size, 0, none⟩), .pointer (some ⟨w4.heap.size, 0, none⟩)] W fun e w' => e = .returned (.agg #[.int .i64 (numV L k v).kind, .int .i64 (numV L k v).n]) ∧ Below W.heap.size W w') := fun W v f => num_any W w.heap.size w4.heap.size a L c k hkl (by omega) (unhide C7 W f).1 (unhide C7 W f).2 v
    have cB := unhide C7 wB (Below.refl _ _)
    obtain ⟨cB3, cB7⟩ := cB
    have hsB : wB.heap.size = w4.heap.size + 1 := by rw [hwB]; simp
    have HSB := hide hsB
    rw [hwB] at cB3 cB7 hmk
    clear HAM fB bB RB oC zC fC R3 hsB c33
    go_wp2
    rw [← unhide HSB]
    clear HSB hwB hmk cB3 cB7
    generalize w4.heap.size = b7 at *
    generalize hgB : wB.heap.size = g at *
    have HGB := hide hgB
    clear hgB
    go_loopw [10] (fun i wr => ∃ j : Nat, j ≤ L ∧ i = .int .i64 j ∧ RnO wB (rs.map ObR.o) k g L j wr) (fun i _ => L - (intOf i).toNat)
    case atStart => exact ⟨0, by omega, rfl, unhide H0⟩
    case round =>
      obtain ⟨i, hi, rfl, hT⟩ := hrel
      obtain ⟨W0, hW0⟩ : ∃ W0, W0 = wr := ⟨_, rfl⟩
      subst hW0
      have hTb : Below g wB W0 := by rw [← unhide HGB]; exact hT.1
      have hgs : g ≤ W0.heap.size := by rw [← unhide HGB]; exact hT.1.size
      have c3r := (unhide C7 W0 hTb).1
      by_cases hlt : i < L
      · have hlt1 : (i : Int) < (L : Int) := by omega
        have hi0 : (0 : Int) ≤ (i : Int) := by omega
        obtain ⟨r, hr⟩ : ∃ r, rs[i]? = some r := ⟨_, List.getElem?_eq_getElem (by omega)⟩
        obtain ⟨hin, _, _⟩ := unhide HIB W0 hTb
        obtain ⟨pb, po, ea, qq⟩ := memb_row hin hr
        have hws := hin.each _ (List.mem_of_getElem? hr)
        simp only at ea
        subst ea
        have hTO : turnO (rs.map ObR.o) k i = ⟨r.ty, r.ws.map (numV L k)⟩ := by
          have e1 : (rs.map ObR.o)[i + 1 - 1]? = some r.o := by simpa using congrArg (Option.map ObR.o) hr
          unfold turnO tyOf wordsOf
          rw [e1, List.length_map, hln]
          rfl
        obtain ⟨ty, ⟨xa, xn, xc⟩, ws⟩ := r
        simp only at hTO
        have HK : Hid (∀ W, Below W0.heap.size W0 W → W.cell? ⟨w.heap.size, 0, none⟩ = some (.slice (some ⟨pb, po, none⟩) L c) ∧ W.cell? ⟨pb, po + i * 2, none⟩ = some (.string ⟨ty.toArray⟩) ∧ W.cell? ⟨pb, po + i * 2 + 1, none⟩ = some (.slice xa xn xc) ∧ W.cell? ⟨b7, 0, none⟩ = some (.int .i64 (k : Int))) := fun W f => by
          obtain ⟨g3, g7⟩ := unhide C7 W (hTb.trans (f.mono hgs))
          exact ⟨g3, (qq f).zero, (qq f) 1 _ rfl, g7⟩
        have HNR : Hid (∀ W v, Below W0.heap.size W0 W → Calls Try.prog 27 #[.agg #[.int .i64 v.kind, .int .i64 v.n], .pointer (some ⟨w.heap.size, 0, none⟩), .pointer (some ⟨b7, 0, none⟩)] W fun e w' => e = .returned (.agg #[.int .i64 (numV L k v).kind, .int .i64 (numV L k v).n]) ∧ Below W.heap.size W w') := fun W v f => unhide HNUM W v (hTb.trans (f.mono hgs))
        obtain ⟨_, d0, d1, _⟩ := unhide HK W0 (Below.refl _ _)
        have hwl := hws.ls.1
        have hwsm := hws.small
        simp only at hwl hwsm
        have HWS := hide hws
        have HTT := hide hT
        have HTB := hide hTb
        obtain ⟨st, hst⟩ : ∃ st : ByteArray, st = ⟨ty.toArray⟩ := ⟨_, rfl⟩
        have HST := hide hst
        rw [← hst] at HK d0
        have fX := (Below.refl W0.heap.size W0).alloc (Nat.le_refl _) (.cells #[.string st, .slice none 0 0] 43)
        have HJ0 : Hid (RnJ W0 st ((ws.take 0).map (numV L k)) (W0.alloc (.cells #[.string st, .slice none 0 0] 43))) := ⟨fX, .slice none 0 0, heap_alloc_last _ _, Orw.nil _ _ _ _ _⟩
        have HTO := hide hTO
        clear hin qq hws hr hT hTb hst fX hTO
        go_wp2
        go_loopw [12] (fun i2 W => ∃ j : Nat, j ≤ xn ∧ i2 = .int .i64 j ∧ RnJ W0 st ((ws.take j).map (numV L k)) W) (fun i2 _ => xn - (intOf i2).toNat)
        case atStart => exact ⟨0, by omega, rfl, unhide HJ0⟩
        case round =>
          obtain ⟨j, hj, rfl, hJ⟩ := hrel
          obtain ⟨fW, v, hbx, hov⟩ := hJ
          obtain ⟨k3, k0, k1, k7⟩ := unhide HK wr fW
          by_cases hjl : j < xn
          · have hjl1 : (j : Int) < (xn : Int) := by omega
            have hj0 : (0 : Int) ≤ (j : Int) := by omega
            obtain ⟨y, hy⟩ : ∃ y, ws[j]? = some y := ⟨_, List.getElem?_eq_getElem (by omega)⟩
            obtain ⟨pc, pd, ea, q7⟩ := memb_row (unhide HWS) hy
            simp only at ea
            subst ea
            have hlen : ((ws.take j).map (numV L k)).length = j := by rw [List.length_map, List.length_take]; omega
            have hnx : (ws.take j).map (numV L k) ++ [numV L k y] = (ws.take (j + 1)).map (numV L k) := by rw [List.take_add_one, hy, List.map_append]; rfl
            obtain ⟨va, vc, hvf, _⟩ := hov.form
            rw [hlen] at hvf
            subst hvf
            have HY : Hid (∀ W, Below W0.heap.size W0 W → W.cell? ⟨pc, pd + j * 2, none⟩ = some (.int .i64 y.kind) ∧ W.cell? ⟨pc, pd + j * 2 + 1, none⟩ = some (.int .i64 y.n)) := fun W f => ⟨(q7 f).zero, (q7 f) 1 _ rfl⟩
            have HN1 : Hid (∀ W, Below W0.heap.size W0 W → Calls Try.prog 27 #[.agg #[.int .i64 y.kind, .int .i64 y.n], .pointer (some ⟨w.heap.size, 0, none⟩), .pointer (some ⟨b7, 0, none⟩)] W fun e w' => e = .returned (.agg #[.int .i64 (numV L k y).kind, .int .i64 (numV L k y).n]) ∧ Below W.heap.size W w') := fun W f => unhide HNR W y f
            have HFW := hide fW
            have HBX := hide hbx
            have HOV := hide hov
            obtain ⟨z, hz⟩ : ∃ z, z = numV L k y := ⟨_, rfl⟩
            rw [← hz] at HN1 hnx
            have HNXT := hide hnx
            clear hy q7 hz hnx fW hbx hov
            obtain ⟨yk, yn⟩ := y
            obtain ⟨zk, zn⟩ := z
            simp only at HN1 HY
            obtain ⟨S2, hS2⟩ : ∃ S2 : World → Prop, S2 = fun W => Below W0.heap.size W0 W ∧ W.heap[W0.heap.size]? = some (.cells #[.string st, .slice va j vc] 43 (0, 0)) := ⟨_, rfl⟩
            have HS2 : Hid (∀ W, S2 W ↔ (Below W0.heap.size W0 W ∧ W.heap[W0.heap.size]? = some (.cells #[.string st, .slice va j vc] 43 (0, 0)))) := fun W => by rw [hS2]
            clear hS2
            go_wp2
            refine wp_region_txtn S2 [11, 12, 13] [0, 1, 2, 3, 4, 5, 6, 7, 8, 9, 10, 11, 12, 13, 14] 15 (by rfl) (by kernel_rfl) (by kernel_rfl) ((unhide HS2 _).2 ⟨(unhide HFW).drew, unhide HBX⟩) ?_
            simp only [List.take_succ_cons, List.take_zero]
            repeat (first
              | (refine Txt.reads (v := ?_) (by rfl) (by rfl) (by rfl) ?_ ?_; rotate_left; (focus ((intro W hSW; obtain ⟨g1, g2⟩ := (unhide HS2 W).1 hSW; have e1 := bx_cell g2 1 _ rfl; simp at e1; obtain ⟨k3, k0, k1, k7⟩ := unhide HK W g1; obtain ⟨y0, y1⟩ := unhide HY W g1; go_simp) <;> with_reducible rfl)); simp only [Act.put, List.setIfInBounds_toArray, List.set_cons_zero, List.set_cons_succ]))
            refine Txt.acts (by rfl) (by rfl) (by rfl) (fun K hK => ?_)
            go_simp
            go_wp2_with (go_at_call 27; refine (unhide HN1 _ (unhide HFW).drew).mono ?_; rintro e W1 ⟨rfl, f1⟩)
            have f5 : Below wr.heap.size wr W1 := (Below.refl _ _).drew.trans f1
            have hFW := unhide HFW
            have hBX := unhide HBX
            have S1 : S2 W1 := (unhide HS2 _).2 ⟨hFW.trans (f5.mono hFW.size), (f5.block _ (lt_of_heap hBX)).trans hBX⟩
            refine hK.out _ _ S1 ?_
            clear hK f1 S1
            refine Txt.acts (by rfl) (by rfl) (by rfl) (fun K hK => ?_)
            go_simp
            obtain ⟨w7, hw7⟩ : ∃ w7, w7 = W1.alloc (.cells #[.int .i64 zk, .int .i64 zn] 47) := ⟨_, rfl⟩
            have f7 : Below W1.heap.size W1 w7 := by rw [hw7]; exact (Below.refl _ _).alloc (Nat.le_refl _) _
            have l7 : Ls 2 vlc w7 (some ⟨W1.heap.size, 0, none⟩) 1 [⟨zk, zn⟩] := by rw [hw7]; exact ls_one (cs := vlc) (sz := 2) W1 _ _ (Vl.mk zk zn) rfl
            rw [← hw7]
            clear hw7
            have f17 : Below wr.heap.size wr w7 := f5.trans (f7.mono f5.size)
            refine hK.out _ _ ((unhide HS2 _).2 ⟨hFW.trans (f17.mono hFW.size), (f17.block _ (lt_of_heap hBX)).trans hBX⟩) ?_
            clear hK
            refine Txt.acts (by rfl) (by rfl) (by rfl) (fun K hK => ?_)
            have hrow := orw_on (unhide HOV) f17
            have hsz7 : W0.heap.size + 1 ≤ w7.heap.size := Nat.le_trans (lt_of_heap hBX) f17.size
            refine wpR_append rkV (.tmp 76) (.tmp 87) rfl (W0.heap.size + 1) _ _ (by rfl) hrow (some ⟨W1.heap.size, 0, none⟩) 1 1 [⟨zk, zn⟩] (by rfl) l7 (fun e => by cases e) (by rw [hlen]; omega) (by rw [hlen]; omega) hsz7 ?_
            intro v8 w8 o8 g8
            obtain ⟨h2, hB8, hn8⟩ := rnj_next hFW hBX (unhide HOV) f17 o8 g8
            have z8 := bx_thaw h2 1
            have c8 := bx_cell h2 1 _ rfl
            simp at c8
            obtain ⟨a8, c8', rfl, _⟩ := o8.form
            have hl8 : ((ws.take j).map (numV L k) ++ [(⟨zk, zn⟩ : Vl)]).length = j + 1 := by rw [List.length_append, hlen]; rfl
            rw [hl8] at hn8 ⊢
            rw [unhide HNXT] at hn8
            have HN8 := hide hn8
            refine hK.out _ _ ((unhide HS2 _).2 ⟨hB8, h2⟩) ?_
            clear hK hn8 o8 g8 hrow l7 hB8 h2 f17 f7 f5 hFW hBX HN1 HOV HFW HBX
            repeat (first
              | (refine Txt.reads (v := ?_) (by rfl) (by rfl) (by rfl) ?_ ?_; rotate_left; (focus ((intro W hSW; obtain ⟨g1, g2⟩ := (unhide HS2 W).1 hSW; have e1 := bx_cell g2 1 _ rfl; simp at e1; obtain ⟨k3, k0, k1, k7⟩ := unhide HK W g1; obtain ⟨y0, y1⟩ := unhide HY W g1; go_simp) <;> with_reducible rfl)); simp only [Act.put, List.setIfInBounds_toArray, List.set_cons_zero, List.set_cons_succ]))
            refine Txt.done (thenLast_n (by rfl) (by rfl) (by rfl) (fun KK hKK => ?_))
            go_simp
            refine hKK.out _ _ ?_
            clear hKK HS2
            go_wp2
            go_roundw
            case rel => exact ⟨j + 1, by omega, by go_num, unhide HN8⟩
            case measure => simp [intOf]; omega
          · obtain rfl : j = xn := by omega
            have hjl1 : ¬ (j : Int) < (j : Int) := by omega
            rw [List.take_of_length_le (by omega)] at hov
            have hlw : (ws.map (numV L k)).length = ws.length := List.length_map ..
            obtain ⟨va, vc, hvf, _⟩ := hov.form
            rw [hlw] at hvf
            subst hvf
            obtain ⟨hB0, dn, hown, hsame⟩ := unhide HTT
            have hgl := goTo_lt (n := L) (k := k) (i := i) (by omega)
            have hset := hown.set (k := goTo L k i) (y := ⟨ty, ⟨va, ws.length, vc⟩, ws.map (numV L k)⟩) fW hB0.size hgl (hov.base (Nat.le_succ _))
            have hbelN : Below wB.heap.size wB (wr.setCells g (goTo L k i * 2) (obc ⟨ty, ⟨va, ws.length, vc⟩, ws.map (numV L k)⟩)) := below_cells _ _ (hB0.trans (fW.mono hB0.size)) (by have := hown.row.lt g rfl; exact this.1)
            have hRN : RnO wB (rs.map ObR.o) k g L (i + 1) (wr.setCells g (goTo L k i * 2) (obc ⟨ty, ⟨va, ws.length, vc⟩, ws.map (numV L k)⟩)) := ⟨hbelN, _, hset, by
              have hll : (rs.map ObR.o).length = L := by rw [List.length_map]; exact hln
              have := turnK_next (l := rs.map ObR.o) (k := k) (c := i) (by rw [hll]; exact hkl) (by rw [hll]; exact hlt)
              rw [hll] at this
              rw [this, List.map_set, hsame, unhide HTO]
              rfl⟩
            have hdl : dn.length = L := by have := congrArg List.length hsame; rw [List.length_map, turnK_len, List.length_map] at this; omega
            have HG : Hid (∀ W, Below wr.heap.size wr W → W.frozen? ⟨g, goTo L k i * 2, none⟩ = false ∧ W.frozen? ⟨g, goTo L k i * 2 + 1, none⟩ = false ∧ ∃ u v, W.cell? ⟨g, goTo L k i * 2, none⟩ = some u ∧ W.cell? ⟨g, goTo L k i * 2 + 1, none⟩ = some v) := fun W f => by
              obtain ⟨g', cur, e, _, _, hz, qq⟩ := (orw_on (orw_on hown.row fW) f).blkR rkO.len (by omega)
              injection e with e
              injection e with e
              subst e
              obtain ⟨y, hy⟩ : ∃ y, dn[goTo L k i]? = some y := ⟨_, List.getElem?_eq_getElem (by omega)⟩
              have d0 := qq _ y hy 0 _ rfl
              have d1 := qq _ y hy 1 _ rfl
              exact ⟨hz _, hz _, _, _, by simpa using d0, d1⟩
            have HQ : Hid (∀ W, Below wr.heap.size wr W → W.cell? ⟨w.heap.size, 0, none⟩ = some (.slice (some ⟨pb, po, none⟩) L c) ∧ W.cell? ⟨b7, 0, none⟩ = some (.int .i64 (k : Int)) ∧ W.cell? ⟨W0.heap.size, 0, none⟩ = some (.string st) ∧ W.cell? ⟨W0.heap.size, 1, none⟩ = some (.slice va ws.length vc)) := fun W f => by
              obtain ⟨g3, _, _, g7⟩ := unhide HK W (fW.trans (f.mono fW.size))
              have hb := (f.block _ (lt_of_heap hbx)).trans hbx
              exact ⟨g3, g7, bx_cell hb 0 _ rfl, bx_cell hb 1 _ rfl⟩
            have HRN : Hid (RnO wB (rs.map ObR.o) k g L (i + 1) ((wr.setCell ⟨g, goTo L k i * 2, none⟩ (.string st)).setCell ⟨g, goTo L k i * 2 + 1, none⟩ (.slice va ws.length vc))) := by rw [unhide HST]; exact hRN
            have hw3 : IntKind.i64.wrap ((i : Int) + (k : Int)) = (i : Int) + (k : Int) := by rw [IntKind.wrap_i64]; omega
            have htm : ((i : Int) + (k : Int)).tmod (L : Int) = (goTo L k i : Int) := by
              unfold goTo
              rw [Int.tmod_eq_emod_of_nonneg (by omega)]
              push_cast
              rfl
            have hw4 : IntKind.i64.wrap (goTo L k i : Int) = (goTo L k i : Int) := by rw [IntKind.wrap_i64]; omega
            have hL0 : ¬ (L : Int) = 0 := by omega
            have hg0 : (0 : Int) ≤ (goTo L k i : Int) := by omega
            have hg1 : (goTo L k i : Int) < (L : Int) := by omega
            clear hset hbelN hRN hown hsame hB0 hov hbx fW hdl hlw HTO
            generalize hgj : goTo L k i = gj at *
            clear hgj
            go_wp2
            refine wp_region_txtn (fun W => Below wr.heap.size wr W) [] [0, 1, 2, 3, 4, 5, 6, 7, 8] 9 (by rfl) (by kernel_rfl) (by kernel_rfl) (Below.refl _ _).drew ?_
            simp only [List.take_succ_cons, List.take_zero]
            repeat (first
              | (refine Txt.reads (v := ?_) (by rfl) (by rfl) (by rfl) ?_ ?_; rotate_left; (focus ((intro W hSW; obtain ⟨g3, g7, x0, x1⟩ := unhide HQ W hSW; go_simp; (try rw [hw3]); (try rw [htm])) <;> with_reducible rfl)); simp only [Act.put, List.setIfInBounds_toArray, List.set_cons_zero, List.set_cons_succ]))
            refine Txt.done (thenLast_n (by rfl) (by rfl) (by rfl) (fun KK hKK => ?_))
            obtain ⟨wd, hwd⟩ : ∃ wd, wd = wr.drew := ⟨_, rfl⟩
            obtain ⟨z0, z1, q0, q1, p0, p1⟩ := unhide HG wd (by rw [hwd]; exact (Below.refl _ _).drew)
            have HRD : Hid (RnO wB (rs.map ObR.o) k g L (i + 1) ((wd.setCell ⟨g, gj * 2, none⟩ (.string st)).setCell ⟨g, gj * 2 + 1, none⟩ (.slice va ws.length vc))) := by
              rw [hwd]
              exact ⟨(unhide HRN).1.drew, by
                obtain ⟨dn, h1, h2⟩ := (unhide HRN).2
                exact ⟨dn, h1.below (Below.refl _ _).drew, h2⟩⟩
            rw [hwl] at HRD
            clear HG HQ
            rw [← hwd]
            clear hwd
            go_simp
            refine hKK.out _ _ ?_
            clear hKK
            go_wp2
            go_roundw
            case rel => exact ⟨i + 1, by omega, by go_num, unhide HRD⟩
            case measure => simp [intOf]; omega
      · obtain rfl : i = L := by omega
        have hlt1 : ¬ (i : Int) < (i : Int) := by omega
        obtain ⟨hBW, dn, hown, hsame⟩ := hT
        have hTW := unhide HIB W0 hTb
        have hdm : dn.map ObR.o = turnM (rs.map ObR.o) k := by
          rw [hsame]
          unfold turnM
          rw [List.length_map, hln]
        have hal := (Below.refl W0.heap.size W0).alloc (Nat.le_refl _) (.cells #[] 47)
        have HO0 : Hid (Orw vlc 47 2 (W0.alloc (.cells #[] 47)) W0.heap.size (.slice (some ⟨W0.heap.size, 0, none⟩) 0 0) ((vs.map (numV i k)).take 0) ∧ Below W0.heap.size W0 (W0.alloc (.cells #[] 47))) := ⟨Orw.made _ _ _ W0 _ (Nat.le_refl _), hal⟩
        have HNR : Hid (∀ W v, Below W0.heap.size W0 W → Calls Try.prog 27 #[.agg #[.int .i64 v.kind, .int .i64 v.n], .pointer (some ⟨w.heap.size, 0, none⟩), .pointer (some ⟨b7, 0, none⟩)] W fun e w' => e = .returned (.agg #[.int .i64 (numV i k v).kind, .int .i64 (numV i k v).n]) ∧ Below W.heap.size W w') := fun W v f => unhide HNUM W v (hTb.trans (f.mono hgs))
        have HOW := hide (And.intro hown hdm)
        have HTW := hide hTW
        have HTB := hide hTb
        have HGS := hide hgs
        have hvl := hTW.2.1.ls.1
        have hvs := hTW.2.1.small
        simp only at hvl hvs
        clear hBW hown hsame hTW hdm hal HNUM hTb hgs
        go_wp2
        go_loopw [13, 14] (fun o i2 W => ∃ j : Nat, j ≤ m ∧ i2 = .int .i64 j ∧ Orw vlc 47 2 W W0.heap.size o ((vs.map (numV i k)).take j) ∧ Below W0.heap.size W0 W) (fun _ i2 _ => m - (intOf i2).toNat)
        case atStart => exact ⟨0, by omega, rfl, unhide HO0⟩
        case round =>
          obtain ⟨j, hj, rfl, hO, hB⟩ := hrel
          have hlen : ((vs.map (numV i k)).take j).length = j := by rw [List.length_take, List.length_map]; omega
          obtain ⟨oa, oc, hov, _⟩ := hO.form
          rw [hlen] at hov
          subst hov
          by_cases hjl : j < m
          · have hjl1 : (j : Int) < (m : Int) := by omega
            have hj0 : (0 : Int) ≤ (j : Int) := by omega
            obtain ⟨y, hy⟩ : ∃ y, vs[j]? = some y := ⟨_, List.getElem?_eq_getElem (by omega)⟩
            obtain ⟨pc, pd, ea, q7⟩ := memb_row (unhide HTW).2.1 hy
            simp only at ea
            subst ea
            have y0 := (q7 hB).zero
            have y1 := (q7 hB) 1 _ rfl
            have hnx : (vs.map (numV i k)).take j ++ [numV i k y] = (vs.map (numV i k)).take (j + 1) := by rw [List.take_add_one, List.getElem?_map, hy]; rfl
            have HN1 := hide (unhide HNR wr y hB)
            obtain ⟨z, hz⟩ : ∃ z, z = numV i k y := ⟨_, rfl⟩
            rw [← hz] at HN1 hnx
            have HNXT := hide hnx
            have HO := hide hO
            have HB := hide hB
            clear hy q7 hz hnx hO hB
            obtain ⟨yk, yn⟩ := y
            obtain ⟨zk, zn⟩ := z
            simp only at HN1 y0 y1
            go_wp2_with fail
            refine (unhide HN1).mono ?_
            rintro e w5 ⟨rfl, f5⟩
            have hal := (Below.refl w5.heap.size w5).alloc (Nat.le_refl _) (.cells #[.int .i64 zk, .int .i64 zn] 47)
            have hf6 := f5.trans (hal.mono f5.size)
            have HO3 := hide (orw_on (unhide HO) hf6)
            have HL3 : Hid (Ls 2 vlc (w5.alloc (.cells #[.int .i64 zk, .int .i64 zn] 47)) (some ⟨w5.heap.size, 0, none⟩) 1 [⟨zk, zn⟩]) := ls_one (cs := vlc) (sz := 2) w5 _ _ (Vl.mk zk zn) rfl
            have HB3 := hide ((unhide HB).trans (hf6.mono (unhide HB).size))
            have hln1 : (((vs.map (numV i k)).take j).length + 1) * 16 ≤ 140737488355328 := by rw [hlen]; omega
            have hln2 : ((vs.map (numV i k)).take j).length + 1 ≤ 140737488355328 := by rw [hlen]; omega
            have HLN1 := hide hln1
            have HLN2 := hide hln2
            clear f5 hal hf6 hln1 hln2 HN1 HO HB y0 y1
            go_wp2_with (at_builtin; refine listR_append rkV rfl _ _ rfl W0.heap.size _ _ (by rfl) (unhide HO3) _ 1 1 [_] rfl (unhide HL3) (fun e => by cases e) (unhide HLN1) (unhide HLN2) (unhide HB3).size ?_)
            intro v' w6 o4 g4
            have F5 := hide (grown_below (unhide HB3) (unhide HO3) g4)
            rw [unhide HNXT] at o4
            have HO4 := hide o4
            clear o4 g4 HO3 HL3 HB3 HLN1 HLN2
            go_wp2
            go_roundw
            case rel => exact ⟨j + 1, by omega, by go_num, unhide HO4, unhide F5⟩
            case measure => simp [intOf]; omega
          · obtain rfl : j = m := by omega
            have hjl1 : ¬ (j : Int) < (j : Int) := by omega
            rw [List.take_of_length_le (by rw [List.length_map]; omega)] at hO
            have hvl2 : (vs.map (numV i k)).length = j := by rw [List.length_map]; exact hvl
            have hrw9 : Below g wB wr := (unhide HTB).trans (hB.mono (unhide HGS))
            have c3w := (unhide C7 wr hrw9).1
            obtain ⟨hI9, hV9, hF9⟩ := unhide HIB wr hrw9
            have hO9 := (unhide HOW).1.below hB
            have hd9 := (unhide HOW).2
            have hll : (rs.map ObR.o).length = i := by rw [List.length_map]; exact hln
            have hdl : dn.length = i := by have := congrArg List.length hd9; rw [List.length_map, turn_len, hll] at this; exact this
            have hck2 := check_fit (unhide HCE).symm
            have hM9 : HIn wr ⟨some ⟨g, 0, none⟩, i, i⟩ dn := HOwn.hin (s := ⟨some ⟨g, 0, none⟩, i, i⟩) hO9 (by omega) (by
              rw [hd9]
              have := turn_words (l := rs.map ObR.o) (k := k) (by rw [hll]; exact hkl)
              omega)
            have hW9 : WsIn wr ⟨oa, j, oc⟩ (vs.map (numV i k)) := by
              have := hO.linR (s := ⟨oa, j, oc⟩) rkV (by rw [hvl2]; omega) (ok := fun _ => True) (fun _ _ => trivial)
              exact this
            have hsp := turn_sameP (k := k) (unhide HAL) (by rw [hll]; exact hkl) (unhide HCE).symm vs
            rw [hll, ← hd9] at hsp
            have HSM := hide (Same_any wr ⟨a, i, c⟩ ⟨b, j, d⟩ ⟨some ⟨g, 0, none⟩, i, i⟩ ⟨oa, j, oc⟩ rs vs dn (vs.map (numV i k)) hI9 hV9 (unhide HFR) (unhide HFV) hM9 hW9 (turn_fit (by omega) (by omega) (unhide HFR) hd9) (fun v hv => by
              obtain ⟨u, hu, rfl⟩ := List.mem_map.1 hv
              exact num_fit (by omega) (by omega) (unhide HFV u hu)))
            rw [hsp.1] at HSM
            have HSP := hide hsp
            have HF9 := hide hF9
            simp only [Sl.v] at HSM
            clear hO hB hrw9 hI9 hV9 hF9 hO9 hd9 hll hdl hck2 hM9 hW9 hsp hvl2
            go_wp2_with fail
            refine (unhide HSM).mono ?_
            rintro e w7 ⟨⟨is, rfl, his⟩, f7⟩
            obtain rfl : is = true := his.2 (unhide HSP)
            have F7 := hide (unhide KFIN _ (unhide KB (unhide HF9) f7))
            clear f7 his HSM HSP HF9
            go_wp2
            go_ret
            exact ⟨rfl, unhide F7⟩
end Go.Proofs.Ytnnanlniffjnkaa
