/- Layer 16, the landed gc: Sweep. -/
import Derived.Test.YtnnanlniffjnkaaJUaF
import Derived.Test.YtnnanlniffjnkaaJY2

namespace Go.Proofs.Ytnnanlniffjnkaa
open Go.RowKit Go.Maps Go.Shelf
set_option linter.unusedVariables false
set_option maxRecDepth 100000
attribute [local go_sem] Oper.semAt_some

/-- A list of so many objects: the reached ones in their places, all else free. -/
def sweptL (l : List Ob) (q : List Nat) (M : Nat) : List Ob := (List.range M).map fun i => if i + 1 ∈ q then ⟨tyOf l (i + 1), wordsOf l (i + 1)⟩ else zeroO
theorem sweptL_nil (l : List Ob) (M : Nat) : sweptL l [] M = List.replicate M zeroO := by
  apply List.ext_getElem?
  intro i
  simp only [sweptL, List.getElem?_map, List.getElem?_replicate]
  by_cases h : i < M
  · rw [List.getElem?_range h]; simp [h]
  · rw [List.getElem?_eq_none (by simp; omega)]; simp [h]
theorem sweptL_len (l : List Ob) (q : List Nat) (M : Nat) : (sweptL l q M).length = M := by simp [sweptL]
theorem sweptL_next {l : List Ob} {q : List Nat} {M j : Nat} (hj : j < M) : sweptL l (q ++ [j + 1]) M = (sweptL l q M).set j ⟨tyOf l (j + 1), wordsOf l (j + 1)⟩ := by
  apply List.ext_getElem?
  intro i
  rw [List.getElem?_set]
  simp only [sweptL, List.getElem?_map, List.length_map, List.length_range]
  by_cases h : i < M
  · rw [List.getElem?_range h]
    by_cases e : j = i
    · subst e; simp [h]
    · have e2 : ¬ i = j := fun x => e x.symm
      simp [e, e2]
  · rw [List.getElem?_eq_none (by simp; omega)]
    by_cases e : j = i
    · omega
    · simp [e]
theorem mem_maxQ {q : List Nat} {n : Nat} (h : n ∈ q) : n ≤ maxQ q := by
  have key : ∀ (q : List Nat) (a : Nat), a ≤ q.foldl max a ∧ ∀ n ∈ q, n ≤ q.foldl max a := by
    intro q
    induction q with
    | nil => intro a; exact ⟨Nat.le_refl _, by simp⟩
    | cons x q ih =>
      intro a
      obtain ⟨h1, h2⟩ := ih (max a x)
      refine ⟨by simp only [List.foldl_cons]; omega, fun n hn => ?_⟩
      rcases List.mem_cons.1 hn with rfl | hn
      · simp only [List.foldl_cons]; omega
      · exact h2 n hn
  exact (key q 0).2 n h
theorem HOwn.heap {W W' : World} {B : Nat} {v : Value} {rs : List ObR} (h : HOwn W B v rs) (hk : ∀ (k : Nat) X T, W.heap[k]? = some (.cells X T (0, 0)) → W'.heap[k]? = W.heap[k]?) : HOwn W' B v rs :=
  ⟨h.row.below (fun k e => by obtain ⟨X, hX⟩ := own_type h.row e; exact hk _ _ _ hX), fun r hr => (h.each r hr).below (fun k e => by obtain ⟨X, hX⟩ := own_type (h.each r hr) e; exact hk _ _ _ hX), h.apart⟩
/-- Between two rounds of Sweep. -/
structure SwI (w0 : World) (B p m : Nat) (s : Sl) (l : List Ob) (q : List Nat) (bm g M : Nat) (pre : List (Nat × ObR)) (W : World) : Prop where
  wq : Wq w0 B p m s l q W
  box : W.heap[bm]? = some (.cells #[.slice (some ⟨g, 0, none⟩) M M] 22 (0, 0))
  seen : pre.map (·.1) = q.take pre.length
  own : ∃ dn, HOwn W w0.heap.size (.slice (some ⟨g, 0, none⟩) M M) dn ∧ dn.map ObR.o = sweptL l (pre.map (·.1)) M
variable {B p m : Nat} {s : Sl}
theorem swi_below {w0 : World} {l : List Ob} {q : List Nat} {bm g M : Nat} {pre : List (Nat × ObR)} {W W' : World} (h : SwI w0 B p m s l q bm g M pre W) (f : Below W.heap.size W W') : SwI w0 B p m s l q bm g M pre W' := by
  obtain ⟨dn, h1, h2⟩ := h.own
  exact ⟨wq_below h.wq f, (f.block _ (lt_of_heap h.box)).trans h.box, h.seen, dn, h1.below f, h2⟩
theorem swi_stays {w0 w : World} {l : List Ob} {q : List Nat} {bm g M : Nat} (hm : m < w.heap.size) (h0 : w0.heap.size ≤ w.heap.size) : Stays (α := Nat × ObR) w.heap.size (fun A C => A = C) (SwI w0 B p m s l q bm g M) :=
  ⟨fun s A C h e => e ▸ h, fun s A k o o' h hk hio ho => by
    have hc : ∀ (i : Nat) X T, A.heap[i]? = some (.cells X T (0, 0)) → (A.putObj k o').heap[i]? = A.heap[i]? := fun i X T hi => World.putObj_heap_other (fun e => by
      rw [e, hio] at hi
      injection hi with hi
      rw [hi] at ho
      cases ho)
    obtain ⟨dn, h1, h2⟩ := h.own
    exact ⟨wq_put hm h0 A k o o' h.wq hk hio ho, (hc _ _ _ h.box).trans h.box, h.seen, dn, h1.heap hc, h2⟩, fun s A o h => swi_below h ((Below.refl _ _).alloc (Nat.le_refl _) _)⟩
/-- A store into a row of objects leaves a walk. -/
theorem wq_cells {w0 W : World} {l : List Ob} {q : List Nat} (h : Wq w0 B p m s l q W) {g : Nat} {cur : Array Value} (hg : W.heap[g]? = some (.cells cur 43 (0, 0))) (hb : w0.heap.size ≤ g) (o : Nat) (vs : List Value) : Wq w0 B p m s l q (W.setCells g o vs) := by
  obtain ⟨h1, h2, v, N, D, h3⟩ := h
  refine ⟨h1, below_cells _ _ h2 hb, v, N, D, h3.keep fun k hk => heap_cells_other g _ _ _ _ (fun e => ?_)⟩
  subst e
  rcases hk with rfl | rfl | hk
  · have := h3.blk
    rw [hg] at this
    injection this with this
    injection this with _ this
    cases this
  · obtain ⟨es, c, h5⟩ := map_blk h3.map
    rw [hg] at h5
    cases h5
  · obtain ⟨X, hX⟩ := own_type h3.row hk
    rw [hg] at hX
    injection hX with hX
    injection hX with _ hX
    cases hX
theorem swi_next {w0 W W1 : World} {rs : List ObR} {q : List Nat} {bm g M j : Nat} {pre : List (Nat × ObR)} {r : ObR} (h : SwI w0 B p m s (rs.map ObR.o) q bm g M pre W) (hq : q[pre.length]? = some (j + 1)) (hr : rs[j]? = some r) (hM : M = maxQ q) (f : Below W.heap.size W W1) {s' : Sl} (ho : Orw vlc 47 2 W1 W.heap.size s'.v r.ws) :
    SwI w0 B p m s (rs.map ObR.o) q bm g M (pre ++ [(j + 1, r)]) (W1.setCells g (j * 2) (obc ⟨r.ty, s', r.ws⟩)) ∧ KeepsOthers W1 (W1.setCells g (j * 2) (obc ⟨r.ty, s', r.ws⟩)) ∧ Wq w0 B p m s (rs.map ObR.o) q (W1.setCells g (j * 2) (obc ⟨r.ty, s', r.ws⟩)) := by
  obtain ⟨dn, h1, h2⟩ := h.own
  have hjM : j < M := by have := mem_maxQ (List.mem_of_getElem? hq); omega
  have hwq := h.wq
  have hsz := hwq.2.1.size
  have hrow := orw_on h1.row f
  obtain ⟨g', cur, eg, hB, hh, _, _⟩ := hrow.blkR rkO.len (by omega)
  injection eg with eg
  injection eg with eg
  subst eg
  have hwq1 := wq_cells (wq_below hwq f) hh hB (j * 2) (obc ⟨r.ty, s', r.ws⟩)
  have hko : KeepsOthers W1 (W1.setCells g (j * 2) (obc ⟨r.ty, s', r.ws⟩)) := (KeepsOthers.setCell _ _ _).trans (KeepsOthers.setCell _ _ _)
  refine ⟨⟨hwq1, ?_, ?_, dn.set j ⟨r.ty, s', r.ws⟩, h1.set f hsz hjM ho, ?_⟩, hko, hwq1⟩
  · have hb1 := (f.block _ (lt_of_heap h.box)).trans h.box
    refine (heap_cells_other g _ _ _ _ (fun e => ?_)).trans hb1
    rw [e, hh] at hb1
    injection hb1 with hb1
    injection hb1 with _ hb1
    cases hb1
  · rw [List.map_append, h.seen, List.length_append]
    show _ ++ [j + 1] = q.take (pre.length + 1)
    rw [List.take_add_one, hq]
    rfl
  · rw [List.map_append]
    show _ = sweptL _ (pre.map (·.1) ++ [j + 1]) M
    rw [sweptL_next hjM, ← h2, List.map_set]
    congr 1
    have e1 : (rs.map ObR.o)[j + 1 - 1]? = some r.o := by simpa using congrArg (Option.map ObR.o) hr
    unfold tyOf wordsOf
    rw [e1]
    rfl
def sweepL (l : List Ob) (roots : List Vl) : List Ob := sweptL l (reachH l roots) (maxQ (reachH l roots))
def goneN (l : List Ob) (roots : List Vl) : Int := ((liveH l).length : Int) - ((reachH l roots).length : Int)
theorem swi_end {w0 W : World} {rs : List ObR} {q : List Nat} {bm g : Nat} {xs : List (Nat × ObR)} (hS : SQ w0 B p m s rs xs W) (h : SwI w0 B p m s (rs.map ObR.o) q bm g (maxQ q) xs W) : ∃ dn, HOwn W w0.heap.size (.slice (some ⟨g, 0, none⟩) (maxQ q) (maxQ q)) dn ∧ dn.map ObR.o = sweptL (rs.map ObR.o) q (maxQ q) := by
  obtain ⟨q', h1, h2⟩ := hS
  have e := wq_uniq h1 h.wq
  subst e
  obtain ⟨dn, h3, h4⟩ := h.own
  refine ⟨dn, h3, ?_⟩
  rw [h4, h.seen, List.take_of_length_le h2]
theorem sw_at {w0 W : World} {rs : List ObR} {q : List Nat} {pre : List (Nat × ObR)} {x : Nat × ObR} (hE : EQ w0 B p m s rs pre x W) (h : Wq w0 B p m s (rs.map ObR.o) q W) : q[pre.length]? = some x.1 ∧ ∃ j, x.1 = j + 1 ∧ rs[j]? = some x.2 := by
  obtain ⟨q', h1, h2, h3⟩ := hE
  have e := wq_uniq h1 h
  subst e
  have hl := (liveN_le (h1.1.2 _ (List.mem_of_getElem? h2))).1
  exact ⟨h2, x.1 - 1, by omega, h3⟩
set_option maxHeartbeats 2000000 in
theorem Sweep_any (w : World) (rs : List ObR) (h : HIn w s rs) (t : Sl) (vs : List Vl) (hv : WsIn w t vs) :
    Calls Try.prog 13 #[s.v, t.v] w fun e w' => Below w.heap.size w w' ∧ ((checkE (rs.map ObR.o) ≠ 0 ∧ e = .returned (.tuple #[.slice none 0 0, .int .i64 0, .int .i64 (checkE (rs.map ObR.o))])) ∨
      (checkE (rs.map ObR.o) = 0 ∧ ∃ g k dn, e = .returned (.tuple #[.slice (some ⟨g, 0, none⟩) k k, .int .i64 (goneN (rs.map ObR.o) vs), .int .i64 0]) ∧ HOwn w' w.heap.size (.slice (some ⟨g, 0, none⟩) k k) dn ∧ dn.map ObR.o = sweepL (rs.map ObR.o) vs)) := by
  refine (callsIn_wide (n := 6)).1 ?_
  refine callsIn_of_wp_marks Try.func13 rfl trivial ?_ rfl
  simp only [Try.ntmps13, List.size_toArray, List.length_cons, List.length_nil, Nat.reduceAdd, Nat.reduceSub, Array.replicate_succ, Array.replicate_zero, List.push_toArray, List.append_toArray, List.nil_append, List.cons_append]
  have HF := hide (from_any w rs h t vs hv)
  have HI := hide h
  obtain ⟨sa, sn, sc⟩ := s
  obtain ⟨ta, tn, tc⟩ := t
  simp only [Sl.v] at HF ⊢
  obtain ⟨ce, hce⟩ : ∃ ce, ce = checkE (rs.map ObR.o) := ⟨_, rfl⟩
  have HCE := hide hce
  rw [← hce] at HF ⊢
  clear hce h hv
  gi_wp2_with fail
  refine ⟨trivial, (callsIn_wide.2 (unhide HF)).mono ?_⟩
  rintro e w1 ⟨f1, ⟨h0, rfl⟩ | ⟨h0, P, m, rfl, hq⟩⟩
  · have F1 := hide f1
    clear f1 HF
    gi_wp2
    exact ⟨_, results_tmp3 rfl _ _ _, unhide F1, .inl ⟨h0, rfl⟩⟩
  · subst h0
    have hck := check_len (l := rs.map ObR.o) (by
      have h1 := unhide HCE
      unfold checkE at h1
      by_cases hh : checkH (rs.map ObR.o) = true
      · exact hh
      · simp [hh] at h1)
    rw [List.length_map] at hck
    have hrl : rs.length ≤ 100000 := by omega
    have hlm : (rs.map ObR.o).length ≤ 100000 := by rw [List.length_map]; omega
    obtain ⟨q, hqe⟩ : ∃ q, q = reachH (rs.map ObR.o) vs := ⟨_, rfl⟩
    have HQE := hide hqe
    rw [← hqe] at hq
    have hin := hq.1
    have hmx : maxQ q ≤ 100000 := maxQ_le (fun n hn => by have := (liveN_le (hin.2 n hn)).2.1; omega)
    obtain ⟨M, hMe⟩ : ∃ M, M = maxQ q := ⟨_, rfl⟩
    have HME := hide hMe
    have HG := hide (greatest_any w w1 (rs.map ObR.o) hlm hq)
    rw [← hMe] at HG hmx
    obtain ⟨w2, hmk, o2, f2, z2⟩ := make_two rkO (x0 := ob0) rfl rfl w1 w.heap.size M (by omega) (by omega) hq.2.1.size
    have hq2 := wq_below hq f2
    have HQ2 := hide hq2
    have O2 := hide o2
    clear hqe hMe hq hin HF f1 o2 hq2
    gi_wp2_with fail
    refine ⟨trivial, (callsIn_wide.2 (unhide HG)).mono ?_⟩
    rintro e w1' ⟨rfl, rfl⟩
    clear HG
    gi_wp2
    obtain ⟨w3, hw3⟩ : ∃ w3, w3 = w2.alloc (.cells #[.slice (some ⟨w1'.heap.size, 0, none⟩) M M] 22) := ⟨_, rfl⟩
    rw [← hw3]
    have f3 : Below w2.heap.size w2 w3 := by rw [hw3]; exact (Below.refl _ _).alloc (Nat.le_refl _) _
    have b3 : w3.heap[w2.heap.size]? = some (.cells #[.slice (some ⟨w1'.heap.size, 0, none⟩) M M] 22 (0, 0)) := by rw [hw3]; exact heap_alloc_last _ _
    have hq3 := wq_below (unhide HQ2) f3
    have H0 : Hid (SwI w w.heap.size P m ⟨sa, sn, sc⟩ (rs.map ObR.o) q w2.heap.size w1'.heap.size M [] w3) := ⟨hq3, b3, by simp, List.replicate M ob0, ⟨orw_on (unhide O2) f3, fun r hr => by
      rw [List.eq_of_mem_replicate hr]
      exact Orw.nil _ _ _ _ _, List.pairwise_replicate.2 (.inr (fun i hi => by simp [ob0, Sl.v, Value.ownBlock] at hi))⟩, by rw [List.map_replicate]; exact (sweptL_nil _ _).symm⟩
    have hml : m < w3.heap.size := by
      obtain ⟨_, _, v, N, D, h3⟩ := hq3
      exact h3.map.lt
    have hw3s : w.heap.size ≤ w3.heap.size := hq3.2.1.size
    have HSQ := hide (members_iter 5 (by omega) w w3 rs (unhide HI) hrl _ hq3)
    have HB3 := hide hq3
    generalize w2.heap.size = b at *
    generalize w1'.heap.size = g at *
    clear hw3 f3 b3 hq3 hmk f2 z2 O2 HQ2
    refine range_overW (α := Nat × ObR) (encs := mEnc) (G := fun A C => A = C) (Kp := KQ w w.heap.size P m ⟨sa, sn, sc⟩ rs) (E := EQ w w.heap.size P m ⟨sa, sn, sc⟩ rs) (S := SQ w w.heap.size P m ⟨sa, sn, sc⟩ rs) (Sp := fun _ _ => True) rfl (by omega) (gf := 31) (fb := #[.pointer (some ⟨P, 0, none⟩)]) (lb := #[]) rfl trivial (enters_of Try.func31 (by kernel_rfl) rfl) (fun _ => rfl) (eq_put hml hw3s) (sq_put hml hw3s) (fun _ _ _ _ _ _ _ _ _ => trivial) (fun A C k o e h _ => e ▸ h) kq_trans (fun W k o o' hk ho hc => kq_put hml hw3s W k o o' hk ho hc) (unhide HSQ)
      (SwI w w.heap.size P m ⟨sa, sn, sc⟩ (rs.map ObR.o) q b g M) (fun _ _ _ => False) (swi_stays hml hw3s) (fun _ => ⟨fun _ _ _ h _ => h, fun _ _ _ _ _ h _ _ _ => h, fun _ _ _ h => h⟩) (unhide H0)
      (fun x _ a1 W => ∃ k, a1 = { tmps := #[.slice sa sn sc, .slice ta tn tc, undef, undef, .slice none 0 0, .int .i64 0, .int .i64 0, .pointer (some ⟨P, 0, none⟩), .int .i64 0, .pointer (some ⟨b, 0, none⟩), .int .i64 (x.1 : Int), .pointer (some ⟨k, 0, none⟩), .tuple #[.pointer (some ⟨P, 0, none⟩), .int .i64 0], .slice sa sn sc, .slice ta tn tc, .tuple #[.pointer (some ⟨P, 0, none⟩), .int .i64 0], .pointer (some ⟨P, 0, none⟩), .int .i64 0, .int .i64 0, .bool false, undef, .pointer (some ⟨P, 0, none⟩), .int .i64 M, .slice (some ⟨g, 0, none⟩) M M, .pointer (some ⟨P, 0, none⟩), .func (.func 31) #[.pointer (some ⟨P, 0, none⟩)] #[], .int .i64 (x.1 : Int), .agg #[.string ⟨x.2.ty.toArray⟩, x.2.s.v], undef, undef, undef, undef, undef, undef, undef, undef, undef, undef, undef, undef, undef, undef, undef, undef, undef, undef, undef, undef], defers := [] } ∧ W.heap[k]? = some (.cells #[.string ⟨x.2.ty.toArray⟩, x.2.s.v] 43 (0, 0)))
      ?hC (fun _ _ _ h f => swi_below h f) (fun _ _ _ _ h f => eq_below h f) (fun _ _ f => kq_below f) ?assign ?body ?done ?stop
    case hC =>
      rintro x _ a1 A k o o' ⟨j, h1, h2⟩ hk ho hc
      exact ⟨j, h1, put_oth ho hc h2 rfl⟩
    case assign =>
      rintro lp ⟨xn, ty, ⟨ra, rn, rc⟩, ws⟩ W K hK
      simp only [mEnc, Sl.v]
      gi_wp2
      exact hK _ _ ((Below.refl _ _).alloc (Nat.le_refl _) _) ⟨_, rfl, heap_alloc_last _ _⟩
    case body =>
      rintro lp pre ⟨xn, ty, ⟨ra, rn, rc⟩, ws⟩ W0 W a1 hI0 hKP hI hE ⟨k, rfl, hk⟩
      clear hI0 hKP
      clear HSQ H0
      obtain ⟨hqx, j, hj, hr⟩ := sw_at hE hI.wq
      obtain rfl : xn = j + 1 := hj
      simp only at hqx hr
      have hjM : j < M := by have := mem_maxQ (List.mem_of_getElem? hqx); rw [unhide HME]; omega
      have hww := hI.wq.2.1
      have hws : WsIn w ⟨ra, rn, rc⟩ ws := (unhide HI).each _ (List.mem_of_getElem? hr)
      have HCL : Hid (∀ W', Below W.heap.size W W' → Calls Try.prog 32 #[.slice ra rn rc] W' fun e w' => ∃ v, e = .returned v ∧ Orw vlc 47 2 w' W'.heap.size v ws ∧ Below W'.heap.size W' w') := fun W' f => by
        have h5 := hws.below (hww.trans (f.mono hww.size))
        exact slCloneV_any W' ⟨ra, rn, rc⟩ ws h5.ls h5.nil (by have := h5.small; simp only at this ⊢; omega)
      have HC : Hid (∀ W', Below W.heap.size W W' → W'.cell? ⟨b, 0, none⟩ = some (.slice (some ⟨g, 0, none⟩) M M) ∧ W'.cell? ⟨k, 0, none⟩ = some (.string ⟨ty.toArray⟩) ∧ W'.cell? ⟨k, 1, none⟩ = some (.slice ra rn rc)) := fun W' f => by
        have h1 := (f.block _ (lt_of_heap hI.box)).trans hI.box
        have h2 := (f.block _ (lt_of_heap hk)).trans hk
        exact ⟨bx_cell h1 0 _ rfl, bx_cell h2 0 _ rfl, bx_cell h2 1 _ rfl⟩
      have HG : Hid (∀ W', Below W.heap.size W W' → W'.frozen? ⟨g, j * 2, none⟩ = false ∧ W'.frozen? ⟨g, j * 2 + 1, none⟩ = false ∧ ∃ u v, W'.cell? ⟨g, j * 2, none⟩ = some u ∧ W'.cell? ⟨g, j * 2 + 1, none⟩ = some v) := fun W' f => by
        obtain ⟨dn, h1, h2⟩ := hI.own
        have hdl : dn.length = M := by have := congrArg List.length h2; rwa [List.length_map, sweptL_len] at this
        obtain ⟨g', cur, e, _, _, hz, qq⟩ := (orw_on h1.row f).blkR rkO.len (by omega)
        injection e with e
        injection e with e
        subst e
        obtain ⟨y, hy⟩ : ∃ y, dn[j]? = some y := ⟨_, List.getElem?_eq_getElem (by omega)⟩
        have d0 := qq j y hy 0 _ rfl
        have d1 := qq j y hy 1 _ rfl
        exact ⟨hz _, hz _, _, _, by simpa using d0, d1⟩
      have HNX : Hid (∀ W1, Below W.heap.size W W1 → ∀ a1 c1, Orw vlc 47 2 W1 W.heap.size (.slice a1 ws.length c1) ws → KeepsFrom w3.heap.size W ((W1.setCell ⟨g, j * 2, none⟩ (.string ⟨ty.toArray⟩)).setCell ⟨g, j * 2 + 1, none⟩ (.slice a1 ws.length c1)) ∧ KQ w w.heap.size P m ⟨sa, sn, sc⟩ rs W ((W1.setCell ⟨g, j * 2, none⟩ (.string ⟨ty.toArray⟩)).setCell ⟨g, j * 2 + 1, none⟩ (.slice a1 ws.length c1)) ∧ SwI w w.heap.size P m ⟨sa, sn, sc⟩ (rs.map ObR.o) q b g M (pre ++ [((j + 1 : Nat), (⟨ty, ⟨ra, rn, rc⟩, ws⟩ : ObR))]) ((W1.setCell ⟨g, j * 2, none⟩ (.string ⟨ty.toArray⟩)).setCell ⟨g, j * 2 + 1, none⟩ (.slice a1 ws.length c1))) := fun W1 f a1 c1 ho => by
        obtain ⟨h1, h2, h3⟩ := swi_next (r := ⟨ty, ⟨ra, rn, rc⟩, ws⟩) hI hqx hr (unhide HME) f (s' := ⟨a1, ws.length, c1⟩) ho
        exact ⟨KeepsFrom.trans ⟨f.size, fun i o _ hi _ => (f.block i (lt_of_heap hi)).trans hi⟩ (h2.from _), fun q2 hq2 => ⟨q, h3, by rw [wq_uniq hq2 hI.wq]; exact Nat.le_refl _⟩, h1⟩
      have hj3 : (j : Int) < (M : Int) := by omega
      have hj2 : (0 : Int) ≤ (j : Int) := by omega
      have hw1 : IntKind.i64.wrap (j : Int) = (j : Int) := by rw [IntKind.wrap_i64]; omega
      have hmix : Try.prog.follows .mixedOrders = true := by kernel_rfl
      clear hI hE hk hqx hr hww hws
      simp only [Sl.v]
      rw [show (((j + 1 : Nat)) : Int) = (j : Int) + 1 by omega]
      generalize (⟨ty.toArray⟩ : ByteArray) = st at *
      gi_wp2
      refine wpIn_region_txtn (fun W' => Below W.heap.size W W') [7] [0, 1, 2, 3, 4, 5, 6, 7, 8, 9] 10 (by rfl) hmix (fun ⟨a, w, h⟩ => h) (by kernel_rfl) (Below.refl _ _).drew ?_
      simp only [List.take_succ_cons, List.take_zero]
      repeat (first
        | (refine Txt.reads (v := ?_) (by rfl) (by rfl) (by rfl) ?_ ?_; rotate_left; (focus ((intro W' hSW; obtain ⟨c0, c1, c2⟩ := unhide HC W' hSW; go_simp; (try rw [hw1])) <;> with_reducible rfl)); simp only [Act.put, List.setIfInBounds_toArray, List.set_cons_zero, List.set_cons_succ]))
      refine Txt.acts (by rfl) (by rfl) (by rfl) (fun K hK => ?_)
      go_simp
      go_wp2_with (go_at_call 32; refine (unhide HCL _ (Below.refl _ _).drew).mono ?_; rintro e W4 ⟨v4, rfl, o4, f4⟩)
      have f5 : Below W.heap.size W W4 := (Below.refl _ _).drew.trans f4
      obtain ⟨a4, c4, rfl, _⟩ := o4.form
      have O4 := hide o4
      have F5 := hide f5
      clear f4 o4 HCL
      refine hK.out _ _ f5 ?_
      clear hK f5
      repeat (first
        | (refine Txt.reads (v := ?_) (by rfl) (by rfl) (by rfl) ?_ ?_; rotate_left; (focus ((intro W' hSW; obtain ⟨c0, c1, c2⟩ := unhide HC W' hSW; go_simp; (try rw [hw1])) <;> with_reducible rfl)); simp only [Act.put, List.setIfInBounds_toArray, List.set_cons_zero, List.set_cons_succ]))
      refine Txt.done (thenLast_n (by rfl) (by rfl) (by rfl) (fun KK hKK => ?_))
      obtain ⟨z0, z1, u0, u1, d0, d1⟩ := unhide HG W4 (unhide F5)
      go_simp
      refine hKK.out _ _ ?_
      exact unhide HNX W4 (unhide F5) a4 c4 (unhide O4)
    case done =>
      rintro D xs W hD hS hI hK
      clear HSQ H0
      obtain ⟨dn, hd1, hd2⟩ := swi_end hS (by rw [← unhide HME]; exact hI)
      rw [← unhide HME] at hd1 hd2
      obtain ⟨hin, hbw, v5, N5, D5, hW5⟩ := hI.wq
      have hq5 := hW5.row.form
      obtain ⟨va, vc, rfl, _⟩ := hq5
      rw [qi_len] at hW5
      have hqle := hin.le
      have hlv := liveFrom_len (rs.map ObR.o) 0
      have HC : Hid (∀ W', Below W.heap.size W W' → W'.cell? ⟨b, 0, none⟩ = some (.slice (some ⟨g, 0, none⟩) M M) ∧ W'.cell? ⟨P, 1, none⟩ = some (.slice va q.length vc)) := fun W' f => by
        have h1 := (f.block _ (lt_of_heap hI.box)).trans hI.box
        have h2 := (f.block _ (lt_of_heap hW5.blk)).trans hW5.blk
        exact ⟨bx_cell h1 0 _ rfl, bx_cell h2 1 _ rfl⟩
      have HLV : Hid (∀ W', Below W.heap.size W W' → Calls Try.prog 33 #[.slice sa sn sc] W' fun e w' => ∃ v, e = .returned v ∧ Orw i15 3 1 w' W'.heap.size v (liveH (rs.map ObR.o)) ∧ Below W'.heap.size W' w') := fun W' f => live_any W' ⟨sa, sn, sc⟩ rs ((unhide HI).below (hbw.trans (f.mono hbw.size))) (by omega)
      have HEND : Hid (∀ W', Below W.heap.size W W' → W'.heap[D]? = some (.deferred (some [])) ∧ Below w.heap.size w (W'.putObj D (.deferred none)) ∧ HOwn (W'.putObj D (.deferred none)) w.heap.size (.slice (some ⟨g, 0, none⟩) M M) dn) := fun W' f => by
        have hK' := (f.block _ (lt_of_heap hK)).trans hK
        have hb' := hbw.trans (f.mono hbw.size)
        refine ⟨hK', hb'.trans ((Below.refl _ _).grown (grownBy_putObj' _ D _) hb'.size (fun k e => by cases e; omega)), (hd1.below f).heap (fun i X T hi => World.putObj_heap_other (fun e => ?_))⟩
        rw [e, hK'] at hi
        cases hi
      have HD2 := hide hd2
      have HGN : Hid (goneN (rs.map ObR.o) vs = ((liveH (rs.map ObR.o)).length : Int) - (q.length : Int)) := by
        unfold goneN
        rw [← unhide HQE]
        rfl
      have HLL : (liveH (rs.map ObR.o)).length ≤ 100000 := by
        rw [List.length_map] at hlv
        show (liveFrom 0 _).length ≤ _
        omega
      have hw1 : IntKind.i64.wrap (((liveH (rs.map ObR.o)).length : Int) - (q.length : Int)) = ((liveH (rs.map ObR.o)).length : Int) - (q.length : Int) := by rw [IntKind.wrap_i64]; omega
      generalize (liveH (rs.map ObR.o)) = LV at *
      have hmix : Try.prog.follows .mixedOrders = true := by kernel_rfl
      clear hS hI hin hbw hW5 hd1 hd2 hlv
      gi_wp2
      refine wpIn_wide.2 ?_
      refine wp_region_txtn (fun W' => Below W.heap.size W W') [2] [0, 1, 4, 5, 6, 7, 8, 2, 3, 9, 10, 11] 12 (by rfl) hmix (by kernel_rfl) (Below.refl _ _).drew ?_
      simp only [List.take_succ_cons, List.take_zero]
      repeat (first
        | (refine Txt.reads (v := ?_) (by rfl) (by rfl) (by rfl) ?_ ?_; rotate_left; (focus ((intro W' hSW; obtain ⟨c0, c1⟩ := unhide HC W' hSW; go_simp; (try rw [hw1])) <;> with_reducible rfl)); simp only [Act.put, List.setIfInBounds_toArray, List.set_cons_zero, List.set_cons_succ]))
      refine Txt.acts (by rfl) (by rfl) (by rfl) (fun K hK => ?_)
      go_simp
      go_wp2_with (go_at_call 33; refine (unhide HLV _ (Below.refl _ _).drew).mono ?_; rintro e W4 ⟨v4, rfl, o4, f4⟩)
      have f5 : Below W.heap.size W W4 := (Below.refl _ _).drew.trans f4
      obtain ⟨a4, c4, rfl, _⟩ := o4.form
      have F5 := hide f5
      clear f4 o4 HLV
      refine hK.out _ _ f5 ?_
      clear hK f5
      repeat (first
        | (refine Txt.reads (v := ?_) (by rfl) (by rfl) (by rfl) ?_ ?_; rotate_left; (focus ((intro W' hSW; obtain ⟨c0, c1⟩ := unhide HC W' hSW; go_simp; (try rw [hw1])) <;> with_reducible rfl)); simp only [Act.put, List.setIfInBounds_toArray, List.set_cons_zero, List.set_cons_succ]))
      refine Txt.done (thenLast_n (by rfl) (by rfl) (by rfl) (fun KK hKK => ?_))
      go_simp
      refine hKK.out _ _ ?_
      obtain ⟨hk9, hb9, ho9⟩ := unhide HEND W4 (unhide F5)
      have HK9 := hide hk9
      have HB9 := hide hb9
      have HO9 := hide ho9
      clear hKK HC hk9 hb9 ho9 HEND
      gi_wp2
      refine ⟨by simp, .inl ⟨_, _, rfl, run_takeDeferred (unhide HK9), ?_⟩⟩
      exact ⟨_, results_tmp3 rfl _ _ _, unhide HB9, g, M, by rw [unhide HGN]; rfl, dn, unhide HO9, by rw [unhide HD2, unhide HME, unhide HQE]; rfl⟩
    case stop =>
      rintro D c pre W _ _ h _
      exact h.elim
end Go.Proofs.Ytnnanlniffjnkaa
