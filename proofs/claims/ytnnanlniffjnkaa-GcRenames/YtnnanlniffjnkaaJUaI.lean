/- Layer 16, the landed gc: Canon. -/
import Derived.Test.YtnnanlniffjnkaaJUaG
import Derived.Test.YtnnanlniffjnkaaJUaH

namespace Go.Proofs.Ytnnanlniffjnkaa
open Go.RowKit Go.Maps Go.Shelf
set_option linter.unusedVariables false
set_option maxRecDepth 100000
attribute [local go_sem] Oper.semAt_some

variable {B p m : Nat} {s : Sl}
/-- Between two rounds of Canon. -/
structure CnI (w0 : World) (B p m : Nat) (s : Sl) (l : List Ob) (q : List Nat) (bw bm : Nat) (pre : List (Nat × ObR)) (W : World) : Prop where
  wq : Wq w0 B p m s l q W
  pt : Pt W bw p
  hbm : w0.heap.size ≤ bm
  seen : pre.map (·.1) = q.take pre.length
  own : ∃ v dn, W.heap[bm]? = some (.cells #[v] 22 (0, 0)) ∧ HOwn W w0.heap.size v dn ∧ dn.map ObR.o = (pre.map (·.1)).map (anewO l q)
theorem cni_below {w0 : World} {l : List Ob} {q : List Nat} {bw bm : Nat} {pre : List (Nat × ObR)} {W W' : World} (h : CnI w0 B p m s l q bw bm pre W) (f : Below W.heap.size W W') : CnI w0 B p m s l q bw bm pre W' := by
  obtain ⟨v, dn, h0, h1, h2⟩ := h.own
  exact ⟨wq_below h.wq f, h.pt.below f, h.hbm, h.seen, v, dn, (f.block _ (lt_of_heap h0)).trans h0, h1.below f, h2⟩
theorem cni_stays {w0 w : World} {l : List Ob} {q : List Nat} {bw bm : Nat} (hm : m < w.heap.size) (h0 : w0.heap.size ≤ w.heap.size) : Stays (α := Nat × ObR) w.heap.size (fun A C => A = C) (CnI w0 B p m s l q bw bm) :=
  ⟨fun s A C h e => e ▸ h, fun s A k o o' h hk hio ho => by
    have hc : ∀ (i : Nat) X T, A.heap[i]? = some (.cells X T (0, 0)) → (A.putObj k o').heap[i]? = A.heap[i]? := fun i X T hi => World.putObj_heap_other (fun e => by
      rw [e, hio] at hi
      injection hi with hi
      rw [hi] at ho
      cases ho)
    obtain ⟨v, dn, h1, h2, h3⟩ := h.own
    exact ⟨wq_put hm h0 A k o o' h.wq hk hio ho, (hc _ _ _ h.pt).trans h.pt, h.hbm, h.seen, v, dn, (hc _ _ _ h1).trans h1, h2.heap hc, h3⟩, fun s A o h => cni_below h ((Below.refl _ _).alloc (Nat.le_refl _) _)⟩
theorem HOwn.heapT {W W' : World} {B : Nat} {v : Value} {rs : List ObR} (h : HOwn W B v rs) (hk : ∀ (k : Nat) X, W.heap[k]? = some (.cells X 43 (0, 0)) ∨ W.heap[k]? = some (.cells X 47 (0, 0)) → W'.heap[k]? = W.heap[k]?) : HOwn W' B v rs :=
  ⟨h.row.below (fun k e => by obtain ⟨X, hX⟩ := own_type h.row e; exact hk _ _ (.inl hX)), fun r hr => (h.each r hr).below (fun k e => by obtain ⟨X, hX⟩ := own_type (h.each r hr) e; exact hk _ _ (.inr hX)), h.apart⟩
/-- What an append to the row v, and a store to the place bm behind it, leave. -/
theorem app_far {W W1 W2 : World} {v u : Value} {bm : Nat} (f : Below W.heap.size W W1) (g : W1.grownBy W2 v.ownBlock) : ∀ i, i < W.heap.size → i ≠ bm → v.ownBlock ≠ some i → (W2.setCell ⟨bm, 0, none⟩ u).heap[i]? = W.heap[i]? := fun i hi hb hv =>
  (Below.heap_setCell _ _ _ _ hb).trans ((g.block i (Nat.lt_of_lt_of_le hi f.size) (fun e => hv e.symm)).trans (f.block i hi))
theorem cni_next {w0 W W1 W2 : World} {rs : List ObR} {q : List Nat} {bw bm j : Nat} {pre : List (Nat × ObR)} {r : ObR} (hwq : Wq w0 B p m s (rs.map ObR.o) q W) (hpt : Pt W bw p) (hbm : w0.heap.size ≤ bm) (hseen : pre.map (·.1) = q.take pre.length) {v : Value} {dn : List ObR} (hbx : W.heap[bm]? = some (.cells #[v] 22 (0, 0))) (hown : HOwn W w0.heap.size v dn) (hsame : dn.map ObR.o = (pre.map (·.1)).map (anewO (rs.map ObR.o) q))
    (hq : q[pre.length]? = some (j + 1)) (hr : rs[j]? = some r) (f : Below W.heap.size W W1) {s' : Sl} (ho : Orw vlc 47 2 W1 W.heap.size s'.v (r.ws.map (anewV (rs.map ObR.o) q))) {v' : Value} (hrow : Orw obc 43 2 W2 w0.heap.size v' (dn ++ [⟨r.ty, s', r.ws.map (anewV (rs.map ObR.o) q)⟩])) (g : W1.grownBy W2 v.ownBlock) :
    W2.heap[bm]? = some (.cells #[v] 22 (0, 0)) ∧ Pt W2 bw p ∧ (∀ (k : Nat) (o : Obj), W.heap[k]? = some o → v.ownBlock ≠ some k → W2.heap[k]? = some o) ∧ (∀ (k : Nat) (o : Obj), W.heap[k]? = some o → o.isCells = false → (W2.setCell ⟨bm, 0, none⟩ v').heap[k]? = some o) ∧ W.heap.size ≤ (W2.setCell ⟨bm, 0, none⟩ v').heap.size ∧ CnI w0 B p m s (rs.map ObR.o) q bw bm (pre ++ [(j + 1, r)]) (W2.setCell ⟨bm, 0, none⟩ v') := by
  have far := app_far (u := v') (bm := bm) f g
  have hvb : v.ownBlock ≠ some bm := fun e => by
    obtain ⟨X, hX⟩ := own_type hown.row e
    rw [hbx] at hX
    injection hX with hX
    injection hX with _ hX
    cases hX
  have keepC : ∀ (k : Nat) X T, W.heap[k]? = some (.cells X T (0, 0)) → T ≠ 43 → W2.heap[k]? = some (.cells X T (0, 0)) := fun k X T hk hT =>
    (g.block k (Nat.lt_of_lt_of_le (lt_of_heap hk) f.size) (fun e => by
      obtain ⟨Y, hY⟩ := own_type hown.row e.symm
      rw [hk] at hY
      injection hY with hY
      injection hY with _ hY
      exact hT hY)).trans ((f.block k (lt_of_heap hk)).trans hk)
  have hsz := hwq.2.1.size
  have hb2 : W2.heap[bm]? = some (.cells #[v] 22 (0, 0)) := keepC _ _ _ hbx (by decide)
  have hb3 : (W2.setCell ⟨bm, 0, none⟩ v').heap[bm]? = some (.cells #[v'] 22 (0, 0)) := heap_setCell_same W2 bm 0 _ _ _ hb2
  have hbel : Below w0.heap.size w0 (W2.setCell ⟨bm, 0, none⟩ v') := ((hwq.2.1.trans (f.mono hsz)).grown g (Nat.le_trans hsz f.size) (fun k hk => (hown.row.lt k hk).1)).setCell (p := ⟨bm, 0, none⟩) hbm _
  have hown2 := hown.push (y := ⟨r.ty, s', r.ws.map (anewV (rs.map ObR.o) q)⟩) f hsz ho hrow g
  have hcl : ∀ (k : Nat) (o : Obj), W.heap[k]? = some o → o.isCells = false → (W2.setCell ⟨bm, 0, none⟩ v').heap[k]? = some o := fun k o hk hc => (far k (lt_of_heap hk) (fun e => by
      rw [e, hbx] at hk
      injection hk with hk
      rw [← hk] at hc
      cases hc) (fun e => by
      obtain ⟨Y, hY⟩ := own_type hown.row e
      rw [hk] at hY
      injection hY with hY
      rw [hY] at hc
      cases hc)).trans hk
  refine ⟨hb2, keepC _ _ _ hpt (by decide), fun k o hk hn => (g.block k (Nat.lt_of_lt_of_le (lt_of_heap hk) f.size) (fun e => hn e.symm)).trans ((f.block k (lt_of_heap hk)).trans hk), hcl, Nat.le_trans f.size (Nat.le_trans g.size (by simp [World.setCell])), ⟨?_, ?_, hbm, ?_, v', _, hb3, hown2.heapT (fun k X hk => ?_), ?_⟩⟩
  · obtain ⟨h1, h2, v5, N5, D5, h3⟩ := hwq
    refine ⟨h1, hbel, v5, N5, D5, h3.keep fun k hk => ?_⟩
    have hcell : ∀ (k : Nat) X T, W.heap[k]? = some (.cells X T (0, 0)) → T ≠ 43 → T ≠ 22 → (W2.setCell ⟨bm, 0, none⟩ v').heap[k]? = W.heap[k]? := fun k X T hk hT hT2 => far k (lt_of_heap hk) (fun e => by
      rw [e, hbx] at hk
      injection hk with hk
      injection hk with _ hk
      exact hT2 hk.symm) (fun e => by
      obtain ⟨Y, hY⟩ := own_type hown.row e
      rw [hk] at hY
      injection hY with hY
      injection hY with _ hY
      exact hT hY)
    rcases hk with rfl | rfl | hk
    · exact hcell _ _ _ h3.blk (by decide) (by decide)
    · obtain ⟨es, c, h5⟩ := map_blk h3.map
      rw [hcl _ _ h5 rfl, h5]
    · obtain ⟨X, hX⟩ := own_type h3.row hk
      exact hcell _ _ _ hX (by decide) (by decide)
  · refine (Below.heap_setCell _ _ _ _ (fun e => ?_)).trans (keepC _ _ _ hpt (by decide))
    have e2 : bw = bm := e
    have := hpt
    unfold Pt at this
    rw [e2, hbx] at this
    injection this with this
    injection this with _ this
    cases this
  · rw [List.map_append, hseen, List.length_append]
    show _ ++ [j + 1] = q.take (pre.length + 1)
    rw [List.take_add_one, hq]
    rfl
  · refine Below.heap_setCell _ _ _ _ (fun e => ?_)
    have e2 : k = bm := e
    rcases hk with hk | hk <;> (rw [e2, hb2] at hk; injection hk with hk; injection hk with _ hk; cases hk)
  · rw [List.map_append, hsame, List.map_append, List.map_append]
    congr 1
    have e1 : (rs.map ObR.o)[j + 1 - 1]? = some r.o := by simpa using congrArg (Option.map ObR.o) hr
    unfold anewO tyOf wordsOf
    simp only [List.map_cons, List.map_nil]
    rw [e1]
    rfl
set_option maxHeartbeats 2000000 in
theorem Canon_any (w : World) (rs : List ObR) (h : HIn w s rs) (t : Sl) (vs : List Vl) (hv : WsIn w t vs) (hfr : ∀ r ∈ rs, VFit r.ws) (hfv : VFit vs) :
    Calls Try.prog 18 #[s.v, t.v] w fun e w' => Below w.heap.size w w' ∧ ((checkE (rs.map ObR.o) ≠ 0 ∧ e = .returned (.tuple #[.slice none 0 0, .slice none 0 0, .int .i64 (checkE (rs.map ObR.o))])) ∨
      (checkE (rs.map ObR.o) = 0 ∧ ∃ v u dn, e = .returned (.tuple #[v, u, .int .i64 0]) ∧ HOwn w' w.heap.size v dn ∧ dn.map ObR.o = canonO (rs.map ObR.o) vs ∧ Orw vlc 47 2 w' w.heap.size u (canonV (rs.map ObR.o) vs))) := by
  refine (callsIn_wide (n := 6)).1 ?_
  refine callsIn_of_wp_marks Try.func18 rfl trivial ?_ rfl
  simp only [Try.ntmps18, List.size_toArray, List.length_cons, List.length_nil, Nat.reduceAdd, Nat.reduceSub, Array.replicate_succ, Array.replicate_zero, List.push_toArray, List.append_toArray, List.nil_append, List.cons_append]
  have HF := hide (from_any w rs h t vs hv)
  have HI := hide h
  have HV := hide hv
  obtain ⟨sa, sn, sc⟩ := s
  obtain ⟨ta, tn, tc⟩ := t
  simp only [Sl.v] at HF ⊢
  obtain ⟨ce, hce⟩ : ∃ ce, ce = checkE (rs.map ObR.o) := ⟨_, rfl⟩
  have HCE := hide hce
  rw [← hce] at HF ⊢
  clear hce h hv
  gi_wp2_with fail
  refine ⟨trivial, (callsIn_wide.2 (unhide HF)).mono ?_⟩
  rintro e w1 ⟨f1, ⟨h0, rfl⟩ | ⟨h0, P, m, rfl, hq⟩⟩
  · have F1 := hide f1
    clear f1 HF
    gi_wp2
    exact ⟨_, results_tmp3 rfl _ _ _, (unhide F1).trans (((Below.refl _ _).alloc (Nat.le_refl _) _).mono (unhide F1).size), .inl ⟨h0, rfl⟩⟩
  · subst h0
    have hck := check_len (l := rs.map ObR.o) (by
      have h1 := unhide HCE
      unfold checkE at h1
      by_cases hh : checkH (rs.map ObR.o) = true
      · exact hh
      · simp [hh] at h1)
    rw [List.length_map] at hck
    have hrl : rs.length ≤ 100000 := by omega
    have hlm : (rs.map ObR.o).length ≤ 100000 := by rw [List.length_map]; omega
    obtain ⟨q, hqe⟩ : ∃ q, q = reachH (rs.map ObR.o) vs := ⟨_, rfl⟩
    have HQE := hide hqe
    rw [← hqe] at hq
    obtain ⟨w3, hw3⟩ : ∃ w3, w3 = (w1.alloc (.cells #[.pointer (some ⟨P, 0, none⟩)] 54)).alloc (.cells #[.slice none 0 0] 22) := ⟨_, rfl⟩
    have f3 : Below w1.heap.size w1 w3 := by rw [hw3]; exact ((Below.refl _ _).alloc (Nat.le_refl _) _).alloc (by simp) _
    have hq3 := wq_below hq f3
    have hs1 := f1.size
    have hpt : Pt w3 w1.heap.size P := by rw [hw3]; exact (heap_alloc_old _ _ (by simp)).trans (heap_alloc_last _ _)
    have hbx : w3.heap[w1.heap.size + 1]? = some (.cells #[.slice none 0 0] 22 (0, 0)) := by
      rw [hw3]
      have := heap_alloc_last (w1.alloc (.cells #[.pointer (some ⟨P, 0, none⟩)] 54)) (.cells #[.slice none 0 0] 22)
      rw [show (w1.alloc (.cells #[.pointer (some ⟨P, 0, none⟩)] 54)).heap.size = w1.heap.size + 1 by simp] at this
      exact this
    have H0 : Hid (CnI w w.heap.size P m ⟨sa, sn, sc⟩ (rs.map ObR.o) q w1.heap.size (w1.heap.size + 1) [] w3) := ⟨hq3, hpt, by omega, by simp, .slice none 0 0, [], hbx, ⟨Orw.nil _ _ _ _ _, (fun r hr => by simp at hr), List.Pairwise.nil⟩, rfl⟩
    have hml : m < w3.heap.size := by
      obtain ⟨_, _, v, N, D, h3⟩ := hq3
      exact h3.map.lt
    have hw3s : w.heap.size ≤ w3.heap.size := hq3.2.1.size
    have HSQ := hide (members_iter 5 (by omega) w w3 rs (unhide HI) hrl _ hq3)
    have HQI := hide hq3.1
    have hqle := hq3.1.le
    rw [List.length_map] at hqle
    clear hqe hq HF f1 f3 hq3 hpt hbx hs1
    gi_wp2
    rw [← hw3]
    clear hw3
    generalize w1.heap.size + 1 = bm at *
    generalize w1.heap.size = bw at *
    refine range_overW (α := Nat × ObR) (encs := mEnc) (G := fun A C => A = C) (Kp := KQ w w.heap.size P m ⟨sa, sn, sc⟩ rs) (E := EQ w w.heap.size P m ⟨sa, sn, sc⟩ rs) (S := SQ w w.heap.size P m ⟨sa, sn, sc⟩ rs) (Sp := fun _ _ => True) rfl (by omega) (gf := 31) (fb := #[.pointer (some ⟨P, 0, none⟩)]) (lb := #[]) rfl trivial (enters_of Try.func31 (by kernel_rfl) rfl) (fun _ => rfl) (eq_put hml hw3s) (sq_put hml hw3s) (fun _ _ _ _ _ _ _ _ _ => trivial) (fun A C k o e h _ => e ▸ h) kq_trans (fun W k o o' hk ho hc => kq_put hml hw3s W k o o' hk ho hc) (unhide HSQ)
      (CnI w w.heap.size P m ⟨sa, sn, sc⟩ (rs.map ObR.o) q bw bm) (fun _ _ _ => False) (cni_stays hml hw3s) (fun _ => ⟨fun _ _ _ h _ => h, fun _ _ _ _ _ h _ _ _ => h, fun _ _ _ h => h⟩) (unhide H0)
      (fun x n0 a1 W => ∃ k, n0 ≤ k ∧ a1 = { tmps := #[.slice sa sn sc, .slice ta tn tc, undef, undef, .slice none 0 0, .slice none 0 0, .int .i64 0, .pointer (some ⟨bw, 0, none⟩), .int .i64 0, .pointer (some ⟨bm, 0, none⟩), undef, .pointer (some ⟨k, 0, none⟩), .tuple #[.pointer (some ⟨P, 0, none⟩), .int .i64 0], .slice sa sn sc, .slice ta tn tc, .tuple #[.pointer (some ⟨P, 0, none⟩), .int .i64 0], .pointer (some ⟨P, 0, none⟩), .int .i64 0, .int .i64 0, .bool false, undef, .pointer (some ⟨P, 0, none⟩), .func (.func 31) #[.pointer (some ⟨P, 0, none⟩)] #[], .int .i64 (x.1 : Int), .agg #[.string ⟨x.2.ty.toArray⟩, x.2.s.v], undef, undef, undef, undef, undef, undef, undef, undef, undef, undef, undef, undef, undef, undef], defers := [] } ∧ W.heap[k]? = some (.cells #[.string ⟨x.2.ty.toArray⟩, x.2.s.v] 43 (0, 0)))
      ?hC (fun _ _ _ h f => cni_below h f) (fun _ _ _ _ h f => eq_below h f) (fun _ _ f => kq_below f) ?assign ?body ?done ?stop
    case hC =>
      rintro x n0 a1 A k o o' ⟨j, h0, h1, h2⟩ hk ho hc
      exact ⟨j, h0, h1, put_oth ho hc h2 rfl⟩
    case assign =>
      rintro lp ⟨xn, ty, ⟨ra, rn, rc⟩, ws⟩ W K hK
      simp only [mEnc, Sl.v]
      gi_wp2
      exact hK _ _ ((Below.refl _ _).alloc (Nat.le_refl _) _) ⟨_, Nat.le_refl _, rfl, heap_alloc_last _ _⟩
    case body =>
      rintro lp pre ⟨xn, ty, ⟨ra, rn, rc⟩, ws⟩ W0 W a1 hI0 hKP hI hE ⟨k, hn0, rfl, hk⟩
      clear HSQ H0
      obtain ⟨hqx, j, hj, hr⟩ := sw_at hE hI.wq
      obtain rfl : xn = j + 1 := hj
      simp only at hqx hr
      obtain ⟨v, dn, hbx, hown, hsame⟩ := hI.own
      have hvk : v.ownBlock ≠ some k := fun e => by
        obtain ⟨v0, dn0, hbx0, hown0, _⟩ := hI0.own
        have := hKP _ _ hbx0 rfl
        rw [hbx] at this
        injection this with this
        injection this with this
        injection this with this
        injection this with this
        subst this
        have := (hown0.row.lt k e).2
        omega
      clear hI0 hKP hE hn0
      have hww := hI.wq.2.1
      have hws : WsIn w ⟨ra, rn, rc⟩ ws := (unhide HI).each _ (List.mem_of_getElem? hr)
      have hwf : VFit ws := hfr _ (List.mem_of_getElem? hr)
      obtain ⟨wn, hwn⟩ : ∃ wn, wn = ws.map (anewV (rs.map ObR.o) q) := ⟨_, rfl⟩
      have HRN : Hid (∀ W', Below W.heap.size W W' → Calls Try.prog 36 #[.pointer (some ⟨P, 0, none⟩), .slice ra rn rc] W' fun e w' => ∃ v, e = .returned v ∧ Orw vlc 47 2 w' W'.heap.size v wn ∧ Below W'.heap.size W' w') := fun W' f => by
        rw [hwn]
        exact renamed_any w W' _ (wq_below hI.wq f) hlm ⟨ra, rn, rc⟩ ws (hws.below (hww.trans (f.mono hww.size))) hwf
      have HC : Hid (∀ W', Below W.heap.size W W' → W'.cell? ⟨bm, 0, none⟩ = some v ∧ W'.cell? ⟨k, 0, none⟩ = some (.string ⟨ty.toArray⟩) ∧ W'.cell? ⟨k, 1, none⟩ = some (.slice ra rn rc) ∧ W'.cell? ⟨bw, 0, none⟩ = some (.pointer (some ⟨P, 0, none⟩))) := fun W' f => by
        have h1 := (f.block _ (lt_of_heap hbx)).trans hbx
        have h2 := (f.block _ (lt_of_heap hk)).trans hk
        exact ⟨bx_cell h1 0 _ rfl, bx_cell h2 0 _ rfl, bx_cell h2 1 _ rfl, (hI.pt.below f).cell⟩
      have hpl : pre.length < q.length := (List.getElem?_eq_some_iff.1 hqx).1
      have hdl : dn.length = pre.length := by have := congrArg List.length hsame; simpa using this
      have HOW := hide hown
      have HNX : Hid (∀ W1 W2 a6 c6 v', Below W.heap.size W W1 → Orw vlc 47 2 W1 W.heap.size (.slice a6 wn.length c6) wn → Orw obc 43 2 W2 w.heap.size v' (dn ++ [⟨ty, ⟨a6, wn.length, c6⟩, wn⟩]) → W1.grownBy W2 v.ownBlock →
          (W2.cell? ⟨bm, 0, none⟩ = some v ∧ W2.cell? ⟨k, 0, none⟩ = some (.string ⟨ty.toArray⟩) ∧ W2.cell? ⟨k, 1, none⟩ = some (.slice ra rn rc) ∧ W2.cell? ⟨bw, 0, none⟩ = some (.pointer (some ⟨P, 0, none⟩))) ∧ W2.frozen? ⟨bm, 0, none⟩ = false ∧ KeepsFrom w3.heap.size W (W2.setCell ⟨bm, 0, none⟩ v') ∧ KQ w w.heap.size P m ⟨sa, sn, sc⟩ rs W (W2.setCell ⟨bm, 0, none⟩ v') ∧ CnI w w.heap.size P m ⟨sa, sn, sc⟩ (rs.map ObR.o) q bw bm (pre ++ [((j + 1 : Nat), (⟨ty, ⟨ra, rn, rc⟩, ws⟩ : ObR))]) (W2.setCell ⟨bm, 0, none⟩ v')) := fun W1 W2 a6 c6 v' f o1 o2 g => by
        rw [hwn] at o1 o2
        obtain ⟨h1, h2, h3, h4, h5, h6⟩ := cni_next (r := ⟨ty, ⟨ra, rn, rc⟩, ws⟩) hI.wq hI.pt hI.hbm hI.seen hbx hown hsame hqx hr f (s' := ⟨a6, (ws.map (anewV (rs.map ObR.o) q)).length, c6⟩) o1 o2 g
        have h7 := h3 k _ hk hvk
        refine ⟨⟨bx_cell h1 0 _ rfl, bx_cell h7 0 _ rfl, bx_cell h7 1 _ rfl, h2.cell⟩, frozen_of_row _ _ _ _ _ h1, ⟨h5, fun i o _ hi hc => h4 i o hi hc⟩, fun q2 hq2 => ⟨q, h6.wq, ?_⟩, h6⟩
        rw [wq_uniq hq2 hI.wq]
        exact Nat.le_refl _
      have hmix : Try.prog.follows .mixedOrders = true := by kernel_rfl
      have HWS := hide hww.size
      clear hI hk hqx hr hww hws hbx hown hsame hwn hvk
      simp only [Sl.v]
      rw [show (((j + 1 : Nat)) : Int) = (j : Int) + 1 by omega]
      obtain ⟨st, hst⟩ : ∃ st : ByteArray, st = ⟨ty.toArray⟩ := ⟨_, rfl⟩
      have HST := hide hst
      rw [← hst] at HC HNX ⊢
      clear hst
      obtain ⟨S2, hS2⟩ : ∃ S2 : World → Prop, S2 = fun W' => W'.cell? ⟨bm, 0, none⟩ = some v ∧ W'.cell? ⟨k, 0, none⟩ = some (.string st) ∧ W'.cell? ⟨k, 1, none⟩ = some (.slice ra rn rc) ∧ W'.cell? ⟨bw, 0, none⟩ = some (.pointer (some ⟨P, 0, none⟩)) := ⟨_, rfl⟩
      have HS2 : Hid (∀ W', S2 W' ↔ (W'.cell? ⟨bm, 0, none⟩ = some v ∧ W'.cell? ⟨k, 0, none⟩ = some (.string st) ∧ W'.cell? ⟨k, 1, none⟩ = some (.slice ra rn rc) ∧ W'.cell? ⟨bw, 0, none⟩ = some (.pointer (some ⟨P, 0, none⟩)))) := fun W' => by rw [hS2]
      clear hS2
      obtain ⟨va, vc, hvf, _⟩ := (unhide HOW).row.form
      rw [hdl] at hvf
      subst hvf
      gi_wp2
      refine wpIn_region_txtn S2 [6, 8, 9] [0, 1, 2, 3, 4, 5, 6, 7, 8, 9] 10 (by rfl) hmix (fun ⟨a, w, h⟩ => h) (by kernel_rfl) ((unhide HS2 _).2 (unhide HC _ (Below.refl _ _).drew)) ?_
      simp only [List.take_succ_cons, List.take_zero]
      repeat (first
        | (refine Txt.reads (v := ?_) (by rfl) (by rfl) (by rfl) ?_ ?_; rotate_left; (focus ((intro W' hSW; obtain ⟨c0, c1, c2, c3⟩ := (unhide HS2 W').1 hSW; go_simp) <;> with_reducible rfl)); simp only [Act.put, List.setIfInBounds_toArray, List.set_cons_zero, List.set_cons_succ]))
      refine Txt.acts (by rfl) (by rfl) (by rfl) (fun K hK => ?_)
      go_simp
      go_wp2_with (go_at_call 36; refine (unhide HRN _ (Below.refl _ _).drew).mono ?_; rintro e W1 ⟨v6, rfl, o1, f1⟩)
      have f5 : Below W.heap.size W W1 := (Below.refl _ _).drew.trans f1
      obtain ⟨a6, c6, rfl, _⟩ := o1.form
      have O1 := hide o1
      have F5 := hide f5
      clear f1 o1 HRN
      refine hK.out _ _ ((unhide HS2 _).2 (unhide HC _ f5)) ?_
      clear hK f5
      repeat (first
        | (refine Txt.reads (v := ?_) (by rfl) (by rfl) (by rfl) ?_ ?_; rotate_left; (focus ((intro W' hSW; obtain ⟨c0, c1, c2, c3⟩ := (unhide HS2 W').1 hSW; go_simp) <;> with_reducible rfl)); simp only [Act.put, List.setIfInBounds_toArray, List.set_cons_zero, List.set_cons_succ]))
      refine Txt.acts (by rfl) (by rfl) (by rfl) (fun K hK => ?_)
      go_simp
      obtain ⟨w7, hw7⟩ : ∃ w7, w7 = W1.alloc (.cells #[.string st, .slice a6 wn.length c6] 43) := ⟨_, rfl⟩
      have f7 : Below W1.heap.size W1 w7 := by rw [hw7]; exact (Below.refl _ _).alloc (Nat.le_refl _) _
      have l7 : Ls 2 obc w7 (some ⟨W1.heap.size, 0, none⟩) 1 [⟨ty, ⟨a6, wn.length, c6⟩, wn⟩] := by rw [hw7, unhide HST]; exact ls_one (cs := obc) (sz := 2) W1 _ _ (ObR.mk ty ⟨a6, wn.length, c6⟩ wn) rfl
      rw [← hw7]
      clear hw7
      have f17 : Below W.heap.size W w7 := (unhide F5).trans (f7.mono (unhide F5).size)
      refine hK.out _ _ ((unhide HS2 _).2 (unhide HC _ f17)) ?_
      clear hK
      refine Txt.acts (by rfl) (by rfl) (by rfl) (fun K hK => ?_)
      have hrow := orw_on (unhide HOW).row f17
      have hsz7 : w.heap.size ≤ w7.heap.size := by
        by_cases hp0 : pre.length = 0
        · have := f17.size; have := (unhide HWS); omega
        · obtain ⟨g0, _, e0, _⟩ := hrow.blkR rkO.len hp0
          subst e0
          have := hrow.lt g0 rfl
          omega
      refine wpR_append rkO (.tmp 25) (.tmp 33) rfl w.heap.size _ dn (by rfl) hrow (some ⟨W1.heap.size, 0, none⟩) 1 1 [⟨ty, ⟨a6, wn.length, c6⟩, wn⟩] (by rfl) l7 (fun e => by cases e) (by omega) (by omega) hsz7 ?_
      intro v8 w8 o8 g8
      obtain ⟨s8, z8, hn8⟩ := unhide HNX w7 w8 a6 c6 v8 f17 (orw_on (unhide O1) f7) o8 g8
      have c8 := s8.1
      obtain ⟨a8, c8', rfl, _⟩ := o8.form
      have hl8 : (dn ++ [(⟨ty, ⟨a6, wn.length, c6⟩, wn⟩ : ObR)]).length = pre.length + 1 := by rw [List.length_append, hdl]; rfl
      rw [hl8] at hn8 ⊢
      have HN8 := hide hn8
      refine hK.out _ _ ((unhide HS2 _).2 s8) ?_
      clear hK hn8 o8 g8 hrow l7 s8 HNX HC HS2
      refine Txt.done (thenLast_n (by rfl) (by rfl) (by rfl) (fun KK hKK => ?_))
      go_simp
      refine hKK.out _ _ ?_
      exact unhide HN8
    case done =>
      rintro D xs W hD hS hI hK
      clear HSQ H0
      have hend : xs.map (·.1) = q := by
        obtain ⟨q', h1, h2⟩ := hS
        have e := wq_uniq h1 hI.wq
        subst e
        rw [hI.seen, List.take_of_length_le h2]
      obtain ⟨v, dn, hbx, hown, hsame⟩ := hI.own
      rw [hend] at hsame
      have hbw := hI.wq.2.1
      have HC : Hid (∀ W', Below W.heap.size W W' → W'.cell? ⟨bm, 0, none⟩ = some v ∧ W'.cell? ⟨bw, 0, none⟩ = some (.pointer (some ⟨P, 0, none⟩))) := fun W' f => by
        have h1 := (f.block _ (lt_of_heap hbx)).trans hbx
        exact ⟨bx_cell h1 0 _ rfl, (hI.pt.below f).cell⟩
      have HRN : Hid (∀ W', Below W.heap.size W W' → Calls Try.prog 36 #[.pointer (some ⟨P, 0, none⟩), .slice ta tn tc] W' fun e w' => ∃ v, e = .returned v ∧ Orw vlc 47 2 w' W'.heap.size v (vs.map (anewV (rs.map ObR.o) q)) ∧ Below W'.heap.size W' w') := fun W' f =>
        renamed_any w W' _ (wq_below hI.wq f) hlm ⟨ta, tn, tc⟩ vs ((unhide HV).below (hbw.trans (f.mono hbw.size))) hfv
      have HEND : Hid (∀ W', Below W.heap.size W W' → W'.heap[D]? = some (.deferred (some [])) ∧ Below w.heap.size w (W'.putObj D (.deferred none)) ∧ HOwn (W'.putObj D (.deferred none)) w.heap.size v dn ∧ ∀ u us, Orw vlc 47 2 W' W.heap.size u us → Orw vlc 47 2 (W'.putObj D (.deferred none)) w.heap.size u us) := fun W' f => by
        have hK' := (f.block _ (lt_of_heap hK)).trans hK
        have hb' := hbw.trans (f.mono hbw.size)
        have hot : ∀ (i : Nat) X T, W'.heap[i]? = some (.cells X T (0, 0)) → (W'.putObj D (.deferred none)).heap[i]? = W'.heap[i]? := fun i X T hi => World.putObj_heap_other (fun e => by
          rw [e, hK'] at hi
          cases hi)
        refine ⟨hK', hb'.trans ((Below.refl _ _).grown (grownBy_putObj' _ D _) hb'.size (fun k e => by cases e; omega)), (hown.below f).heap hot, fun u us ho => (ho.below (fun i hi => ?_)).base hbw.size⟩
        obtain ⟨X, hX⟩ := own_type ho hi
        exact hot _ _ _ hX
      have HSM := hide hsame
      have hmix : Try.prog.follows .mixedOrders = true := by kernel_rfl
      clear hS hI hbx hown hsame hend hbw hK
      gi_wp2
      refine wpIn_wide.2 ?_
      refine wp_region_txtn (fun W' => Below W.heap.size W W') [3] [0, 1, 2, 3, 4, 5] 6 (by rfl) hmix (by kernel_rfl) (Below.refl _ _).drew ?_
      simp only [List.take_succ_cons, List.take_zero]
      repeat (first
        | (refine Txt.reads (v := ?_) (by rfl) (by rfl) (by rfl) ?_ ?_; rotate_left; (focus ((intro W' hSW; obtain ⟨c0, c1⟩ := unhide HC W' hSW; go_simp) <;> with_reducible rfl)); simp only [Act.put, List.setIfInBounds_toArray, List.set_cons_zero, List.set_cons_succ]))
      refine Txt.acts (by rfl) (by rfl) (by rfl) (fun K hK => ?_)
      go_simp
      go_wp2_with (go_at_call 36; refine (unhide HRN _ (Below.refl _ _).drew).mono ?_; rintro e W4 ⟨v4, rfl, o4, f4⟩)
      have f5 : Below W.heap.size W W4 := (Below.refl _ _).drew.trans f4
      have F5 := hide f5
      have O4 := hide o4
      clear f4 o4 HRN
      refine hK.out _ _ f5 ?_
      clear hK f5
      repeat (first
        | (refine Txt.reads (v := ?_) (by rfl) (by rfl) (by rfl) ?_ ?_; rotate_left; (focus ((intro W' hSW; obtain ⟨c0, c1⟩ := unhide HC W' hSW; go_simp) <;> with_reducible rfl)); simp only [Act.put, List.setIfInBounds_toArray, List.set_cons_zero, List.set_cons_succ]))
      refine Txt.done (thenLast_n (by rfl) (by rfl) (by rfl) (fun KK hKK => ?_))
      go_simp
      refine hKK.out _ _ ?_
      obtain ⟨hk9, hb9, ho9, hu9⟩ := unhide HEND W4 (unhide F5)
      have HK9 := hide hk9
      have HB9 := hide hb9
      have HO9 := hide ho9
      have HU9 := hide (hu9 _ _ (unhide O4))
      clear hKK HC hk9 hb9 ho9 hu9 HEND O4
      gi_wp2
      refine ⟨by simp, .inl ⟨_, _, rfl, run_takeDeferred (unhide HK9), ?_⟩⟩
      exact ⟨_, results_tmp3 rfl _ _ _, unhide HB9, _, _, rfl, dn, unhide HO9, by rw [unhide HSM, unhide HQE]; rfl, by rw [unhide HQE] at HU9; exact unhide HU9⟩
    case stop =>
      rintro D c pre W _ _ h _
      exact h.elim
end Go.Proofs.Ytnnanlniffjnkaa
