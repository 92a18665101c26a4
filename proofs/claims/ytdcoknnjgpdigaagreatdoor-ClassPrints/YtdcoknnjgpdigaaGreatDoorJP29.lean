/- Joined: CkY CkZ ClU ClW. -/
import Derived.Test.YtdcoknnjgpdigaaGreatDoorJP12
import Derived.Test.YtdcoknnjgpdigaaGreatDoorJP21
import Derived.Test.YtdcoknnjgpdigaaGreatDoorJP20

/- The landed class: copied of methods. -/
namespace Go.Proofs.YtdcoknnjgpdigaaGreatDoor
open Go.RowKit
set_option linter.unusedVariables false
set_option maxRecDepth 100000

set_option maxHeartbeats 1000000 in
theorem copiedM_any (w : World) (s : Sl) (rs : List MdR) (h : LIn 8 128 mdc (MdIn w) w s rs) :
    Calls Tryz.prog 21 #[s.v, .func (.func 22) #[] #[]] w fun e w' => ∃ v rs', e = .returned v ∧ Orw mdc 49 8 w' w.heap.size v rs' ∧ rs'.map MdR.m = rs.map MdR.m ∧ (∀ r ∈ rs', MdOwn w' w.heap.size r) ∧ Below w.heap.size w w' := by
  obtain ⟨a, n, c⟩ := s
  have hln := h.ls.1
  have hl0 : n ≤ 140737488355328 := by have := h.small; simp only at this; omega
  have HC := hide (slCloneM_any w ⟨a, n, c⟩ rs h.ls h.nil h.small)
  have HE : Hid (∀ x ∈ rs, MdIn w x) := hide h.each
  clear h
  unfold Sl.v at *
  simp only at HC hln ⊢
  go_enter Tryz.func21, Tryz.ntmps21
  go_wp2_with fail
  refine (unhide HC).mono ?_
  rintro e w1 ⟨v1, rfl, o1, f1⟩
  have CI := Cop.start (m := MdR.m) (own := MdOwn) f1 o1
  obtain ⟨a1, c1, rfl, g1⟩ := o1.form
  have HCI := hide CI
  have HG := hide g1
  clear CI o1 f1 HC g1
  go_wp2
  go_loopw [11] (fun i wr => ∃ k : Nat, k ≤ n ∧ i = .int .i64 k ∧ Cop mdc 49 8 MdR.m MdOwn w (.slice a1 rs.length c1) rs k wr) (fun i _ => n - (intOf i).toNat)
  case atStart => exact ⟨0, by omega, rfl, unhide HCI⟩
  case round =>
    obtain ⟨k, hk, rfl, hT⟩ := hrel
    by_cases hlt : k < n
    · have hlt1 : (k : Int) < (n : Int) := by omega
      have hk0 : (0 : Int) ≤ (k : Int) := by omega
      obtain ⟨x, hx1⟩ : ∃ x, rs[k]? = some x := ⟨_, List.getElem?_eq_getElem (by omega)⟩
      obtain ⟨g, cur, rfl, hg, hh, q⟩ := hT.row rkM hx1
      have hbel : Below w.heap.size w wr := by obtain ⟨_, _, _, _, _, hb⟩ := hT; exact hb
      obtain ⟨⟨acc, name, type, ⟨st, lo, by_, hds, mps⟩⟩, ⟨ba, bn, bc⟩, ⟨ha, hn, hc⟩, ⟨ma, mn, mcc⟩, rr⟩ := x
      have d0 := q.zero
      have d1 := q 1 _ rfl
      have d2 := q 2 _ rfl
      have d3 := q 3 _ rfl
      have d4 := q 4 _ rfl
      have d5 := q 5 _ rfl
      have d6 := q 6 _ rfl
      have d7 := q 7 _ rfl
      simp only [Sl.v] at d0 d1 d2 d3 d4 d5 d6 d7
      have HP := hide (copyM_any (wr.alloc (.cells #[.int .i64 acc, .string ⟨name.toArray⟩, .string ⟨type.toArray⟩, .int .i64 st, .int .i64 lo, .slice ba bn bc, .slice ha hn hc, .slice ma mn mcc] 49)) _ (((unhide HE _ (List.mem_of_getElem? hx1)).below hbel).below ((Below.refl _ _).alloc (Nat.le_refl _) _)))
      have HT := hide hT
      have HH := hide hh
      have HX := hide hx1
      simp only [Sl.v] at HP
      clear q hT hh hx1 hbel hg
      go_wp2_with fail
      clear d0 d1 d2 d3 d4 d5 d6 d7
      refine (unhide HP).mono ?_
      rintro e w4 ⟨y, hym, rfl, own4, f4⟩
      have f4' : Below wr.heap.size wr w4 := ((Below.refl _ _).alloc (Nat.le_refl _) _).trans (f4.mono (by simp))
      have hh4 := (f4'.block g (lt_of_heap (unhide HH))).trans (unhide HH)
      obtain ⟨_, _, e9, _, _, q⟩ := (unhide HT).row rkM (unhide HX)
      injection e9 with e9
      injection e9 with e9
      subst e9
      have q4 : RowAt w4 g (k * 8) (mdc _) := fun j u hu => (f4'.cell (p := ⟨g, k * 8 + j, none⟩) (lt_of_heap (unhide HH))).trans (q j u hu)
      have d0 := q4.zero
      have z0 := bx_thaw hh4 (k * 8)
      have d1 := q4 1 _ rfl
      have z1 := bx_thaw hh4 (k * 8 + 1)
      have d2 := q4 2 _ rfl
      have z2 := bx_thaw hh4 (k * 8 + 2)
      have d3 := q4 3 _ rfl
      have z3 := bx_thaw hh4 (k * 8 + 3)
      have d4 := q4 4 _ rfl
      have z4 := bx_thaw hh4 (k * 8 + 4)
      have d5 := q4 5 _ rfl
      have z5 := bx_thaw hh4 (k * 8 + 5)
      have d6 := q4 6 _ rfl
      have z6 := bx_thaw hh4 (k * 8 + 6)
      have d7 := q4 7 _ rfl
      have z7 := bx_thaw hh4 (k * 8 + 7)
      simp only [Sl.v] at d0 d1 d2 d3 d4 d5 d6 d7
      have HPUT := hide ((unhide HT).put rkM mdOwn_keeps (fun _ _ _ _ h hb => h.base hb) (unhide HX) f4' (own4.base (by simp)) hym)
      obtain ⟨ym, ⟨ba2, bn2, bc2⟩, ⟨ha2, hn2, hc2⟩, ⟨ma2, mn2, mc2⟩, rr2⟩ := y
      simp only at hym
      subst hym
      clear q q4 hh4 f4 f4' own4 HP HT HH HX
      simp only [Sl.v, mdc] at HPUT
      go_wp2
      go_roundw
      case rel => exact ⟨k + 1, by omega, by go_num, unhide HPUT⟩
      case measure => simp [intOf]; omega
    · obtain rfl : k = n := by omega
      have HT := hide hT
      clear hT
      go_wp2
      go_ret
      obtain ⟨dn, hd, hm, hown, hr, hb⟩ := unhide HT
      rw [List.take_of_length_le (by omega)] at hm
      rw [List.drop_eq_nil_of_le (by omega), List.append_nil, hln] at hr
      exact ⟨_, dn, rfl, hr, hm, hown, hb⟩

end Go.Proofs.YtdcoknnjgpdigaaGreatDoor

/- The landed class: Copy. -/
namespace Go.Proofs.YtdcoknnjgpdigaaGreatDoor
open Go.RowKit
set_option linter.unusedVariables false
set_option maxRecDepth 100000

/-- A class whose lists are rows of one's own. -/
structure ClOwn (w : World) (base : Nat) (r : ClR) : Prop where
  pool : Orw ec 55 5 w base r.pool.v r.c.pool
  fields : Orw fdc 58 3 w base r.fields.v r.c.fields
  methods : Orw mdc 49 8 w base r.methods.v r.mr
  each : ∀ x ∈ r.mr, MdOwn w base x
  same : r.c.methods = r.mr.map MdR.m
theorem ClOwn.keepAll {w w' : World} {base : Nat} {r : ClR} (h : ClOwn w base r) (f : ∀ k X t, base ≤ k → w.heap[k]? = some (.cells X t) → w'.heap[k]? = w.heap[k]?) : ClOwn w' base r :=
  ⟨h.pool.keep fun k X hk hX => f k X _ hk hX, h.fields.keep fun k X hk hX => f k X _ hk hX, h.methods.keep fun k X hk hX => f k X _ hk hX, fun x hx => (h.each x hx).keepAll fun k X t hk _ hX => f k X t hk hX, h.same⟩
theorem ClOwn.base {w : World} {base base' : Nat} {r : ClR} (h : ClOwn w base r) (hb : base' ≤ base) : ClOwn w base' r := ⟨h.pool.base hb, h.fields.base hb, h.methods.base hb, fun x hx => (h.each x hx).base hb, h.same⟩
theorem Orw.lin {α : Type} {cs : α → List Value} {e t : TypeId} {sz by_ : Nat} {z : Value} (R : Rk cs e t sz by_ z) {ok : α → Prop} {w : World} {base : Nat} {s : Sl} {l : List α} (h : Orw cs e sz w base s.v l) (hs : l.length * by_ ≤ 140737488351232) (he : ∀ x ∈ l, ok x) : LIn sz by_ cs ok w s l := by
  obtain ⟨a, n, c⟩ := s
  obtain ⟨a', c', e1, h1, h2, h3⟩ := h.form
  injection e1 with ea en ec
  subst ea en ec
  exact ⟨Orw.ls R h, h2, h3, h1, hs, he⟩
theorem MpOwn.mpIn {w W : World} {base : Nat} {r r' : MpR} (h : MpIn w r) (e : r'.m = r.m) (o : MpOwn W base r') : MpIn W r' := by
  have ll := h.loc.ls.1
  have ls := h.stk.ls.1
  refine ⟨by rw [e]; exact h.fit, o.loc.lin rkT (by rw [e, ll]; exact h.loc.small) (by rw [e]; exact h.loc.each), o.stk.lin rkT (by rw [e, ls]; exact h.stk.small) (by rw [e]; exact h.stk.each)⟩
theorem map_find {α β : Type} {m : α → β} {l l' : List α} (h : l'.map m = l.map m) {x : α} (hx : x ∈ l') : ∃ y ∈ l, m x = m y := by
  have : m x ∈ l.map m := by rw [← h]; exact List.mem_map_of_mem hx
  obtain ⟨y, hy, e⟩ := List.mem_map.1 this
  exact ⟨y, hy, e.symm⟩
theorem orw_arg {w : World} {base : Nat} {s : Sl} {l : List UInt8} (h : Orw byc 5 1 w base s.v l) : Arg w s.a s.n s.c l ∧ l.length = s.n := by
  obtain ⟨a, n, c⟩ := s
  have h0 := h
  obtain ⟨a', c', e1, h1, h2, h3⟩ := h.form
  injection e1 with ea en ec
  subst ea en ec
  unfold Orw at h0
  rw [byc_bv] at h0
  exact ⟨arg_of_own rfl h0, rfl⟩
theorem MdOwn.mdIn {w W : World} {base : Nat} {r r' : MdR} (h : MdIn w r) (e : r'.m = r.m) (o : MdOwn W base r') : MdIn W r' := by
  have hb := h.bs.bs.1
  have hl := h.hs.ls.1
  have hm := h.maps.ls.1
  have hsm : r'.mr.map MpR.m = r.mr.map MpR.m := by rw [← o.same, ← h.same, e]
  have hln : r'.mr.length = r.mr.length := by simpa using congrArg List.length hsm
  obtain ⟨q1, q2⟩ := orw_arg o.bs
  refine ⟨by rw [e]; exact h.acc, by rw [e]; exact h.name, by rw [e]; exact h.type, by rw [e]; exact h.stack, by rw [e]; exact h.locals, q1, ?_, o.hs.lin rkH (by rw [e, hl]; exact h.hs.small) (by rw [e]; exact h.hs.each), o.maps.lin rkP (by rw [hln, hm]; exact h.maps.small) (fun x hx => ?_), o.same⟩
  · rw [← q2, e, hb]
    exact h.few
  · obtain ⟨y, hy, e1⟩ := map_find hsm hx
    exact (o.each x hx).mpIn (h.maps.each y hy) e1
theorem ClOwn.cin {w W : World} {base : Nat} {r r' : ClR} (h : CIn w r) (e : r'.c = r.c) (o : ClOwn W base r') : CIn W r' := by
  have hp := h.pool.arg.es.1
  have hf := h.fields.ls.1
  have hm := h.methods.ls.1
  have hsm : r'.mr.map MdR.m = r.mr.map MdR.m := by rw [← o.same, ← h.same, e]
  have hln : r'.mr.length = r.mr.length := by simpa using congrArg List.length hsm
  refine ⟨?_, by rw [e]; exact h.name, by rw [e]; exact h.super, o.fields.lin rkF (by rw [e, hf]; exact h.fields.small) (by rw [e]; exact h.fields.each), o.methods.lin rkM (by rw [hln, hm]; exact h.methods.small) (fun x hx => ?_), o.same⟩
  · obtain ⟨c', ⟨a, n, c⟩, fs, ms, mr⟩ := r'
    simp only at e
    subst e
    have o1 : Orw ec 55 5 W base (.slice a n c) r.c.pool := o.pool
    clear hsm hln o
    obtain ⟨a', c', e1, h1, h2, h3⟩ := o1.form
    injection e1 with ea en ec
    subst ea en ec
    exact EIn.own o1 (by rw [hp]; exact h.pool.small) h.pool.fit
  · obtain ⟨y, hy, e1⟩ := map_find hsm hx
    exact (o.each x hx).mdIn (h.methods.each y hy) e1
theorem sizeClass8 : (Tryz.prog.info? 26).map (·.size) = some 5 := by kernel_rfl

set_option maxHeartbeats 800000 in
theorem cCopy_any (w : World) (r : ClR) (h : CIn w r) :
    Calls Tryz.prog 8 #[r.v] w fun e w' => ∃ r' : ClR, r'.c = r.c ∧ e = .returned r'.v ∧ ClOwn w' w.heap.size r' ∧ Below w.heap.size w w' := by
  obtain ⟨⟨pl, name, sup, fds, mds⟩, ⟨pa, pn, pc⟩, ⟨fa, fn, fc⟩, ⟨ma, mn, mc⟩, rr⟩ := r
  have hpl := h.pool
  have hfd := h.fields
  have hmd := h.methods
  have hsame := h.same
  simp only at hpl hfd hmd hsame
  subst hsame
  obtain ⟨w0, e0⟩ : ∃ w0, (w.alloc (.cells #[.slice pa pn pc, .string ⟨name.toArray⟩, .string ⟨sup.toArray⟩, .slice fa fn fc, .slice ma mn mc] 26)).alloc (.cells #[.slice none 0 0, .string ⟨#[]⟩, .string ⟨#[]⟩, .slice none 0 0, .slice none 0 0] 26) = w0 := ⟨_, rfl⟩
  have B0 : Bx2 w 26 #[.slice pa pn pc, .string ⟨name.toArray⟩, .string ⟨sup.toArray⟩, .slice fa fn fc, .slice ma mn mc] _ w0 := e0 ▸ Bx2.start _ _ _ _
  unfold ClR.v Sl.v
  simp only
  generalize es1 : (⟨name.toArray⟩ : ByteArray) = s1 at *
  generalize es2 : (⟨sup.toArray⟩ : ByteArray) = s2 at *
  have HC1 := hide (slCloneE_any w0 ⟨pa, pn, pc⟩ pl ((ls_of_es hpl.arg.es).below B0.bel) hpl.arg.nil hpl.small)
  have HBX := hide B0
  have HF := hide hfd
  have HM := hide hmd
  have k0 := bx_cell B0.x 0 _ rfl
  simp at k0
  unfold Sl.v at HC1
  simp only at HC1
  clear h hpl hfd hmd B0
  go_enter Tryz.func8, Tryz.ntmps8
  go_wp2_with fail
  clear k0
  refine (unhide HC1).mono ?_
  rintro e w1 ⟨v1, rfl, o1, f1⟩
  obtain ⟨a1, c1, rfl, _⟩ := o1.form
  have B1 := (unhide HBX).on f1
  have O1 := o1.base (unhide HBX).size
  have k0 := bx_cell B1.x 0 _ rfl
  have k3 := bx_cell B1.x 3 _ rfl
  have z0 := bx_thaw B1.x 0
  have HB1 := hide B1
  have HO1 := hide O1
  simp at k0 k3
  clear o1 f1 HC1 HBX e0 w0 B1 O1
  go_wp2_with fail
  have B2 := (unhide HB1).set 0 (.slice a1 pl.length c1)
  have O2 : Orw ec 55 5 (w1.setCell ⟨w.heap.size, 0, none⟩ (.slice a1 pl.length c1)) (w.heap.size + 2) (.slice a1 pl.length c1) pl := (unhide HO1).below fun j hj => bx2_far (W := w1) 0 _ j ((unhide HO1).lt j hj).1
  clear k0 k3 z0 HB1 HO1
  generalize w1.setCell ⟨w.heap.size, 0, none⟩ (.slice a1 pl.length c1) = w2 at *
  simp only [List.setIfInBounds_toArray, List.set_cons_zero] at B2
  have hf := unhide HF
  refine Calls.mono (slCloneF_any w2 ⟨fa, fn, fc⟩ fds (hf.ls.below B2.bel) hf.nil hf.small) ?_
  rintro e w3 ⟨v3, rfl, o3, f3⟩
  obtain ⟨a3, c3, rfl, _⟩ := o3.form
  have B3 := B2.on f3
  have O3 : Orw ec 55 5 w3 (w.heap.size + 2) (.slice a1 pl.length c1) pl ∧ Orw fdc 58 3 w3 (w.heap.size + 2) (.slice a3 fds.length c3) fds := ⟨O2.below fun j hj => f3.block j (O2.lt j hj).2, o3.base B2.size⟩
  have k3 := bx_cell B3.x 3 _ rfl
  have k4 := bx_cell B3.x 4 _ rfl
  have z3 := bx_thaw B3.x 3
  have HB3 := hide B3
  have HO3 := hide O3
  simp at k3 k4
  clear o3 f3 B2 O2 B3 O3 HF hf
  go_wp2_with fail
  have B4 := (unhide HB3).set 3 (.slice a3 fds.length c3)
  have O4 : Orw ec 55 5 (w3.setCell ⟨w.heap.size, 3, none⟩ (.slice a3 fds.length c3)) (w.heap.size + 2) (.slice a1 pl.length c1) pl ∧ Orw fdc 58 3 (w3.setCell ⟨w.heap.size, 3, none⟩ (.slice a3 fds.length c3)) (w.heap.size + 2) (.slice a3 fds.length c3) fds := ⟨(unhide HO3).1.below fun j hj => bx2_far (W := w3) 3 _ j ((unhide HO3).1.lt j hj).1, (unhide HO3).2.below fun j hj => bx2_far (W := w3) 3 _ j ((unhide HO3).2.lt j hj).1⟩
  clear k3 k4 z3 HB3 HO3
  generalize w3.setCell ⟨w.heap.size, 3, none⟩ (.slice a3 fds.length c3) = w4 at *
  simp only [List.setIfInBounds_toArray, List.set_cons_succ, List.set_cons_zero] at B4
  have hm := unhide HM
  refine Calls.mono (copiedM_any w4 ⟨ma, mn, mc⟩ rr (hm.mono B4.bel fun _ h => h.below B4.bel)) ?_
  rintro e w5 ⟨v5, rs', rfl, o5, hsm, own5, f5⟩
  obtain ⟨a5, c5, rfl, _⟩ := o5.form
  have B5 := B4.on f5
  have O5 : ClOwn w5 (w.heap.size + 2) ⟨⟨pl, name, sup, fds, rr.map MdR.m⟩, ⟨a1, pl.length, c1⟩, ⟨a3, fds.length, c3⟩, ⟨a5, rs'.length, c5⟩, rs'⟩ := ⟨O4.1.below fun j hj => f5.block j (O4.1.lt j hj).2, O4.2.below fun j hj => f5.block j (O4.2.lt j hj).2, o5.base B4.size, fun x hx => (own5 x hx).base B4.size, hsm.symm⟩
  have z4 := bx_thaw B5.x 4
  have k0 := bx_cell B5.x 0 _ rfl
  have k1 := bx_cell B5.x 1 _ rfl
  have k2 := bx_cell B5.x 2 _ rfl
  have k3 := bx_cell B5.x 3 _ rfl
  have k4 := bx_cell B5.x 4 _ rfl
  have j0 := bx_cell B5.y 0 _ rfl
  have j1 := bx_cell B5.y 1 _ rfl
  have j2 := bx_cell B5.y 2 _ rfl
  have j3 := bx_cell B5.y 3 _ rfl
  have j4 := bx_cell B5.y 4 _ rfl
  have y0 := bx_thaw B5.y 0
  have y1 := bx_thaw B5.y 1
  have y2 := bx_thaw B5.y 2
  have y3 := bx_thaw B5.y 3
  have y4 := bx_thaw B5.y 4
  have HFIN := hide ((B5.set 4 (.slice a5 rs'.length c5)).ret [.slice a1 pl.length c1, .string s1, .string s2, .slice a3 fds.length c3, .slice a5 rs'.length c5] (by simp))
  have HO5 := hide O5
  have HFAR : Hid (∀ k, w.heap.size + 2 ≤ k → (w5.setCell ⟨w.heap.size, 4, none⟩ (.slice a5 rs'.length c5)).heap[k]? = w5.heap[k]?) := fun k hk => bx2_far (W := w5) 4 _ k hk
  simp at k0 k1 k2 k3 k4 j0 j1 j2 j3 j4
  clear o5 f5 hsm own5 B4 O4 B5 O5 HM hm
  go_wp2
  obtain ⟨r6, f6, k6'⟩ := unhide HFIN
  refine bodyPost_ret (v := .agg #[.slice a1 pl.length c1, .string s1, .string s2, .slice a3 fds.length c3, .slice a5 rs'.length c5]) ?_ rfl ⟨⟨⟨pl, name, sup, fds, rr.map MdR.m⟩, ⟨a1, pl.length, c1⟩, ⟨a3, fds.length, c3⟩, ⟨a5, rs'.length, c5⟩, rs'⟩, rfl, ?_, ?_, f6⟩
  · exact results_cell_row Tryz.results8 _ _ (w.heap.size + 1) 26 _ (0, 0) _ rfl r6 Tryz.underlying26 rfl sizeClass8
  · rw [← es1, ← es2]
  · exact ((unhide HO5).keepAll fun k X t hk _ => (k6' k hk).trans (unhide HFAR k hk)).base (by omega)
end Go.Proofs.YtdcoknnjgpdigaaGreatDoor

/- A copied class that is written over: what else lies in memory stays. -/
namespace Go.Proofs.YtdcoknnjgpdigaaGreatDoor
open Go.RowKit
set_option linter.unusedVariables false
set_option maxRecDepth 100000

/-- From w3 on only blocks from S1 to below S2 were written; what is told of them stays: their type, their size, maps as they were, methods but for their names. -/
structure Mut (S1 S2 : Nat) (w3 W : World) : Prop where
  low : Below S1 w3 W
  high : ∀ k, S2 ≤ k → k < w3.heap.size → W.heap[k]? = w3.heap[k]?
  mid : ∀ k X t, S1 ≤ k → k < S2 → w3.heap[k]? = some (.cells X t) → ∃ X', W.heap[k]? = some (.cells X' t) ∧ X'.size = X.size ∧ (t = 52 → X' = X) ∧ (t = 49 → ∀ j, j % 8 ≠ 1 → X'[j]? = X[j]?)
theorem Mut.refl (S1 S2 : Nat) (w : World) : Mut S1 S2 w w := ⟨Below.refl _ _, fun _ _ _ => rfl, fun k X t _ _ h => ⟨X, h, rfl, fun _ => rfl, fun _ _ _ => rfl⟩⟩
theorem Mut.map {S1 S2 : Nat} {w3 W : World} (h : Mut S1 S2 w3 W) {g : Nat} {X : Array Value} (h1 : S1 ≤ g) (h2 : g < S2) (h3 : w3.heap[g]? = some (.cells X 52)) (o : Nat) : W.cell? ⟨g, o, none⟩ = w3.cell? ⟨g, o, none⟩ := by
  obtain ⟨X', q1, q2, q3, _⟩ := h.mid g X _ h1 h2 h3
  rw [q3 rfl] at q1
  rw [cell_of_row _ _ _ _ _ _ q1, cell_of_row _ _ _ _ _ _ h3]
/-- A row of the copied class. -/
structure RowD (S1 S2 : Nat) (w3 : World) (e : TypeId) (sz : Nat) (a : Option Addr) (n : Nat) (g : Nat) (cur : Array Value) : Prop where
  at_ : a = some ⟨g, 0, none⟩
  lo : S1 ≤ g
  hi : g < S2
  blk : w3.heap[g]? = some (.cells cur e)
  room : n * sz ≤ cur.size
/-- Two copies of a class, each in its place. -/
structure Cpd (w0 : World) (c : Cl) (p3 p4 S1 S2 : Nat) (w1 : World) (d x : ClR) (w3 : World) : Prop where
  dc : d.c = c
  xc : x.c = c
  bel : Below w0.heap.size w0 w3
  s1 : w0.heap.size ≤ S1
  s12 : S1 ≤ S2
  s2 : S2 ≤ w3.heap.size
  od : ClOwn w1 S1 d
  sz : w1.heap.size = S2
  same : ∀ k, S1 ≤ k → k < S2 → w3.heap[k]? = w1.heap[k]?
  ox : ClOwn w3 S2 x
  b3 : w3.heap[p3]? = some (.cells #[d.pool.v, .string ⟨c.name.toArray⟩, .string ⟨c.super.toArray⟩, d.fields.v, d.methods.v] 26)
  b4 : w3.heap[p4]? = some (.cells #[x.pool.v, .string ⟨c.name.toArray⟩, .string ⟨c.super.toArray⟩, x.fields.v, x.methods.v] 26)
  o3 : p3 < S1 ∨ S2 ≤ p3
  o4 : p4 < S1 ∨ S2 ≤ p4
end Go.Proofs.YtdcoknnjgpdigaaGreatDoor

/- What the walks of stage 8's laws ask of the program's class, call by call, where its table is as its text lays it; works8; the walk of ClassFinds. -/
namespace Go.Proofs.YtdcoknnjgpdigaaGreatDoor
open Go.RowKit
set_option linter.unusedVariables false
set_option maxRecDepth 100000

def CheckOk : Prop := ∀ (w : World) (r : ClR), Tab8 w → CIn w r → Calls Tryz.prog 12 #[r.v] w fun e w' => e = .returned (.int .i64 (errK r.c)) ∧ Below w.heap.size w w'
def PrintOk : Prop := ∀ (w : World) (r : ClR), Tab8 w → CIn w r → Calls Tryz.prog 9 #[r.v] w fun e w' => (∃ v, e = .returned (.tuple #[v, .int .i64 (errK r.c)]) ∧ w'.ownsRow w.heap.size 5 1 v (printK r.c).length (bv (printK r.c))) ∧ Below w.heap.size w w'
set_option maxHeartbeats 3200000 in
theorem works8_tab (P : PrintOk) (w : World) (hT : Tab8 w) :
    Calls Tryz.prog 14 #[] w fun e w' => e = .returned (.bool true) ∧ Below w.heap.size w w' := by
  have HS := hide (small8_any w)
  go_enter Tryz.func14, Tryz.ntmps14
  go_wp2_with fail
  refine (unhide HS).mono ?_
  rintro e w1 ⟨⟨r, rfl, hrc, hin⟩, f1⟩
  have HP := P w1 r (hT.below f1) hin
  rw [hrc, errEx, printEx] at HP
  have HP1 := hide HP
  have F1 := hide f1
  clear HP f1 hin hrc HS
  go_wp2_with fail
  refine (unhide HP1).mono ?_
  rintro e w2 ⟨⟨v, rfl, o2⟩, f2⟩
  have F2 := hide ((unhide F1).trans (f2.mono (unhide F1).size))
  obtain ⟨a2, c2, rfl, _⟩ := own_form o2
  have hcv : (convert 29 9 (.slice a2 bytesEx.length c2)).run Tryz.prog w2 = .ok (.string ⟨bytesEx.toArray⟩) w2 := conv_bytes w2 a2 bytesEx c2 (own_bytes o2)
  have hcv : (convert 29 9 (.slice a2 31 c2)).run Tryz.prog w2 = .ok (.string ⟨#[202, 254, 186, 190, 0, 0, 0, 52, 0, 3, 1, 0, 1, 97, 7, 0, 1, 0, 33, 0, 2, 0, 0, 0, 0, 0, 0, 0, 0, 0, 0]⟩) w2 := hcv
  have hL : bytesEx.length = 31 := rfl
  rw [hL]
  clear f2 F1 HP1 o2
  go_wp2
  go_ret
  exact ⟨rfl, unhide F2⟩


end Go.Proofs.YtdcoknnjgpdigaaGreatDoor
