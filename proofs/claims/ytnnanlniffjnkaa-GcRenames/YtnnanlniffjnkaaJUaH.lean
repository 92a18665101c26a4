/- Layer 16, the landed gc: renamed. -/
import Derived.Test.YtnnanlniffjnkaaJUaF

namespace Go.Proofs.Ytnnanlniffjnkaa
open Go.RowKit Go.Maps Go.Shelf
set_option linter.unusedVariables false
set_option maxRecDepth 100000

/-- The number of a value of one's own is written over. -/
theorem Orw.setN {W : World} {B g n c k : Nat} {l : List Vl} (h : Orw vlc 47 2 W B (.slice (some ⟨g, 0, none⟩) n c) l) (hk : k < n) {x : Vl} (hx : l[k]? = some x) (y : Int) : Orw vlc 47 2 (W.setCell ⟨g, k * 2 + 1, none⟩ (.int .i64 y)) B (.slice (some ⟨g, 0, none⟩) n c) (l.set k ⟨x.kind, y⟩) := by
  obtain ⟨g', cur, eg, hB, hh, hz, qq⟩ := h.blkR rkV.len (by omega)
  injection eg with eg
  injection eg with eg
  subst eg
  have h1 := Orw.setR rkV.len h hk ⟨x.kind, y⟩
  refine h1.below (fun i hi => ?_)
  injection hi with hi
  subst hi
  have c0 := qq k x hx 0 _ rfl
  rw [cell_of_row _ _ _ _ _ _ hh] at c0
  have c0 : cur[k * 2]? = some (.int .i64 x.kind) := by simpa using c0
  have e1 : cur.setIfInBounds (k * 2) (.int .i64 x.kind) = cur := by
    apply Array.ext_getElem?
    intro i
    rw [Array.getElem?_setIfInBounds]
    split
    · rename_i e
      subst e
      rw [c0]
      rw [if_pos (Array.getElem?_eq_some_iff.1 c0).1]
    · rfl
  have s1 := heap_setCell_same W g (k * 2) _ _ (.int .i64 x.kind) hh
  rw [e1] at s1
  have s2 := heap_setCell_same _ g (k * 2 + 1) _ _ (.int .i64 y) s1
  have s3 := heap_setCell_same W g (k * 2 + 1) _ _ (.int .i64 y) hh
  exact s3.trans s2.symm
theorem posZ_leads {l : List Ob} {q : List Nat} (hq : InQ l q) {v : Vl} (hk : v.kind = 4) : posZ q v.n = (posQ q (leadsN l v) : Int) := by
  unfold posZ
  by_cases h0 : 0 ≤ v.n
  · rw [if_pos h0]
    by_cases hm : v.n.toNat ∈ q
    · have hl := hq.2 _ hm
      have := (liveN_le hl).1
      rw [leads_of (n := v.n.toNat) hk (by omega) hl]
    · by_cases hz : leadsN l v = 0
      · rw [hz, posQ_zero.2 hm, posQ_zero.2 hq.zero]
      · have := (leads_live hz).2.2
        rw [show leadsN l v = v.n.toNat by omega]
  · rw [if_neg h0]
    have hz : leadsN l v = 0 := by
      unfold leadsN
      rw [if_neg (fun c => by omega)]
    rw [hz, posQ_zero.2 hq.zero]
    rfl
theorem anewV_ref {l : List Ob} {q : List Nat} (hq : InQ l q) {v : Vl} (hk : v.kind = 4) : anewV l q v = ⟨v.kind, posZ q v.n⟩ := by
  unfold anewV
  rw [if_pos hk, posZ_leads hq hk, hk]
theorem anewV_else {l : List Ob} {q : List Nat} {v : Vl} (hk : ¬ v.kind = 4) : anewV l q v = v := if_neg hk
/-- Values whose numbers are ints. -/
def VFit (vs : List Vl) : Prop := ∀ v ∈ vs, fitI v.n
variable {B p m N : Nat} {s : Sl} {v : Value} {D : DataW Unit} {q : List Nat}
def Rn (w : World) (l : List Ob) (q : List Nat) (vs : List Vl) (v : Value) (k : Nat) (W : World) : Prop := Orw vlc 47 2 W w.heap.size v ((vs.take k).map (anewV l q) ++ vs.drop k) ∧ Below w.heap.size w W
theorem rn_mid {l : List Ob} {q : List Nat} {vs : List Vl} {k : Nat} {x : Vl} (hx : vs[k]? = some x) : ((vs.take k).map (anewV l q) ++ vs.drop k)[k]? = some x ∧ ((vs.take k).map (anewV l q) ++ vs.drop k).set k (anewV l q x) = (vs.take (k + 1)).map (anewV l q) ++ vs.drop (k + 1) := by
  have hk := (List.getElem?_eq_some_iff.1 hx).1
  have hl : ((vs.take k).map (anewV l q)).length = k := by rw [List.length_map, List.length_take]; omega
  have hd : vs.drop k = x :: vs.drop (k + 1) := by rw [List.drop_eq_getElem_cons hk, (List.getElem?_eq_some_iff.1 hx).2]
  constructor
  · rw [List.getElem?_append_right (by omega), hl, Nat.sub_self, hd]
    rfl
  · rw [List.set_append_right _ _ (by omega), hl, Nat.sub_self, hd, List.take_add_one, hx, List.map_append]
    simp
set_option maxHeartbeats 1600000 in
theorem renamed_any (w0 w : World) (l : List Ob) (h : Wq w0 B p m s l q w) (hlm : l.length ≤ 100000) (t : Sl) (vs : List Vl) (hv : WsIn w t vs) (hf : VFit vs) :
    Calls Try.prog 36 #[.pointer (some ⟨p, 0, none⟩), t.v] w fun e w' => ∃ v, e = .returned v ∧ Orw vlc 47 2 w' w.heap.size v (vs.map (anewV l q)) ∧ Below w.heap.size w w' := by
  have HC := hide (slCloneV_any w t vs hv.ls hv.nil (by have := hv.small; omega))
  obtain ⟨hin, hb, v0, N0, D0, hw⟩ := h
  have hvl := hv.ls.1
  have hvs := hv.small
  obtain ⟨ta, tn, tc⟩ := t
  simp only [Sl.v] at HC hvl hvs ⊢
  have HIN := hide hin
  have HW := hide hw
  have HF := hide hf
  have hql := hin.le
  clear hv hin hw hf hb
  go_enter Try.func36, Try.ntmps36
  go_wp2_with fail
  refine (unhide HC).mono ?_
  rintro e w1 ⟨v1, rfl, o1, f1⟩
  obtain ⟨a1, c1, rfl, _⟩ := o1.form
  have H0 : Hid (Rn w l q vs (.slice a1 vs.length c1) 0 w1) := ⟨by simpa using o1, f1⟩
  clear o1 f1 HC
  go_wp2
  go_loopw [12] (fun i wr => ∃ k : Nat, k ≤ vs.length ∧ i = .int .i64 k ∧ Rn w l q vs (.slice a1 vs.length c1) k wr) (fun i _ => vs.length - (intOf i).toNat)
  case atStart => exact ⟨0, by omega, rfl, unhide H0⟩
  case round =>
    obtain ⟨k, hk, rfl, hO, hB⟩ := hrel
    by_cases hlt : k < vs.length
    · have hlt1 : (k : Int) < (vs.length : Int) := by omega
      have hk0 : (0 : Int) ≤ (k : Int) := by omega
      obtain ⟨x, hx⟩ : ∃ x, vs[k]? = some x := ⟨_, List.getElem?_eq_getElem (by omega)⟩
      obtain ⟨hm1, hm2⟩ := rn_mid (l := l) (q := q) hx
      obtain ⟨g, cur, eg, hgB, hh, hz, qq⟩ := hO.blkR rkV.len (by omega)
      subst eg
      have c0 : wr.cell? ⟨g, k * 2, none⟩ = some (.int .i64 x.kind) := by simpa using qq k x hm1 0 _ rfl
      have cc1 : wr.cell? ⟨g, k * 2 + 1, none⟩ = some (.int .i64 x.n) := qq k x hm1 1 _ rfl
      have HX := hide hx
      have hfx := (unhide HF) x (List.mem_of_getElem? hx)
      have HFX := hide hfx
      clear hfx
      by_cases hk4 : x.kind = 4
      · have he := anewV_ref (unhide HIN) hk4
        have HO : Hid (∀ W, Below wr.heap.size wr W → Rn w l q vs (.slice (some ⟨g, 0, none⟩) vs.length c1) (k + 1) (W.setCell ⟨g, k * 2 + 1, none⟩ (.int .i64 (posZ q x.n)))) := fun W f => by
          have := (orw_on hO f).setN hlt hm1 (posZ q x.n)
          rw [← he, hm2] at this
          exact ⟨this, (hB.trans (f.mono hB.size)).setCell (p := ⟨g, k * 2 + 1, none⟩) hgB _⟩
        obtain ⟨w2, hw2⟩ : ∃ w2, w2 = wr.alloc (.cells #[.int .i64 x.kind, .int .i64 x.n] 47) := ⟨_, rfl⟩
        have g2 : Below wr.heap.size wr w2 := by rw [hw2]; exact (Below.refl _ _).alloc (Nat.le_refl _) _
        have HB2 : Hid (∀ W, Below w2.heap.size w2 W → W.cell? ⟨wr.heap.size, 0, none⟩ = some (.int .i64 x.kind) ∧ W.cell? ⟨wr.heap.size, 1, none⟩ = some (.int .i64 x.n) ∧ W.cell? ⟨p, 2, none⟩ = some (.map (some m)) ∧ (Instr.lookup 57 (.map (some m)) (.int .i64 x.n) false).run Try.prog W = .ok (.int .i64 (posZ q x.n)) W ∧ W.frozen? ⟨g, k * 2 + 1, none⟩ = false ∧ W.cell? ⟨g, k * 2 + 1, none⟩ = some (.int .i64 x.n)) := fun W f => by
          have hf2 := g2.trans (f.mono g2.size)
          have hl2 := (f.block g (by have := g2.size; have := lt_of_heap hh; omega)).trans ((g2.block g (lt_of_heap hh)).trans hh)
          rw [hw2] at f
          obtain ⟨b0, b1⟩ := stands2 (t := 47) wr (.int .i64 x.kind) (.int .i64 x.n) W f
          have hWW := (unhide HW).below (hB.trans (hf2.mono hB.size))
          refine ⟨b0, b1, hWW.c2, hWW.look (unhide HFX), bx_thaw hl2 _, ?_⟩
          rw [cell_of_row _ _ _ _ _ _ hl2, ← cell_of_row _ _ _ _ _ _ hh]
          exact cc1
        have G2 := hide g2
        clear g2 hO hB hm1 hm2 qq hh hz he hx
        obtain ⟨xk, xn⟩ := x
        simp only at hk4
        subst hk4
        simp only at c0 cc1 HB2 HO
        generalize posZ q xn = pz at *
        go_wp2_with (rw [← hw2])
        clear hw2
        refine wp_region_txtn (fun W => Below w2.heap.size w2 W) [] [0, 1, 2, 3, 4, 5, 6, 7, 8, 9, 10] 11 (by rfl) (by kernel_rfl) (by kernel_rfl) (Below.refl _ _).drew ?_
        simp only [List.take_succ_cons, List.take_zero]
        repeat (first
          | (refine Txt.reads (v := ?_) (by rfl) (by rfl) (by rfl) ?_ ?_; rotate_left; (focus ((intro W hSW; obtain ⟨b0, b1, b2, bl, bz, bc⟩ := unhide HB2 W hSW; go_simp) <;> with_reducible rfl)); simp only [Act.put, List.setIfInBounds_toArray, List.set_cons_zero, List.set_cons_succ]))
        refine Txt.done (thenLast_n (by rfl) (by rfl) (by rfl) (fun KK hKK => ?_))
        obtain ⟨b0, b1, b2, bl, bz, bc⟩ := unhide HB2 _ (Below.refl _ w2).drew
        have HN := hide (unhide HO w2 (unhide G2))
        clear HO HB2
        go_simp
        refine hKK.out _ _ ?_
        clear hKK
        go_wp2
        go_roundw
        case rel => exact ⟨k + 1, by omega, by go_num, orw_on (unhide HN).1 (Below.refl _ _).drew, (unhide HN).2.drew⟩
        case measure => simp [intOf]; omega
      · have he := anewV_else (l := l) (q := q) hk4
        have HO : Hid (Rn w l q vs (.slice (some ⟨g, 0, none⟩) vs.length c1) (k + 1) (wr.alloc (.cells #[.int .i64 x.kind, .int .i64 x.n] 47))) := by
          have f := (Below.refl wr.heap.size wr).alloc (Nat.le_refl _) (.cells #[.int .i64 x.kind, .int .i64 x.n] 47)
          refine ⟨?_, hB.trans (f.mono hB.size)⟩
          have := orw_on hO f
          rw [← hm2, he]
          rw [show ((vs.take k).map (anewV l q) ++ vs.drop k).set k x = (vs.take k).map (anewV l q) ++ vs.drop k by
            obtain ⟨h1, h2⟩ := List.getElem?_eq_some_iff.1 hm1
            conv => lhs; rw [← h2]
            exact List.set_getElem_self ..]
          exact this
        clear hO hB hm1 hm2 qq hh hz he hx
        obtain ⟨xk, xn⟩ := x
        simp only at hk4 c0 cc1 HO
        go_wp2
        go_roundw
        case rel => exact ⟨k + 1, by omega, by go_num, unhide HO⟩
        case measure => simp [intOf]; omega
    · obtain rfl : k = vs.length := by omega
      have HR := hide hO
      have HBB := hide hB
      clear hO hB
      have hlt1 : ¬ (vs.length : Int) < (vs.length : Int) := by omega
      go_wp2
      go_ret
      refine ⟨_, rfl, ?_, unhide HBB⟩
      have := unhide HR
      show Orw _ _ _ _ _ (.slice a1 tn c1) _
      rw [← hvl]
      simpa using this
end Go.Proofs.Ytnnanlniffjnkaa
