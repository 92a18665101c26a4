/- Layer 16, the document's side: values with their new numbers. -/
import Derived.Test.YtnnanlniffjnkaaJUrD
import Derived.Test.YtnnanlniffjnkaaJUaI

namespace Go.Proofs.Ytnnanlniffjnkaa
open Go.RowKit
set_option linter.unusedVariables false
set_option maxRecDepth 100000

theorem posQ_take_hit {q : List Nat} (hd : q.Nodup) {k n : Nat} (h : q[k]? = some n) : posQ (q.take (k + 1)) n = k + 1 := by
  have hk := (List.getElem?_eq_some_iff.1 h).1
  have hn : n ∉ q.take k := fun hm => by
    obtain ⟨j, hj⟩ := List.mem_iff_getElem?.1 hm
    rw [List.getElem?_take] at hj
    split at hj
    next hjk =>
      have h1 := (List.getElem?_eq_some_iff.1 hj)
      have h2 := (List.getElem?_eq_some_iff.1 h)
      obtain ⟨h1a, h1b⟩ := h1
      obtain ⟨h2a, h2b⟩ := h2
      have := (List.pairwise_iff_getElem.1 hd) j k h1a h2a hjk
      exact this (h1b.trans h2b.symm)
    next => cases hj
  rw [List.take_add_one, h]
  have := posQ_new hn
  rw [List.length_take, Nat.min_eq_left (by omega)] at this
  simpa using this
theorem posQ_take_miss {q : List Nat} {k n m : Nat} (h : q[k]? = some m) (hn : n ≠ m) : posQ (q.take (k + 1)) n = posQ (q.take k) n := by
  rw [List.take_add_one, h]
  exact posQ_old hn
def Ri (w : World) (L : List Vl) (g n c i : Nat) (z : Nat) (W : World) : Prop := Orw vlc 47 2 W w.heap.size (.slice (some ⟨g, 0, none⟩) n c) (L.set i ⟨4, (z : Int)⟩) ∧ Below w.heap.size w W
theorem Ri.put {w W : World} {L : List Vl} {g n c i z : Nat} (h : Ri w L g n c i z W) (hi : i < n) (hl : i < L.length) (y : Nat) : Ri w L g n c i y (W.setCell ⟨g, i * 2 + 1, none⟩ (.int .i64 (y : Int))) := by
  have hx : (L.set i ⟨4, (z : Int)⟩)[i]? = some ⟨4, (z : Int)⟩ := by rw [List.getElem?_set, if_pos rfl, if_pos hl]
  have := h.1.setN hi hx (y : Int)
  rw [List.set_set] at this
  exact ⟨this, h.2.setCell (p := ⟨g, i * 2 + 1, none⟩) (h.1.lt g rfl).1 _⟩
set_option maxHeartbeats 2000000 in
theorem ranew_any (w : World) (s : Sl) (rs : List ObR) (h : HIn w s rs) (q : List Nat) (hq : InQ (rs.map ObR.o) q) (hql : q.length ≤ 100000) (ra : Option Addr) (rc : Nat) (hr : Ls 1 i15 w ra q.length (qi q)) (t : Sl) (vs : List Vl) (ht : WsIn w t vs) :
    Calls Try.prog 37 #[s.v, .slice ra q.length rc, t.v] w fun e w' => ∃ v, e = .returned v ∧ Orw vlc 47 2 w' w.heap.size v (vs.map (anewV (rs.map ObR.o) q)) ∧ Below w.heap.size w w' := by
  have HI := hide h
  have HR := hide hr
  have HQ := hide hq
  have hvl := ht.ls.1
  have hvs := ht.small
  obtain ⟨sa, sn, sc⟩ := s
  obtain ⟨ta, tn, tc⟩ := t
  simp only [Sl.v] at hvl hvs ⊢
  subst hvl
  have hown : Orw vlc 47 2 (w.alloc (.cells #[] 47)) w.heap.size (.slice (some ⟨w.heap.size, 0, none⟩) 0 0) [] := Orw.made _ _ _ w _ (Nat.le_refl _)
  have HO0 := hide hown
  have HB := hide (ht.ls.below ((Below.refl _ _).alloc (Nat.le_refl _) (.cells #[] 47)))
  have HNL := hide ht.nil
  have HS1 : Hid (([] : List Vl).length + vs.length ≤ 140737488355328) := by unfold Hid; simp; omega
  have HS2 : Hid ((([] : List Vl).length + vs.length) * 16 ≤ 140737488355328) := by unfold Hid; simp; omega
  clear h hr hq ht hown
  go_enter Try.func37, Try.ntmps37
  go_wp2_with (at_builtin; refine listR_append rkV rfl _ _ rfl w.heap.size _ [] rfl (unhide HO0) ta vs.length tc vs rfl (unhide HB) (unhide HNL) (unhide HS2) (unhide HS1) (by simp) ?_)
  intro v1 w1 o1 g1
  try rw [List.nil_append] at o1
  have hb1 : Below w.heap.size w w1 := grown_below ((Below.refl _ _).alloc (Nat.le_refl _) _) (unhide HO0) g1
  obtain ⟨a1, c1, rfl, _⟩ := o1.form
  have H0 : Hid (Rn w (rs.map ObR.o) q vs (.slice a1 vs.length c1) 0 w1) := ⟨by simpa using o1, hb1⟩
  clear o1 g1 hb1 HO0 HB HNL HS1 HS2
  go_wp2
  go_loopw [8] (fun i wr => ∃ k : Nat, k ≤ vs.length ∧ i = .int .i64 k ∧ Rn w (rs.map ObR.o) q vs (.slice a1 vs.length c1) k wr) (fun i _ => vs.length - (intOf i).toNat)
  case atStart => exact ⟨0, by omega, rfl, unhide H0⟩
  case round =>
    obtain ⟨k, hk, rfl, hO, hB⟩ := hrel
    by_cases hlt : k < vs.length
    · have hlt1 : (k : Int) < (vs.length : Int) := by omega
      have hk0 : (0 : Int) ≤ (k : Int) := by omega
      obtain ⟨x, hx⟩ : ∃ x, vs[k]? = some x := ⟨_, List.getElem?_eq_getElem (by omega)⟩
      obtain ⟨hm1, hm2⟩ := rn_mid (l := rs.map ObR.o) (q := q) hx
      obtain ⟨L, hL⟩ : ∃ L, L = (vs.take k).map (anewV (rs.map ObR.o) q) ++ vs.drop k := ⟨_, rfl⟩
      rw [← hL] at hm1 hm2 hO
      have hkL := (List.getElem?_eq_some_iff.1 hm1).1
      obtain ⟨g, cur, eg, hgB, hh, hz, qq⟩ := hO.blkR rkV.len (by omega)
      subst eg
      have c0 : wr.cell? ⟨g, k * 2, none⟩ = some (.int .i64 x.kind) := by simpa using qq k x hm1 0 _ rfl
      have cc1 : wr.cell? ⟨g, k * 2 + 1, none⟩ = some (.int .i64 x.n) := qq k x hm1 1 _ rfl
      by_cases hk4 : x.kind = 4
      case neg =>
        have he := anewV_else (l := rs.map ObR.o) (q := q) hk4
        have HO : Hid (Rn w (rs.map ObR.o) q vs (.slice (some ⟨g, 0, none⟩) vs.length c1) (k + 1) wr) := by
          refine ⟨?_, hB⟩
          rw [← hm2, he]
          rw [show L.set k x = L by
            obtain ⟨h1, h2⟩ := List.getElem?_eq_some_iff.1 hm1
            conv => lhs; rw [← h2]
            exact List.set_getElem_self ..]
          exact hO
        have hk5 : (x.kind == 4) = false := by simpa using hk4
        clear hO hB hm1 hm2 qq hh hz he hx hL
        obtain ⟨xk, xn⟩ := x
        simp only at hk4 hk5 c0 cc1 HO
        go_wp2
        go_roundw
        case rel => exact ⟨k + 1, by omega, by go_num, unhide HO⟩
        case measure => simp [intOf]; omega
      obtain ⟨xk, xn⟩ := x
      simp only at hk4
      subst hk4
      obtain ⟨n, hn⟩ : ∃ n, n = leadsN (rs.map ObR.o) ⟨4, xn⟩ := ⟨_, rfl⟩
      have he : anewV (rs.map ObR.o) q ⟨4, xn⟩ = ⟨4, (posQ q n : Int)⟩ := by rw [hn]; rfl
      rw [he] at hm2
      have HLD := hide (rleads_any wr ⟨sa, sn, sc⟩ rs ((unhide HI).below hB) ⟨4, xn⟩)
      rw [← hn] at HLD
      have HKEY : Hid (∀ W, Below wr.heap.size wr W → W.frozen? ⟨g, k * 2 + 1, none⟩ = false ∧ W.cell? ⟨g, k * 2 + 1, none⟩ = some (.int .i64 xn) ∧ Ri w L g vs.length c1 k 0 (W.setCell ⟨g, k * 2 + 1, none⟩ (.int .i64 0))) := fun W f => by
        have hl2 := (f.block g (lt_of_heap hh)).trans hh
        refine ⟨bx_thaw hl2 _, ?_, ?_⟩
        · rw [cell_of_row _ _ _ _ _ _ hl2, ← cell_of_row _ _ _ _ _ _ hh]
          exact cc1
        · have := (orw_on hO f).setN hlt hm1 0
          exact ⟨this, (hB.trans (f.mono hB.size)).setCell (p := ⟨g, k * 2 + 1, none⟩) hgB _⟩
      have HEND : Hid (∀ W, Ri w L g vs.length c1 k (posQ q n) W → Rn w (rs.map ObR.o) q vs (.slice (some ⟨g, 0, none⟩) vs.length c1) (k + 1) W) := fun W h => ⟨by rw [← hm2]; exact h.1, h.2⟩
      have hn0 : (n : Int) = 0 → posQ q n = 0 := fun e => posQ_zero.2 (by rw [show n = 0 by omega]; exact (unhide HQ).zero)
      have HN0 := hide hn0
      have HKL := hide hkL
      simp only [Sl.v] at HLD c0 cc1
      clear hO hB hm1 hm2 qq hh hz he hx hL hn hn0 hgB
      go_wp2_with fail
      refine (unhide HLD).mono ?_
      rintro e w2 ⟨rfl, f2⟩
      obtain ⟨z2, d2, r2⟩ := unhide HKEY w2 f2
      have HR2 := hide r2
      clear r2 HLD HKEY c0 cc1 f2
      go_wp2
      clear z2 d2
      go_loopw [10] (fun i W => ∃ j : Nat, j ≤ q.length ∧ i = .int .i64 j ∧ Ri w L g vs.length c1 k (posQ (q.take j) n) W) (fun i _ => q.length - (intOf i).toNat)
      case atStart => exact ⟨0, by omega, rfl, by rw [List.take_zero, posQ_nil]; exact unhide HR2⟩
      case round =>
        obtain ⟨j, hj, rfl, hT⟩ := hrel
        by_cases hjl : j < q.length
        · have hjl1 : (j : Int) < (q.length : Int) := by omega
          have hj0 : (0 : Int) ≤ (j : Int) := by omega
          by_cases hn0 : n = 0
          · have hz0 : posQ (q.take j) n = posQ q n := by
              have h0 : 0 ∉ q := (unhide HQ).zero
              subst hn0
              rw [posQ_zero.2 h0, posQ_zero.2 (fun c => h0 (List.mem_of_mem_take c))]
            rw [hz0] at hT
            have HF := hide (unhide HEND _ hT)
            subst hn0
            clear hT hz0
            go_wp2
            go_roundw
            case rel => exact ⟨k + 1, by omega, by go_num, unhide HF⟩
            case measure => simp [intOf]; omega
          · have hn1 : (0 : Int) < (n : Int) := by omega
            obtain ⟨m, hm⟩ : ∃ m, q[j]? = some m := ⟨_, List.getElem?_eq_getElem hjl⟩
            obtain ⟨b5, o5, ea, hq5⟩ := Ls.row (unhide HR) (w' := w) (by omega)
            subst ea
            have cq : wr.cell? ⟨b5, o5 + j, none⟩ = some (.int .i64 (m : Int)) := by
              have hqk : (qi q)[j]? = some (m : Int) := by simp [qi, hm]
              simpa using (hq5 hT.2 j _ hqk).zero
            obtain ⟨g', cur, eg, hgB, hh, hz, qq⟩ := hT.1.blkR rkV.len (by omega)
            injection eg with eg
            injection eg with eg
            subst eg
            have hx2 : (L.set k ⟨4, (posQ (q.take j) n : Int)⟩)[k]? = some ⟨4, (posQ (q.take j) n : Int)⟩ := by rw [List.getElem?_set, if_pos rfl, if_pos (unhide HKL)]
            have d2 := qq k _ hx2 1 _ rfl
            have z2 := hz (k * 2 + 1)
            by_cases he : m = n
            · subst he
              have hz1 := posQ_take_hit (unhide HQ).1 hm
              have HN := hide (hT.put hlt (unhide HKL) (j + 1))
              rw [← hz1] at HN
              have HZ := hide hz1
              have hw1 : IntKind.i64.wrap ((j : Int) + 1) = (j : Int) + 1 := by rw [IntKind.wrap_i64]; omega
              have hcast : ((posQ (q.take (j + 1)) m : Nat) : Int) = (j : Int) + 1 := by rw [hz1]; omega
              rw [hcast] at HN
              clear hT hq5 qq hh hz hx2 hm hz1 hcast
              go_wp2
              go_roundw
              case rel => exact ⟨j + 1, by omega, by go_num, unhide HN⟩
              case measure => simp [intOf]; omega
            · have hne : n ≠ m := fun e => he e.symm
              have hne1 : ((m : Int) == (n : Int)) = false := by simp; omega
              have hz1 := posQ_take_miss hm hne
              rw [← hz1] at hT
              have HN := hide hT
              clear hT hq5 qq hh hz hx2 hm hz1 d2 z2
              go_wp2
              go_roundw
              case rel => exact ⟨j + 1, by omega, by go_num, unhide HN⟩
              case measure => simp [intOf]; omega
        · obtain rfl : j = q.length := by omega
          rw [List.take_of_length_le (Nat.le_refl _)] at hT
          have HF := hide (unhide HEND _ hT)
          have hjl1 : ¬ (q.length : Int) < (q.length : Int) := by omega
          clear hT
          go_wp2
          go_roundw
          case rel => exact ⟨k + 1, by omega, by go_num, unhide HF⟩
          case measure => simp [intOf]; omega
    · obtain rfl : k = vs.length := by omega
      have HR2 := hide hO
      have HBB := hide hB
      clear hO hB
      have hlt1 : ¬ (vs.length : Int) < (vs.length : Int) := by omega
      go_wp2
      go_ret
      refine ⟨_, rfl, ?_, unhide HBB⟩
      have := unhide HR2
      simpa using this
end Go.Proofs.Ytnnanlniffjnkaa
