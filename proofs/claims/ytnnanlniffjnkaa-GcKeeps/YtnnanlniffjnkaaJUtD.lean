/- Layer 16: the walk of GcKeeps. -/
import Derived.Test.YtnnanlniffjnkaaJUrE
import Derived.Test.YtnnanlniffjnkaaJHqE
import Derived.Test.YtnnanlniffjnkaaJY3

namespace Go.Proofs.Ytnnanlniffjnkaa
open Go.RowKit
set_option linter.unusedVariables false
set_option maxRecDepth 100000

theorem getH_live {l : List Ob} {n : Nat} (hc : checkE l = 0) (h : liveN l n = true) : getH l (n : Int) = some ⟨tyOf l n, wordsOf l n⟩ := by
  have h1 := (liveN_le h).1
  obtain ⟨o, ho, hf, e1, e2⟩ := live_ob h
  have := getH_of (checkE_right.1 hc) ho hf
  rw [show ((n - 1 : Nat) : Int) + 1 = (n : Int) by omega] at this
  rw [this, e1, e2]
theorem getH_leads {l : List Ob} {v : Vl} (hk : v.kind = 4) {o : Ob} (h : getH l v.n = some o) : leadsN l v ≠ 0 ∧ v.n = (leadsN l v : Int) := by
  obtain ⟨hc, h1, h2, ho, hf⟩ := getH_inL h
  have hl : liveN l v.n.toNat = true := by
    unfold liveN
    rw [show v.n.toNat - 1 = (v.n - 1).toNat by omega, ho]
    simp [hf]
    omega
  have := leads_of (n := v.n.toNat) hk (by omega) hl
  omega
set_option maxHeartbeats 6400000 in
theorem keeps_walk16 (w : World) (a : Option Addr) (n c : Nat) (rs : List ObR) (h : HIn w ⟨a, n, c⟩ rs) (hfr : ∀ r ∈ rs, VFit r.ws) (b : Option Addr) (m d : Nat) (vs : List Vl) (hv : WsIn w ⟨b, m, d⟩ vs) :
    Calls Try.prog 5 #[.slice a n c, .slice b m d] w fun e w' => e = .returned (.bool true) ∧ Below w.heap.size w w' := by
  have HWK := hide (works16_any w)
  have HI := hide h
  have HV := hide hv
  have HFR := hide hfr
  have KB : Hid (∀ {W W2}, Below w.heap.size w W → Below W.heap.size W W2 → Below w.heap.size w W2) := fun f g => f.trans (g.mono f.size)
  clear h hv hfr
  go_enter Try.func5, Try.ntmps5
  go_wp2_with fail
  refine (unhide HWK).mono ?_
  rintro e w1 ⟨rfl, f1⟩
  have F1 := hide f1
  have HLG := hide (light16_any w1 ⟨a, n, c⟩ rs ((unhide HI).below f1))
  simp only [Sl.v] at HLG
  clear f1 HWK
  go_wp2_with fail
  refine (unhide HLG).mono ?_
  rintro e w' ⟨⟨lb, rfl⟩, rfl⟩
  cases lb with
  | false =>
    go_wp2
    go_ret
    exact ⟨rfl, unhide F1⟩
  | true =>
    by_cases hm : m ≤ 300
    case neg =>
      have hm1 : (300 : Int) < (m : Int) := by omega
      go_wp2
      go_ret
      exact ⟨rfl, unhide F1⟩
    have hm1 : ¬ (300 : Int) < (m : Int) := by omega
    have HRE := hide (Reach_any w' rs ((unhide HI).below (unhide F1)) _ vs ((unhide HV).below (unhide F1)))
    simp only [Sl.v] at HRE
    clear HLG
    go_wp2_with fail
    refine (unhide HRE).mono ?_
    rintro e w2 ⟨v2, rfl, o2, f2⟩
    obtain ⟨a2, c2, rfl, _⟩ := o2.form
    have F2 := hide (unhide KB (unhide F1) f2)
    have O2 := hide o2
    have HSW := hide (Sweep_in w2 _ _ rs ((unhide HI).below (unhide F2)) vs ((unhide HV).below (unhide F2)))
    simp only [Sl.v] at HSW
    clear f2 o2 F1 HRE
    go_wp2_with fail
    refine (unhide HSW).mono ?_
    rintro e w3 ⟨⟨s3, dn, rfl, h3, e3⟩, f3⟩
    have hl3 := h3.ls.1
    obtain ⟨sa3, sn3, sc3⟩ := s3
    have F3 := hide (unhide KB (unhide F2) f3)
    have O3 := hide (orw_on (unhide O2) f3)
    simp only [Sl.v] at hl3 ⊢
    clear f3 F2 O2 HSW
    by_cases hc : checkE (rs.map ObR.o) = 0
    case neg =>
      obtain rfl : sn3 = 0 := by
        have := congrArg List.length e3
        unfold sweepV at this
        rw [if_neg hc, List.length_map] at this
        simp at this
        rw [this] at hl3
        simpa using hl3.symm
      have hg : goneV (rs.map ObR.o) vs = 0 := by unfold goneV; rw [if_neg hc]
      have hq : reachV (rs.map ObR.o) vs = [] := by unfold reachV; rw [if_neg hc]
      rw [hg, hq]
      generalize checkE (rs.map ObR.o) = ce at *
      have hqn : qi [] = [] := rfl
      rw [hqn]
      clear h3 e3 hl3 O3 hg hq
      simp only [List.length_nil]
      go_wp2
      go_ret
      exact ⟨rfl, unhide F3⟩
    have e4 : dn.map ObR.o = sweepL (rs.map ObR.o) vs := by
      rw [e3]
      unfold sweepV
      rw [if_pos hc]
    have hq : reachV (rs.map ObR.o) vs = reachH (rs.map ObR.o) vs := by unfold reachV; rw [if_pos hc]
    have hg : goneV (rs.map ObR.o) vs = goneN (rs.map ObR.o) vs := by unfold goneV; rw [if_pos hc]
    rw [hq] at O3
    rw [hq, hg, hc, qi_len]
    have HC := hide hc
    have H3 := hide (And.intro h3 e4)
    obtain ⟨q, hqe⟩ : ∃ q, q = reachH (rs.map ObR.o) vs := ⟨_, rfl⟩
    have HQE := hide hqe
    rw [← hqe] at O3 ⊢
    have hql : q.length ≤ 4096 := by
      have := (reach_in (rs.map ObR.o) vs).le
      rw [← hqe] at this
      have := (check_fit hc).1
      omega
    have hrl : rs.length ≤ 4096 := by have := (check_fit hc).1; rwa [List.length_map] at this
    clear h3 e3 e4 hl3 hq hg hc hqe
    go_wp2
    go_loopw [10] (fun i wr => ∃ k : Nat, k ≤ q.length ∧ i = .int .i64 k ∧ Below w3.heap.size w3 wr) (fun i _ => q.length - (intOf i).toNat)
    case atStart => exact ⟨0, by omega, rfl, Below.refl _ _⟩
    case round =>
      obtain ⟨k, hk, rfl, hR⟩ := hrel
      by_cases hlt : k < q.length
      · have hlt1 : (k : Int) < (q.length : Int) := by omega
        have hk0 : (0 : Int) ≤ (k : Int) := by omega
        obtain ⟨nn, hn⟩ : ∃ nn, q[k]? = some nn := ⟨_, List.getElem?_eq_getElem hlt⟩
        have hnq : nn ∈ reachH (rs.map ObR.o) vs := by rw [← unhide HQE]; exact List.mem_of_getElem? hn
        have hnl := (reach_in (rs.map ObR.o) vs).2 nn hnq
        have hnn := (liveN_le hnl).2.1
        rw [List.length_map] at hnn
        have hfn : fitI (nn : Int) := by unfold fitI; omega
        have hgl := getH_live (unhide HC) hnl
        have hgm : getH (dn.map ObR.o) (nn : Int) = some ⟨tyOf (rs.map ObR.o) nn, wordsOf (rs.map ObR.o) nn⟩ := by
          rw [(unhide H3).2]
          have := getH_live (sweep_right (unhide HC)) (n := nn) (by rw [sweep_live]; exact decide_eq_true hnq)
          rw [this, (sweep_same hnq).1, (sweep_same hnq).2]
        have HWD : Hid (∀ v ∈ wordsOf (rs.map ObR.o) nn, v.kind = 4 → leadsN (rs.map ObR.o) v ≠ 0 → leadsN (rs.map ObR.o) v ∈ q) := fun v hv _ h0 => by rw [unhide HQE]; exact reach_closed hnq hv h0
        have HWF := hide (words_fit (unhide HFR) nn)
        obtain ⟨b5, o5, ea, hq5⟩ := Ls.row (Orw.ls rkI15 (unhide O3)) (w' := w3) (by rw [qi_len]; omega)
        subst ea
        have cq : ∀ W, Below w3.heap.size w3 W → W.cell? ⟨b5, o5 + k, none⟩ = some (.int .i64 (nn : Int)) := fun W f => by
          have hqk : (qi q)[k]? = some (nn : Int) := by simp [qi, hn]
          simpa using (hq5 f k _ hqk).zero
        have HCQ := hide cq
        have c0 := cq wr hR
        have HR := hide hR
        have HG1 := hide (rget_any wr _ dn ((unhide H3).1.below hR) (nn : Int) hfn)
        have HGM := hide hgm
        have HGL := hide hgl
        have HFN := hide hfn
        have KB3 : Hid (∀ {W W2}, Below w3.heap.size w3 W → Below W.heap.size W W2 → Below w3.heap.size w3 W2) := fun f g => f.trans (g.mono f.size)
        obtain ⟨ty, hty⟩ : ∃ ty, ty = tyOf (rs.map ObR.o) nn := ⟨_, rfl⟩
        obtain ⟨ws, hws⟩ : ∃ ws, ws = wordsOf (rs.map ObR.o) nn := ⟨_, rfl⟩
        rw [← hty, ← hws] at HGM HGL
        rw [← hws] at HWD HWF
        simp only [Sl.v] at HG1
        clear cq hq5 hn hnq hnl hnn hfn hgl hgm hR hty hws
        go_wp2_with fail
        refine (unhide HG1).mono ?_
        rintro e w4 hp
        obtain ⟨f4, s4, x4, rfl⟩ := hp.ok (unhide HGM)
        obtain ⟨xa, xn, xc⟩ := s4
        simp only [Sl.v]
        have HX4 := hide x4
        have R4 := hide (unhide KB3 (unhide HR) f4)
        clear hp f4 x4 HG1 HR c0
        obtain ⟨w5, hw5⟩ : ∃ w5, w5 = w4.alloc (.cells #[.string ⟨ty.toArray⟩, .slice xa xn xc] 43) := ⟨_, rfl⟩
        have f5 : Below w4.heap.size w4 w5 := by rw [hw5]; exact (Below.refl _ _).alloc (Nat.le_refl _) _
        have r5 := unhide KB3 (unhide R4) f5
        have bx5 : w5.heap[w4.heap.size]? = some (.cells #[.string ⟨ty.toArray⟩, .slice xa xn xc] 43 (0, 0)) := by rw [hw5]; exact heap_alloc_last _ _
        have c5 := unhide HCQ w5 r5
        rw [hw5] at c5
        have HG2 := hide (rget_any w5 ⟨a, n, c⟩ rs ((unhide HI).below (unhide KB (unhide F3) r5)) (nn : Int) (unhide HFN))
        have HX5 := hide ((unhide HX4).below f5)
        have R5 := hide r5
        have BX5 := hide bx5
        simp only [Sl.v] at HG2
        clear f5 r5 bx5 HX4 R4
        go_wp2_with fail
        rw [← hw5]
        clear hw5 c5
        generalize w4.heap.size = bx at *
        refine (unhide HG2).mono ?_
        rintro e w6 hp
        obtain ⟨f6, s6, y6, rfl⟩ := hp.ok (unhide HGL)
        obtain ⟨ya, yn, yc⟩ := s6
        simp only [Sl.v]
        obtain ⟨w7, hw7⟩ : ∃ w7, w7 = w6.alloc (.cells #[.string ⟨ty.toArray⟩, .slice ya yn yc] 43) := ⟨_, rfl⟩
        obtain ⟨w8, hw8⟩ : ∃ w8, w8 = w7.alloc (.cells #[.string ⟨ty.toArray⟩, .slice xa xn xc] 43) := ⟨_, rfl⟩
        obtain ⟨w9, hw9⟩ : ∃ w9, w9 = w8.alloc (.cells #[.string ⟨ty.toArray⟩, .slice ya yn yc] 43) := ⟨_, rfl⟩
        have f7 : Below w6.heap.size w6 w7 := by rw [hw7]; exact (Below.refl _ _).alloc (Nat.le_refl _) _
        have f8 : Below w7.heap.size w7 w8 := by rw [hw8]; exact (Below.refl _ _).alloc (Nat.le_refl _) _
        have f9 : Below w8.heap.size w8 w9 := by rw [hw9]; exact (Below.refl _ _).alloc (Nat.le_refl _) _
        have f57 := f6.trans (f7.mono f6.size)
        have f58 := f57.trans (f8.mono f57.size)
        have f59 := f58.trans (f9.mono f58.size)
        have bx7 := (f57.block _ (lt_of_heap (unhide BX5))).trans (unhide BX5)
        have x70 := bx_cell bx7 0 _ rfl
        have x71 := bx_cell bx7 1 _ rfl
        have hs7 : w7.heap[w6.heap.size]? = some (.cells #[.string ⟨ty.toArray⟩, .slice ya yn yc] 43 (0, 0)) := by rw [hw7]; exact heap_alloc_last _ _
        have hs8 := (f8.block _ (lt_of_heap hs7)).trans hs7
        have y80 := bx_cell hs8 0 _ rfl
        have y81 := bx_cell hs8 1 _ rfl
        have hA : HIn w8 ⟨some ⟨w7.heap.size, 0, none⟩, 1, 1⟩ [⟨ty, ⟨xa, xn, xc⟩, ws⟩] := by rw [hw8]; exact hIn_one (s := ⟨xa, xn, xc⟩) ((unhide HX5).below f57)
        have hBB : HIn w9 ⟨some ⟨w8.heap.size, 0, none⟩, 1, 1⟩ [⟨ty, ⟨ya, yn, yc⟩, ws⟩] := by rw [hw9]; exact hIn_one (s := ⟨ya, yn, yc⟩) (y6.below (f7.trans (f8.mono f7.size)))
        have HSO := hide (SameObjects_same w9 _ _ _ _ (hA.below f9) hBB rfl)
        have R9 := hide (unhide KB3 (unhide R5) f59)
        have HX9 := hide ((unhide HX5).below f59)
        have BX9 := hide ((f59.block _ (lt_of_heap (unhide BX5))).trans (unhide BX5))
        simp only [Sl.v] at HSO
        rw [hw8, hw7] at y80 y81
        rw [hw7] at x70 x71
        have hs7s : w7.heap.size = w6.heap.size + 1 := by rw [hw7]; simp
        have hs8s : w8.heap.size = w6.heap.size + 1 + 1 := by rw [hw8]; simp [hs7s]
        rw [hs7s, hs8s] at HSO
        clear hp f6 f7 f8 f9 f57 f58 f59 y6 bx7 hs7 hs8 hA hBB HG2 HX5 R5 BX5 hs7s hs8s
        go_wp2_with fail
        rw [← hw7, ← hw8, ← hw9]
        clear hw7 hw8 hw9 x70 x71 y80 y81
        generalize w6.heap.size = by6 at *
        refine (unhide HSO).mono ?_
        rintro e w10 ⟨rfl, f10⟩
        have R10 := hide (unhide KB3 (unhide R9) f10)
        have HX10 := hide ((unhide HX9).below f10)
        have BX10 := hide ((f10.block _ (lt_of_heap (unhide BX9))).trans (unhide BX9))
        have hxl : ws.length = xn := (unhide HX9).ls.1
        have hxs := (unhide HX9).small
        simp only at hxs
        clear f10 HSO R9 HX9 BX9
        go_wp2
        go_loopw [15] (fun i W => ∃ j : Nat, j ≤ xn ∧ i = .int .i64 j ∧ Below w10.heap.size w10 W) (fun i _ => xn - (intOf i).toNat)
        case atStart => exact ⟨0, by omega, rfl, Below.refl _ _⟩
        case round =>
          obtain ⟨j, hj, rfl, hRj⟩ := hrel
          have bxr := (hRj.block _ (lt_of_heap (unhide BX10))).trans (unhide BX10)
          have xr1 := bx_cell bxr 1 _ rfl
          by_cases hjl : j < xn
          · have hjl1 : (j : Int) < (xn : Int) := by omega
            have hj0 : (0 : Int) ≤ (j : Int) := by omega
            obtain ⟨v, hv⟩ : ∃ v, ws[j]? = some v := ⟨_, List.getElem?_eq_getElem (by omega)⟩
            obtain ⟨b7, o7, ea, q7⟩ := memb_row (unhide HX10) hv
            simp only at ea
            subst ea
            have d0 := (q7 hRj).zero
            have d1 := (q7 hRj) 1 _ rfl
            have hvm := List.mem_of_getElem? hv
            have hvf := (unhide HWF) v hvm
            have hvw := (unhide HWD) v hvm
            obtain ⟨w11, hw11⟩ : ∃ w11, w11 = wr.alloc (.cells #[.int .i64 v.kind, .int .i64 v.n] 47) := ⟨_, rfl⟩
            have f11 : Below wr.heap.size wr w11 := by rw [hw11]; exact (Below.refl _ _).alloc (Nat.le_refl _) _
            have r3 := unhide KB3 (unhide R10) hRj
            have HG3 := hide (rget_any w11 ⟨a, n, c⟩ rs ((unhide HI).below (unhide KB (unhide F3) (unhide KB3 r3 f11))) v.n hvf)
            have HB11 : Hid (w11.heap[wr.heap.size]? = some (.cells #[.int .i64 v.kind, .int .i64 v.n] 47 (0, 0))) := by rw [hw11]; exact heap_alloc_last _ _
            have b110 := bx_cell (unhide HB11) 0 _ rfl
            have b111 := bx_cell (unhide HB11) 1 _ rfl
            rw [hw11] at b110 b111
            have FJ11 := hide (hRj.trans (f11.mono hRj.size))
            have HVW := hide hvw
            simp only [Sl.v] at HG3
            clear bxr hv q7 hvm hvf hvw hRj f11 r3
            obtain ⟨xk, xv⟩ := v
            simp only at d0 d1 b110 b111 HG3 HB11 hw11 HVW
            go_wp2_with fail
            rw [← hw11]
            clear hw11 d0 d1 b110 b111 xr1
            generalize wr.heap.size = bv at *
            refine (unhide HG3).mono ?_
            rintro e w12 hp
            obtain ⟨f12, s12, y12, rfl⟩ := hp.both
            obtain ⟨za, zn, zc⟩ := s12
            simp only [Sl.v]
            obtain ⟨g, hg⟩ : ∃ g, g = getH (rs.map ObR.o) xv := ⟨_, rfl⟩
            have HGE := hide hg
            rw [← hg]
            generalize (⟨((g.getD zeroO).ty.toArray)⟩ : ByteArray) = zt at *
            have HB12 := (f12.block _ (lt_of_heap (unhide HB11))).trans (unhide HB11)
            have hal := (Below.refl w12.heap.size w12).alloc (Nat.le_refl _) (.cells #[.string zt, .slice za zn zc] 43)
            have HB13 := (hal.block _ (lt_of_heap HB12)).trans HB12
            have b120 := bx_cell HB13 0 _ rfl
            have b121 := bx_cell HB13 1 _ rfl
            have hR12 := (unhide FJ11).trans ((f12.trans (hal.mono f12.size)).mono (unhide FJ11).size)
            have HR12 := hide hR12
            have R13 := hide (unhide KB3 (unhide R10) hR12)
            clear f12 y12 hp hg HB12 hal HB13 hR12 HG3 FJ11
            by_cases hk4 : xk = 4
            case neg =>
              have hk5 : (xk == 4) = false := by simpa using hk4
              clear HVW
              go_wp2
              go_roundw
              case rel => exact ⟨j + 1, by omega, by go_num, unhide HR12⟩
              case measure => simp [intOf]; omega
            subst hk4
            cases g with
            | none =>
              clear HVW
              have he : errO (none : Option Ob) = 150 := rfl
              rw [he]
              go_wp2
              go_roundw
              case rel => exact ⟨j + 1, by omega, by go_num, unhide HR12⟩
              case measure => simp [intOf]; omega
            | some o =>
              obtain ⟨h0, hxe⟩ := getH_leads (v := ⟨4, xv⟩) rfl (unhide HGE).symm
              have hin := (unhide HVW) rfl h0
              have hme : decide (xv ∈ qi q) = true := by
                simp only at hxe
                rw [hxe]
                exact decide_eq_true (mem_qi.2 hin)
              obtain ⟨w13, hw13⟩ : ∃ w13, w13 = w12.alloc (.cells #[.string zt, .slice za zn zc] 43) := ⟨_, rfl⟩
              have HHI := hide (HasInt_any w13 (some ⟨b5, o5, none⟩) q.length c2 (qi q) (by rw [hw13]; have := Orw.ls rkI15 (orw_on (unhide O3) (unhide R13)); rwa [qi_len] at this) (by omega) xv)
              rw [hme] at HHI
              rw [← hw13] at HR12
              have he : errO (some o) = 0 := rfl
              rw [he]
              clear HVW h0 hxe hin hme
              go_wp2_with (first | (rw [← hw13]) | fail)
              refine (unhide HHI).mono ?_
              rintro e w14 ⟨rfl, rfl⟩
              clear hw13 b120 b121
              go_wp2
              go_roundw
              case rel => exact ⟨j + 1, by omega, by go_num, unhide HR12⟩
              case measure => simp [intOf]; omega
          · obtain rfl : j = xn := by omega
            have hjl1 : ¬ (j : Int) < (j : Int) := by omega
            have R11 := hide (unhide KB3 (unhide R10) hRj)
            clear bxr hRj
            go_wp2
            go_roundw
            case rel => exact ⟨k + 1, by omega, by go_num, unhide R11⟩
            case measure => simp [intOf]; omega
      · obtain rfl : k = q.length := by omega
        have hlt1 : ¬ (q.length : Int) < (q.length : Int) := by omega
        have HRV : Hid (∀ W, Below w3.heap.size w3 W → Calls Try.prog 24 #[.slice sa3 sn3 sc3] W fun e w' => ∃ v, e = .returned v ∧ Orw i15 3 1 w' W.heap.size v (liveH (dn.map ObR.o)) ∧ Below W.heap.size W w') := fun W f => rlive_any W ⟨sa3, sn3, sc3⟩ dn ((unhide H3).1.below f) (by
          have h1 := congrArg List.length (unhide H3).2
          have h2 := (sweepL_small (rs.map ObR.o) vs).1
          rw [List.length_map] at h1 h2
          omega)
        have HRW := hide (unhide HRV wr hR)
        have HR := hide hR
        clear HRV hR
        go_wp2_with fail
        refine (unhide HRW).mono ?_
        rintro e w4 ⟨v4, rfl, o4, f4⟩
        obtain ⟨a4, c4, rfl, _⟩ := o4.form
        have KB3 : Hid (∀ {W W2}, Below w3.heap.size w3 W → Below W.heap.size W W2 → Below w3.heap.size w3 W2) := fun f g => f.trans (g.mono f.size)
        have R4 := unhide KB3 (unhide HR) f4
        have hl4 : (liveH (dn.map ObR.o)).length = q.length := by
          have := sweep_count (l := rs.map ObR.o) (roots := vs)
          rw [(unhide H3).2, unhide HQE]
          omega
        have HCH := hide (rcheck_any w4 ⟨sa3, sn3, sc3⟩ dn ((unhide H3).1.below R4))
        rw [(unhide H3).2, sweep_right (unhide HC)] at HCH
        have RR4 := hide R4
        rw [hl4]
        simp only [Sl.v] at HCH
        clear o4 f4 R4 hl4 HRW HR
        go_wp2_with fail
        refine (unhide HCH).mono ?_
        rintro e w5 ⟨rfl, f5⟩
        have R5 := unhide KB3 (unhide RR4) f5
        have HLV := hide (rlive_any w5 ⟨a, n, c⟩ rs ((unhide HI).below (unhide KB (unhide F3) R5)) (by omega))
        have RR5 := hide R5
        have hll := liveFrom_len (rs.map ObR.o) 0
        rw [List.length_map] at hll
        have HGN : Hid (goneN (rs.map ObR.o) vs = ((liveH (rs.map ObR.o)).length : Int) - (q.length : Int)) := by
          unfold Hid goneN
          rw [unhide HQE]
        have HLL : (liveH (rs.map ObR.o)).length ≤ 100000 := by
          show (liveFrom 0 _).length ≤ _
          omega
        simp only [Sl.v] at HLV
        rw [unhide HGN]
        generalize liveH (rs.map ObR.o) = LV at *
        clear f5 R5 hll HCH RR4
        go_wp2_with fail
        refine (unhide HLV).mono ?_
        rintro e w6 ⟨v6, rfl, o6, f6⟩
        obtain ⟨a6, c6, rfl, _⟩ := o6.form
        have F6 := hide (unhide KB (unhide F3) (unhide KB3 (unhide RR5) f6))
        have hw1 : IntKind.i64.wrap ((LV.length : Int) - (q.length : Int)) = (LV.length : Int) - (q.length : Int) := by rw [IntKind.wrap_i64]; omega
        clear o6 f6 HLV
        go_wp2
        go_ret
        exact ⟨rfl, unhide F6⟩
end Go.Proofs.Ytnnanlniffjnkaa
