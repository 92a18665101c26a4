/- The walk of CodeFronts. -/
import Derived.Test.YtafipngdhgokeaaDoorJW

namespace Go.Proofs.YtafipngdhgokeaaDoor
open Go.RowKit
set_option linter.unusedVariables false
set_option maxRecDepth 100000

theorem targ_len9 (x : Ins) : (targP x).length ≤ x.cs.length + 1 := by
  unfold targP
  split
  · simp
  · split <;> simp
set_option maxHeartbeats 1000000 in
theorem cfronts_walk (w : World) (hT : Tab9 w) (hS : Tab9s w) (a : Option Addr) (n c : Nat) (bs : List UInt8) (hA : Arg w a n c bs) (cut : Int) :
    Calls Tryd.prog 7 #[.slice a n c, .int .i64 cut] w fun e w' => e = .returned (.bool true) ∧ Below w.heap.size w w' := by
  have hbl := hA.bs.1
  have HW := hide (works9_any w hT hS)
  have HT := hide (And.intro hT hS)
  have HA := hide hA
  clear hT hS hA
  go_enter Tryd.func7, Tryd.ntmps7
  go_wp2_with fail
  refine (unhide HW).mono ?_
  rintro e w1 ⟨rfl, f1⟩
  have F1 := hide f1
  clear HW f1
  by_cases hn : 600 < n
  · have hn1 : (600 : Int) < (n : Int) := by omega
    go_wp2
    go_ret
    exact ⟨rfl, unhide F1⟩
  have hn1 : ¬ (600 : Int) < (n : Int) := by omega
  have HD := hide (hDecode_any w1 a n c bs ((unhide HA).below (unhide F1)) ((unhide HT).1.below (unhide F1)))
  go_wp2_with fail
  refine (unhide HD).mono ?_
  rintro e w3 ⟨⟨sa, sn, sc⟩, qs, er, rfl, o3, e3, b3, hc3⟩
  have F3 := hide ((unhide F1).trans (b3.mono (unhide F1).size))
  have hsnc : sn ≤ sc := by obtain ⟨a', c', e', _, h, _⟩ := o3.form; injection e' with _ e2 e3; have e2 : sn = qs.length := e2; have e3 : sc = c' := e3; omega
  have hsn : qs.length = sn := by obtain ⟨a', c', e', _⟩ := o3.form; injection e' with _ e2 _; exact e2.symm
  rcases hc3 with ⟨he3, hl3, hk3⟩ | hno3
  case inr =>
    have hne3 : (er == 0) = false := by rcases hno3 with ⟨_, h, _⟩ | ⟨_, h, _⟩ <;> (rw [h]; rfl)
    have hq0 : qs = [] := by rcases hno3 with ⟨h, _⟩ | ⟨h, _⟩ <;> exact h
    subst hq0
    obtain rfl : sn = 0 := by simpa using hsn.symm
    clear o3 e3 b3 hno3 HD
    unfold Sl.v
    go_wp2
    go_ret
    exact ⟨rfl, unhide F3⟩
  subst he3
  have hq1 : 1 ≤ sn := by
    have := (codeP_some hk3).2.1
    rcases Nat.eq_zero_or_pos sn with h | h
    · rw [h] at hsn
      exact absurd (by rw [List.length_eq_zero_iff.1 hsn]; rfl) this
    · exact h
  have hsnn : sn ≤ n := by
    have h3 := insL_count (codeP_some hk3).1
    simp only [List.length_map] at h3
    omega
  have hsn6 : sn ≤ 600 := by omega
  have HAM := hide (Among_any w3 cut sn hq1 (by omega))
  have hK := among_lt cut sn hq1
  obtain ⟨K, hKe⟩ : ∃ K, K = among cut sn := ⟨_, rfl⟩
  rw [← hKe] at HAM hK
  have HL := hide (o3.ls rkN9)
  have HE := hide e3
  have HK3 := hide hk3
  clear hKe o3 e3 b3 hl3 hk3 HD
  unfold Sl.v
  go_wp2_with fail
  refine (unhide HAM).mono ?_
  rintro e w4 ⟨rfl, hw4⟩
  subst hw4
  clear HAM
  have hKc : (K : Int) < (sn : Int) := by omega
  obtain ⟨M, hM⟩ : ∃ M, M = cutP bs (qs.map InR.x) (K + 1) := ⟨_, rfl⟩
  have hMn : M ≤ n := by rw [hM, ← hbl]; exact cutP_le (unhide HK3) _
  have HM := hide hM
  clear hM
  go_upto_if 40 with fail
  go_cut [8] from 41 (fun vn wr => vn = .int .i64 (M : Int) ∧ wr = w4)
  case first =>
    by_cases hkl : K + 1 < sn
    · have hkl1 : (1 : Int) + (K : Int) < (sn : Int) := by omega
      obtain ⟨b1, o1, h1a, h1⟩ := Ls.row (unhide HL) (w' := w4) (by omega)
      subst h1a
      obtain ⟨r, hr⟩ : ∃ r, qs[K + 1]? = some r := ⟨_, List.getElem?_eq_getElem (by omega)⟩
      have c0 := (h1 (Below.refl _ _) (K + 1) r hr) 0 _ rfl
      have hat : r.x.at_ = (M : Int) := by
        rw [unhide HM]
        exact cutP_at (unhide HK3) (by rw [List.getElem?_map, hr]; rfl)
      rw [hat, show o1 + (K + 1) * 5 + 0 = o1 + (1 + K) * 5 by omega] at c0
      clear h1 hr hat
      go_wp2
      go_meet
      exact ⟨rfl, rfl⟩
    · have hkl1 : ¬ (1 : Int) + (K : Int) < (sn : Int) := by omega
      have hMe : M = n := by rw [unhide HM, cutP_end (by rw [List.length_map]; omega), hbl]
      go_wp2
      go_meet
      exact ⟨by rw [hMe], rfl⟩
  case rest =>
    obtain ⟨rfl, hwc⟩ := hcut
    have hwc' := hwc.symm
    clear hwc
    subst hwc'
    have F0 := hide (Below.refl w4.heap.size w4)
    go_wp2
    go_loopw [9, 10, 11, 12] (fun vo vi vt vj W => ∃ i : Nat, i ≤ K + 1 ∧ vo = .bool (outB M ((qs.map InR.x).take i)) ∧ vi = .int .i64 i ∧ Below w4.heap.size w4 W) (fun _ vi _ _ _ => K + 1 - (intOf vi).toNat)
    case atStart => exact ⟨0, by omega, rfl, rfl, unhide F0⟩
    case round =>
      obtain ⟨i, hi, rfl, rfl, hb⟩ := hrel
      by_cases hlt : i < K + 1
      · have hlt1 : (i : Int) < 1 + (K : Int) := by omega
        obtain ⟨b1, o1, h1a, h1⟩ := Ls.row (unhide HL) (w' := wr) (by omega)
        subst h1a
        obtain ⟨r, hr⟩ : ∃ r, qs[i]? = some r := ⟨_, List.getElem?_eq_getElem (by omega)⟩
        have hrow := h1 hb i r hr
        have hok := (unhide HE r (List.mem_of_getElem? hr)).ls
        have HTG := hide (hTargets_any wr r.x.at_ r.x.op r.x.a r.x.b r.s r.x.cs (hok.1.below hb) (by have := hok.2; omega) ((unhide HT).1.below ((unhide F3).trans (hb.mono (unhide F3).size))))
        have hot : outB M ((qs.map InR.x).take (i + 1)) = (outB M ((qs.map InR.x).take i) || (targP r.x).any fun t => decide ((M : Int) ≤ t)) := outB_take (by rw [List.getElem?_map, hr]; rfl)
        have HOT := hide hot
        have htl : (targP r.x).length ≤ 200000000000 := by have h1 := targ_len9 r.x; have h2 := hok.1.1; have h3 := hok.2; omega
        have c0 := hrow.zero
        have c1 := hrow 1 _ rfl
        have c2 := hrow 2 _ rfl
        have c3 := hrow 3 _ rfl
        have c4 := hrow 4 _ rfl
        have HB := hide hb
        clear hot hok hrow h1 hr hb
        obtain ⟨x, ⟨ya, yn, yc⟩⟩ := r
        unfold Sl.v at c4 HTG
        simp only at c0 c1 c2 c3 c4 HTG HOT htl
        obtain ⟨O, hO⟩ : ∃ O, O = outB M ((qs.map InR.x).take i) := ⟨_, rfl⟩
        rw [← hO] at HOT ⊢
        clear hO
        go_wp2_with fail
        refine (unhide HTG).mono ?_
        rintro e w5 ⟨v5, rfl, o5, f5⟩
        obtain ⟨ta, tc, hv5, _⟩ := o5.form
        subst hv5
        have HTL := hide (o5.ls rkI)
        have HB5 := hide ((unhide HB).trans (f5.mono (unhide HB).size))
        obtain ⟨ts, hts⟩ : ∃ ts, ts = targP x := ⟨_, rfl⟩
        rw [show (⟨x.at_, x.op, x.a, x.b, x.cs⟩ : Ins) = x from rfl, ← hts] at HTL ⊢
        rw [← hts] at HOT htl
        clear o5 f5 hts HTG c0 c1 c2 c3 c4
        go_wp2
        go_loopw [9, 12] (fun vo vj W => ∃ j : Nat, j ≤ ts.length ∧ vo = .bool (O || (ts.take j).any fun t => decide ((M : Int) ≤ t)) ∧ vj = .int .i64 j ∧ W = w5) (fun _ vj _ => ts.length - (intOf vj).toNat)
        case atStart => exact ⟨0, Nat.zero_le _, by simp, rfl, rfl⟩
        case round =>
          obtain ⟨j, hj, rfl, rfl, hwr⟩ := hrel
          have hwr' := hwr.symm
          clear hwr
          subst hwr'
          by_cases hjl : j < ts.length
          · have hjl1 : (j : Int) < ((ts.length : Nat) : Int) := by omega
            obtain ⟨b2, o2, h2a, h2⟩ := Ls.row (unhide HTL) (w' := w5) (by omega)
            subst h2a
            obtain ⟨y, hy⟩ : ∃ y, ts[j]? = some y := ⟨_, List.getElem?_eq_getElem (by omega)⟩
            have d0 := (h2 (Below.refl _ _) j y hy).zero
            rw [Nat.mul_one] at d0
            have hat := any_take9 (m := M) hy
            obtain ⟨P, hP⟩ : ∃ P, P = (O || (ts.take j).any fun t => decide ((M : Int) ≤ t)) := ⟨_, rfl⟩
            have HPN : Hid ((O || (ts.take (j + 1)).any fun t => decide ((M : Int) ≤ t)) = (P || decide ((M : Int) ≤ y))) := by
              unfold Hid
              rw [hat, hP, Bool.or_assoc]
            rw [← hP]
            clear hP hat h2 hy
            cases P with
            | true =>
              go_wp2
              go_roundw
              case rel => exact ⟨j + 1, by omega, by rw [unhide HPN]; rfl, by go_num, (by first | rfl | trivial)⟩
              case measure => simp [intOf]; omega
            | false =>
              go_wp2
              go_roundw
              case rel => exact ⟨j + 1, by omega, by rw [unhide HPN]; simp, by go_num, (by first | rfl | trivial)⟩
              case measure => simp [intOf]; omega
          · obtain rfl : j = ts.length := by omega
            have hal : (O || (ts.take ts.length).any fun t => decide ((M : Int) ≤ t)) = outB M ((qs.map InR.x).take (i + 1)) := by rw [List.take_length, unhide HOT]
            rw [hal]
            go_wp2
            go_roundw
            case rel => exact ⟨i + 1, by omega, rfl, by go_num, unhide HB5⟩
            case measure => simp [intOf]; omega
      · obtain rfl : i = K + 1 := by omega
        have hlt1 : ¬ ((K + 1 : Nat) : Int) < 1 + (K : Int) := by omega
        have hn0 : 0 < n := by omega
        obtain ⟨ab, ao, rfl⟩ : ∃ ab ao, a = some ⟨ab, ao, none⟩ := by
          rcases (unhide HA).bs.2 with h1 | ⟨b, o, e, _⟩
          · omega
          · exact ⟨b, o, e⟩
        have hnc : n ≤ c := (unhide HA).room
        have hMc : (M : Int) ≤ (c : Int) := by omega
        have hc0 : ¬ c = 0 := by omega
        obtain ⟨sb, so, rfl⟩ : ∃ sb so, sa = some ⟨sb, so, none⟩ := by
          obtain ⟨b1, o1, h1a, _⟩ := Ls.row (unhide HL) (w' := w4) (by omega)
          exact ⟨b1, o1, h1a⟩
        have hKs : 1 + (K : Int) ≤ (sc : Int) := by omega
        have hs0 : ¬ sc = 0 := by omega
        have hfi := front_is (unhide HK3) (k := K + 1) (by omega) (by rw [List.length_map]; omega)
        rw [← unhide HM] at hfi
        obtain ⟨O, hO⟩ : ∃ O, O = outB M ((qs.map InR.x).take (K + 1)) := ⟨_, rfl⟩
        rw [← hO] at hfi ⊢
        clear hO
        have HFI := hide hfi
        have F5 : Below w.heap.size w wr := (unhide F3).trans (hb.mono (unhide F3).size)
        have HD2 := hide (hDecode_any wr (some ⟨ab, ao, none⟩) M c (bs.take M) (arg_take9 ((unhide HA).below F5) hn0 hMn) ((unhide HT).1.below F5))
        have HB := hide (And.intro hb F5)
        clear hfi hb F5
        go_wp2_with fail
        refine (unhide HD2).mono ?_
        rintro e w6 ⟨⟨ya, yn, yc⟩, ys, er6, rfl, o6, e6, b6, hc6⟩
        have F6 := hide ((unhide HB).2.trans (b6.mono (unhide HB).2.size))
        have hyn : ys.length = yn := by obtain ⟨a', c', e', _⟩ := o6.form; injection e' with _ e2 _; exact e2.symm
        cases O with
        | true =>
          have hr6 : er6 = 90 ∧ ys = [] := by
            have hfi := unhide HFI
            rw [if_pos rfl] at hfi
            rcases hc6 with ⟨_, _, h⟩ | ⟨_, _, h⟩ | ⟨h1, h2, _⟩
            · rw [hfi] at h; cases h
            · rw [List.length_take] at h; omega
            · exact ⟨h2, h1⟩
          obtain ⟨rfl, rfl⟩ := hr6
          obtain rfl : yn = 0 := by simpa using hyn.symm
          clear o6 e6 b6 hc6 HD2
          unfold Sl.v
          go_wp2
          go_ret
          exact ⟨rfl, unhide F6⟩
        | false =>
          have hr6 : er6 = 0 ∧ ys.map InR.x = (qs.take (K + 1)).map InR.x := by
            have hfi := unhide HFI
            rw [if_neg (by simp)] at hfi
            rcases hc6 with ⟨h1, _, h⟩ | ⟨_, _, h⟩ | ⟨_, _, _, h⟩
            · rw [hfi] at h
              injection h with h
              exact ⟨h1, by rw [List.map_take, h]⟩
            · rw [List.length_take] at h; omega
            · rw [hfi] at h; cases h
          obtain ⟨rfl, hx6⟩ := hr6
          obtain rfl : yn = K + 1 := by
            have := congrArg List.length hx6
            simp only [List.length_map, List.length_take] at this
            omega
          have F7 : Below w4.heap.size w4 w6 := (unhide HB).1.trans (b6.mono (unhide HB).1.size)
          have HSI := hide (SameInstrs_same w6 ya (some ⟨sb, so, none⟩) (K + 1) yc sc ys (qs.take (K + 1)) (o6.ls rkN9) (((unhide HL).below F7).take9 (by omega)) hx6 (fun r hr => (e6 r hr).ls.1) (fun r hr => (unhide HE r (List.mem_of_mem_take hr)).ls.1.below F7) (by omega) (fun r hr => by have := (e6 r hr).ls.2; omega))
          clear o6 e6 b6 hc6 hx6 HD2 F7
          unfold Sl.v
          go_wp2_with fail
          rw [Nat.add_comm 1 K]
          refine (unhide HSI).mono ?_
          rintro e w9 ⟨rfl, f9⟩
          have F9 := hide ((unhide F6).trans (f9.mono (unhide F6).size))
          clear f9 HSI
          go_wp2
          go_ret
          exact ⟨rfl, unhide F9⟩
end Go.Proofs.YtafipngdhgokeaaDoor
