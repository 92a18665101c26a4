/- Layer 16: the walk of GcReaches. -/
import Derived.Test.YtnnanlniffjnkaaJUtA

namespace Go.Proofs.Ytnnanlniffjnkaa
open Go.RowKit
set_option linter.unusedVariables false
set_option maxRecDepth 100000

set_option maxHeartbeats 3200000 in
theorem reaches_walk16 (w : World) (a : Option Addr) (n c : Nat) (rs : List ObR) (h : HIn w ⟨a, n, c⟩ rs) (b : Option Addr) (m d : Nat) (vs : List Vl) (hv : WsIn w ⟨b, m, d⟩ vs) :
    Calls Try.prog 3 #[.slice a n c, .slice b m d] w fun e w' => e = .returned (.bool true) ∧ Below w.heap.size w w' := by
  have HLG := hide (light16_any w ⟨a, n, c⟩ rs h)
  have HI := hide h
  have HV := hide hv
  have KB : Hid (∀ {W W2}, Below w.heap.size w W → Below W.heap.size W W2 → Below w.heap.size w W2) := fun f g => f.trans (g.mono f.size)
  simp only [Sl.v] at HLG
  clear h hv
  go_enter Try.func3, Try.ntmps3
  go_wp2_with fail
  refine (unhide HLG).mono ?_
  rintro e w' ⟨⟨lb, rfl⟩, rfl⟩
  cases lb with
  | false =>
    go_wp2
    go_ret
    exact ⟨rfl, Below.refl _ _⟩
  | true =>
    by_cases hm : m ≤ 300
    case neg =>
      have hm1 : (300 : Int) < (m : Int) := by omega
      go_wp2
      go_ret
      exact ⟨rfl, Below.refl _ _⟩
    have hm1 : ¬ (300 : Int) < (m : Int) := by omega
    have HCP := hide (copy_any w' ⟨a, n, c⟩ rs (unhide HI))
    simp only [Sl.v] at HCP
    clear HLG
    go_wp2_with fail
    refine (unhide HCP).mono ?_
    rintro e w1 ⟨g, cc, dn, rfl, ho, hs, f1⟩
    have hd1 : HIn w1 ⟨some ⟨g, 0, none⟩, n, cc⟩ dn := own_hin (s := ⟨some ⟨g, 0, none⟩, n, cc⟩) ho hs (unhide HI)
    have F1 := hide f1
    have D1 := hide hd1
    have HS := hide hs
    have HRE := hide (Reach_any w1 dn hd1 _ vs ((unhide HV).below f1))
    rw [hs] at HRE
    simp only [Sl.v] at HRE
    clear HCP ho hs f1 hd1
    go_wp2_with fail
    refine (unhide HRE).mono ?_
    rintro e w2 ⟨v2, rfl, o2, f2⟩
    obtain ⟨a2, c2, rfl, _⟩ := o2.form
    have F2 := hide (unhide KB (unhide F1) f2)
    have O2 := hide o2
    have D2 := hide ((unhide D1).below f2)
    have HRR := hide (rReach_any w2 _ rs ((unhide HI).below (unhide F2)) _ vs ((unhide HV).below (unhide F2)))
    simp only [Sl.v] at HRR
    clear o2 f2 HRE F1 D1
    go_wp2_with fail
    refine (unhide HRR).mono ?_
    rintro e w3 ⟨v3, rfl, o3, f3⟩
    obtain ⟨a3, c3, rfl, _⟩ := o3.form
    have F3 := hide (unhide KB (unhide F2) f3)
    have O3 := hide (And.intro (orw_on (unhide O2) f3) o3)
    have D3 := hide ((unhide D2).below f3)
    have HSW := hide (Sweep_in w3 _ _ dn (unhide D3) vs ((unhide HV).below (unhide F3)))
    rw [unhide HS] at HSW
    simp only [Sl.v] at HSW
    clear o3 f3 HRR F2 O2 D2
    go_wp2_with fail
    refine (unhide HSW).mono ?_
    rintro e w4 ⟨⟨s4, dn4, rfl, h4, e4⟩, f4⟩
    obtain ⟨sa4, sn4, sc4⟩ := s4
    have F4 := hide (unhide KB (unhide F3) f4)
    have O4 := hide (And.intro (orw_on (unhide O3).1 f4) (orw_on (unhide O3).2 f4))
    have D4 := hide ((unhide D3).below f4)
    have H4 := hide (And.intro h4 e4)
    have HSR := hide (rSweep_in w4 _ _ rs ((unhide HI).below (unhide F4)) vs ((unhide HV).below (unhide F4)))
    simp only [Sl.v] at HSR ⊢
    clear h4 e4 f4 HSW F3 O3 D3
    go_wp2_with fail
    refine (unhide HSR).mono ?_
    rintro e w5 ⟨⟨s5, dn5, rfl, h5, e5⟩, f5⟩
    obtain ⟨sa5, sn5, sc5⟩ := s5
    have F5 := hide (unhide KB (unhide F4) f5)
    have O5 := hide (And.intro (orw_on (unhide O4).1 f5) (orw_on (unhide O4).2 f5))
    have D5 := hide ((unhide D4).below f5)
    have H5 := hide (And.intro ((unhide H4).1.below f5) (And.intro h5 ((unhide H4).2.trans e5.symm)))
    have hlq : (qi (reachV (rs.map ObR.o) vs)).length ≤ 100000 := by
      rw [qi_len]
      unfold reachV
      split
      next hc =>
        have := (reach_in (rs.map ObR.o) vs).le
        have := (check_fit hc).1
        omega
      next => simp
    have HSI := hide (SameInts_15 w5 a2 a3 (qi (reachV (rs.map ObR.o) vs)).length c2 c3 (qi (reachV (rs.map ObR.o) vs)) (Orw.ls rkI15 (unhide O5).1) (Orw.ls rkI15 (unhide O5).2) (by omega))
    clear h5 e5 f5 HSR F4 O4 D4 H4 hlq O5
    simp only [Sl.v]
    generalize (qi (reachV (rs.map ObR.o) vs)).length = rl at *
    generalize checkE (rs.map ObR.o) = ce at *
    generalize goneV (rs.map ObR.o) vs = gv at *
    go_wp2_with fail
    refine (unhide HSI).mono ?_
    rintro e w6 ⟨rfl, f6⟩
    have F6 := hide (unhide KB (unhide F5) f6)
    have D6 := hide ((unhide D5).below f6)
    have HSO := hide (SameObjects_same w6 _ _ dn4 dn5 ((unhide H5).1.below f6) ((unhide H5).2.1.below f6) (unhide H5).2.2)
    simp only [Sl.v] at HSO
    clear f6 HSI F5 D5 H5
    go_wp2_with fail
    refine (unhide HSO).mono ?_
    rintro e w7 ⟨rfl, f7⟩
    have F7 := hide (unhide KB (unhide F6) f7)
    have HSP := hide (SameObjects_same w7 _ _ dn rs ((unhide D6).below f7) ((unhide HI).below (unhide F7)) (unhide HS))
    simp only [Sl.v] at HSP
    clear f7 HSO F6 D6
    go_wp2_with fail
    refine (unhide HSP).mono ?_
    rintro e w8 ⟨rfl, f8⟩
    have F8 := hide (unhide KB (unhide F7) f8)
    have HWK := hide (works16_any w8)
    clear f8 HSP F7
    go_wp2_with fail
    refine (unhide HWK).mono ?_
    rintro e w9 ⟨rfl, f9⟩
    have F9 := hide (unhide KB (unhide F8) f9)
    clear f9 HWK F8
    go_wp2
    go_ret
    exact ⟨rfl, unhide F9⟩
end Go.Proofs.Ytnnanlniffjnkaa
