/- Layer 16: the walk of GcTwice. -/
import Derived.Test.YtnnanlniffjnkaaJUrE

namespace Go.Proofs.Ytnnanlniffjnkaa
open Go.RowKit
set_option linter.unusedVariables false
set_option maxRecDepth 100000

set_option maxHeartbeats 3200000 in
theorem twice_walk16 (w : World) (a : Option Addr) (n c : Nat) (rs : List ObR) (h : HIn w ⟨a, n, c⟩ rs) (hfr : ∀ r ∈ rs, VFit r.ws) (b : Option Addr) (m d : Nat) (vs : List Vl) (hv : WsIn w ⟨b, m, d⟩ vs) (hfv : VFit vs) :
    Calls Try.prog 6 #[.slice a n c, .slice b m d] w fun e w' => e = .returned (.bool true) ∧ Below w.heap.size w w' := by
  have HWK := hide (works16_any w)
  have HI := hide h
  have HV := hide hv
  have HFR := hide hfr
  have HFV := hide hfv
  have KB : Hid (∀ {W W2}, Below w.heap.size w W → Below W.heap.size W W2 → Below w.heap.size w W2) := fun f g => f.trans (g.mono f.size)
  clear h hv hfr hfv
  go_enter Try.func6, Try.ntmps6
  go_wp2_with fail
  refine (unhide HWK).mono ?_
  rintro e w1 ⟨rfl, f1⟩
  have F1 := hide f1
  have HLG := hide (light16_any w1 ⟨a, n, c⟩ rs ((unhide HI).below f1))
  simp only [Sl.v] at HLG
  clear f1 HWK
  go_wp2_with fail
  refine (unhide HLG).mono ?_
  rintro e w' ⟨⟨lb, rfl⟩, rfl⟩
  cases lb with
  | false =>
    go_wp2
    go_ret
    exact ⟨rfl, unhide F1⟩
  | true =>
    by_cases hm : m ≤ 300
    case neg =>
      have hm1 : (300 : Int) < (m : Int) := by omega
      go_wp2
      go_ret
      exact ⟨rfl, unhide F1⟩
    have hm1 : ¬ (300 : Int) < (m : Int) := by omega
    have HSW := hide (Sweep_in w' _ _ rs ((unhide HI).below (unhide F1)) vs ((unhide HV).below (unhide F1)))
    simp only [Sl.v] at HSW
    clear HLG
    go_wp2_with fail
    refine (unhide HSW).mono ?_
    rintro e w2 ⟨⟨s2, dn2, rfl, h2, e2⟩, f2⟩
    obtain ⟨sa2, sn2, sc2⟩ := s2
    have F2 := hide (unhide KB (unhide F1) f2)
    simp only [Sl.v]
    clear f2 F1 HSW
    by_cases hc : checkE (rs.map ObR.o) = 0
    case neg =>
      generalize checkE (rs.map ObR.o) = ce at *
      clear h2 e2
      go_wp2
      go_ret
      exact ⟨rfl, unhide F2⟩
    have e3 : dn2.map ObR.o = sweepL (rs.map ObR.o) vs := by
      rw [e2]
      unfold sweepV
      rw [if_pos hc]
    have HC := hide hc
    have H2 := hide (And.intro h2 e3)
    have HSW2 := hide (Sweep_in w2 _ _ dn2 h2 vs ((unhide HV).below (unhide F2)))
    have hg : goneV (dn2.map ObR.o) vs = 0 := by
      unfold goneV
      rw [e3, if_pos (sweep_right hc), sweep_gone]
    have hk : checkE (dn2.map ObR.o) = 0 := by rw [e3]; exact sweep_right hc
    have hs2 : sweepV (dn2.map ObR.o) vs = dn2.map ObR.o := by
      unfold sweepV
      rw [e3, if_pos (sweep_right hc), sweep_sweep]
    have HS2 := hide hs2
    unfold sweepPost at HSW2
    rw [hg, hk] at HSW2
    simp only [Sl.v] at HSW2
    rw [hc]
    clear h2 e2 e3 hg hk hs2
    generalize goneV (rs.map ObR.o) vs = gv at *
    go_wp2_with fail
    refine (unhide HSW2).mono ?_
    rintro e w3 ⟨⟨s3, dn3, rfl, h3, e3⟩, f3⟩
    obtain ⟨sa3, sn3, sc3⟩ := s3
    have F3 := hide (unhide KB (unhide F2) f3)
    have H3 := hide (And.intro ((unhide H2).1.below f3) (And.intro h3 (e3.trans (unhide HS2))))
    have HSM := hide (Same_any w3 _ _ _ _ rs vs dn2 vs ((unhide HI).below (unhide F3)) ((unhide HV).below (unhide F3)) (unhide HFR) (unhide HFV) (unhide H3).1 ((unhide HV).below (unhide F3)) (sweep_fit (unhide HFR) (unhide H2).2) (unhide HFV))
    have hse : sameE (rs.map ObR.o) (dn2.map ObR.o) = 0 := by
      unfold sameE
      rw [if_neg (fun c => c (unhide HC)), (unhide H2).2, sweep_right (unhide HC)]
    have hsp : SameP (rs.map ObR.o) vs (dn2.map ObR.o) vs := ⟨hse, by rw [(unhide H2).2]; exact sweep_canon.1.symm, by rw [(unhide H2).2]; exact sweep_canon.2.symm⟩
    rw [hse] at HSM
    have HSP := hide hsp
    simp only [Sl.v] at HSM ⊢
    clear f3 h3 e3 hse hsp HSW2 F2 H2 HS2
    go_wp2_with fail
    refine (unhide HSM).mono ?_
    rintro e w4 ⟨⟨b4, rfl, hb4⟩, f4⟩
    obtain rfl : b4 = true := hb4.2 (unhide HSP)
    have F4 := hide (unhide KB (unhide F3) f4)
    have HSO := hide (SameObjects_same w4 _ _ dn3 dn2 ((unhide H3).2.1.below f4) ((unhide H3).1.below f4) (unhide H3).2.2)
    simp only [Sl.v] at HSO
    clear f4 hb4 HSM F3 H3 HSP
    go_wp2_with fail
    refine (unhide HSO).mono ?_
    rintro e w5 ⟨rfl, f5⟩
    have F5 := hide (unhide KB (unhide F4) f5)
    clear f5 HSO F4
    go_wp2
    go_ret
    exact ⟨rfl, unhide F5⟩
end Go.Proofs.Ytnnanlniffjnkaa
