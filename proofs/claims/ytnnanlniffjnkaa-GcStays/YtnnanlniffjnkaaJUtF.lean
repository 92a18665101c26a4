/- Layer 16: the walk of GcStays. -/
import Derived.Test.YtnnanlniffjnkaaJUrE

namespace Go.Proofs.Ytnnanlniffjnkaa
open Go.RowKit
set_option linter.unusedVariables false
set_option maxRecDepth 100000

set_option maxHeartbeats 3200000 in
theorem stays_walk16 (w : World) (a : Option Addr) (n c : Nat) (rs : List ObR) (h : HIn w ⟨a, n, c⟩ rs) (hfr : ∀ r ∈ rs, VFit r.ws) (b : Option Addr) (m d : Nat) (vs : List Vl) (hv : WsIn w ⟨b, m, d⟩ vs) (hfv : VFit vs) :
    Calls Try.prog 7 #[.slice a n c, .slice b m d] w fun e w' => e = .returned (.bool true) ∧ Below w.heap.size w w' := by
  have HWK := hide (works16_any w)
  have HI := hide h
  have HV := hide hv
  have HFR := hide hfr
  have HFV := hide hfv
  have KB : Hid (∀ {W W2}, Below w.heap.size w W → Below W.heap.size W W2 → Below w.heap.size w W2) := fun f g => f.trans (g.mono f.size)
  clear h hv hfr hfv
  go_enter Try.func7, Try.ntmps7
  go_wp2_with fail
  refine (unhide HWK).mono ?_
  rintro e w1 ⟨rfl, f1⟩
  have F1 := hide f1
  have HLG := hide (light16_any w1 ⟨a, n, c⟩ rs ((unhide HI).below f1))
  simp only [Sl.v] at HLG
  clear f1 HWK
  go_wp2_with fail
  refine (unhide HLG).mono ?_
  rintro e w' ⟨⟨lb, rfl⟩, rfl⟩
  cases lb with
  | false =>
    go_wp2
    go_ret
    exact ⟨rfl, unhide F1⟩
  | true =>
    by_cases hm : m ≤ 300
    case neg =>
      have hm1 : (300 : Int) < (m : Int) := by omega
      go_wp2
      go_ret
      exact ⟨rfl, unhide F1⟩
    have hm1 : ¬ (300 : Int) < (m : Int) := by omega
    have HSW := hide (Canon_in w' _ _ rs ((unhide HI).below (unhide F1)) vs ((unhide HV).below (unhide F1)) (unhide HFR) (unhide HFV))
    simp only [Sl.v] at HSW
    clear HLG
    go_wp2_with fail
    refine (unhide HSW).mono ?_
    rintro e w2 ⟨⟨s2, t2, dn2, rfl, h2, e2, u2⟩, f2⟩
    have hl2 := h2.ls.1
    have hv2 := u2.ls.1
    obtain ⟨sa2, sn2, sc2⟩ := s2
    obtain ⟨ta2, tn2, tc2⟩ := t2
    have F2 := hide (unhide KB (unhide F1) f2)
    simp only [Sl.v] at hl2 hv2 ⊢
    clear f2 F1 HSW
    by_cases hc : checkE (rs.map ObR.o) = 0
    case neg =>
      obtain rfl : sn2 = 0 := by
        have := congrArg List.length e2
        unfold canonOV at this
        rw [if_neg hc, List.length_map] at this
        simp at this
        rw [this] at hl2
        simpa using hl2.symm
      obtain rfl : tn2 = 0 := by
        unfold canonVV at hv2
        rw [if_neg hc] at hv2
        simpa using hv2.symm
      generalize checkE (rs.map ObR.o) = ce at *
      clear h2 e2 u2 hl2 hv2
      go_wp2
      go_ret
      exact ⟨rfl, unhide F2⟩
    have e3 : dn2.map ObR.o = canonO (rs.map ObR.o) vs := by
      rw [e2]
      unfold canonOV
      rw [if_pos hc]
    have u3 : canonVV (rs.map ObR.o) vs = canonV (rs.map ObR.o) vs := by
      unfold canonVV
      rw [if_pos hc]
    rw [u3] at u2
    obtain ⟨g1, g2⟩ := canon_fit (unhide HFR) (unhide HFV) hc e3
    have HSW2 := hide (Canon_in w2 _ _ dn2 h2 _ u2 g1 g2)
    have hk : checkE (dn2.map ObR.o) = 0 := by rw [e3]; exact canon_right hc
    have HO2 : Hid (canonOV (dn2.map ObR.o) (canonV (rs.map ObR.o) vs) = dn2.map ObR.o) := by
      unfold Hid canonOV
      rw [if_pos hk, e3]
      exact canon_canon.1
    have HV2 : Hid (canonVV (dn2.map ObR.o) (canonV (rs.map ObR.o) vs) = canonV (rs.map ObR.o) vs) := by
      unfold Hid canonVV
      rw [if_pos hk, e3]
      exact canon_canon.2
    have H2 := hide (And.intro h2 u2)
    unfold canonPost at HSW2
    rw [hk] at HSW2
    simp only [Sl.v] at HSW2
    rw [hc]
    clear h2 e2 u2 e3 u3 g1 g2 hk hl2 hv2
    go_wp2_with fail
    refine (unhide HSW2).mono ?_
    rintro e w3 ⟨⟨s3, t3, dn3, rfl, h3, e3, u3⟩, f3⟩
    obtain ⟨sa3, sn3, sc3⟩ := s3
    obtain ⟨ta3, tn3, tc3⟩ := t3
    have F3 := hide (unhide KB (unhide F2) f3)
    rw [unhide HV2] at u3
    have HSO := hide (SameObjects_same w3 _ _ dn2 dn3 ((unhide H2).1.below f3) h3 (by rw [e3, unhide HO2]))
    have HSV : Hid (∀ W, Below w3.heap.size w3 W → Calls Try.prog 21 #[.slice ta2 tn2 tc2, .slice ta3 tn3 tc3] W fun e w' => e = .returned (.bool true) ∧ Below W.heap.size W w') := fun W f => SameValues_same W ⟨ta2, tn2, tc2⟩ ⟨ta3, tn3, tc3⟩ _ (((unhide H2).2.below f3).below f) (u3.below f)
    simp only [Sl.v] at HSO ⊢
    clear h3 e3 u3 f3 HSW2 F2 H2 HO2 HV2
    go_wp2_with fail
    refine (unhide HSO).mono ?_
    rintro e w4 ⟨rfl, f4⟩
    have HSV4 := hide (unhide HSV w4 f4)
    have F4 := hide (unhide KB (unhide F3) f4)
    clear f4 HSO HSV F3
    go_wp2_with fail
    refine (unhide HSV4).mono ?_
    rintro e w5 ⟨rfl, f5⟩
    have F5 := hide (unhide KB (unhide F4) f5)
    clear f5 HSV4 F4
    go_wp2
    go_ret
    exact ⟨rfl, unhide F5⟩
end Go.Proofs.Ytnnanlniffjnkaa
