/- Layer 16: the walk of GcCanons. -/
import Derived.Test.YtnnanlniffjnkaaJUrE
import Derived.Test.YtnnanlniffjnkaaJUrG

namespace Go.Proofs.Ytnnanlniffjnkaa
open Go.RowKit
set_option linter.unusedVariables false
set_option maxRecDepth 100000

theorem same_fit {rs dn : List ObR} (h : ∀ r ∈ rs, VFit r.ws) (hs : dn.map ObR.o = rs.map ObR.o) : ∀ r ∈ dn, VFit r.ws := obs_fit (fun o ho => by
  rw [hs] at ho
  obtain ⟨r, hr, rfl⟩ := List.mem_map.1 ho
  exact h r hr)
set_option maxHeartbeats 6400000 in
theorem canons_walk16 (w : World) (a : Option Addr) (n c : Nat) (rs : List ObR) (h : HIn w ⟨a, n, c⟩ rs) (hfr : ∀ r ∈ rs, VFit r.ws) (b : Option Addr) (m d : Nat) (vs : List Vl) (hv : WsIn w ⟨b, m, d⟩ vs) (hfv : VFit vs)
    (a2 : Option Addr) (n2 c2 : Nat) (rs2 : List ObR) (h2 : HIn w ⟨a2, n2, c2⟩ rs2) (hfr2 : ∀ r ∈ rs2, VFit r.ws) (b2 : Option Addr) (m2 d2 : Nat) (vs2 : List Vl) (hv2 : WsIn w ⟨b2, m2, d2⟩ vs2) (hfv2 : VFit vs2) :
    Calls Try.prog 4 #[.slice a n c, .slice b m d, .slice a2 n2 c2, .slice b2 m2 d2] w fun e w' => e = .returned (.bool true) ∧ Below w.heap.size w w' := by
  have HLG := hide (light16_any w ⟨a, n, c⟩ rs h)
  have HLG2 := hide (light16_any w ⟨a2, n2, c2⟩ rs2 h2)
  have hs1 := hv.small
  have hs2 := hv2.small
  simp only at hs1 hs2
  have HI := hide h
  have HV := hide hv
  have HI2 := hide h2
  have HV2 := hide hv2
  have HFI := hide (And.intro hfr (And.intro hfv (And.intro hfr2 hfv2)))
  have KB : Hid (∀ {W W2}, Below w.heap.size w W → Below W.heap.size W W2 → Below w.heap.size w W2) := fun f g => f.trans (g.mono f.size)
  simp only [Sl.v] at HLG HLG2
  clear h hv h2 hv2 hfr hfv hfr2 hfv2
  go_enter Try.func4, Try.ntmps4
  go_wp2_with fail
  refine (unhide HLG).mono ?_
  rintro e w' ⟨⟨lb, rfl⟩, rfl⟩
  cases lb with
  | false =>
    go_wp2
    go_ret
    exact ⟨rfl, Below.refl _ _⟩
  | true =>
    go_wp2_with fail
    refine (unhide HLG2).mono ?_
    rintro e w'' ⟨⟨lb, rfl⟩, rfl⟩
    cases lb with
    | false =>
      go_wp2
      go_ret
      exact ⟨rfl, Below.refl _ _⟩
    | true =>
      have hw1 : IntKind.i64.wrap ((m : Int) + (m2 : Int)) = (m : Int) + (m2 : Int) := by rw [IntKind.wrap_i64]; omega
      by_cases hm : m + m2 ≤ 300
      case neg =>
        have hm1 : (300 : Int) < (m : Int) + (m2 : Int) := by omega
        go_wp2
        go_ret
        exact ⟨rfl, Below.refl _ _⟩
      have hm1 : ¬ (300 : Int) < (m : Int) + (m2 : Int) := by omega
      have HCP := hide (copy_any w'' ⟨a, n, c⟩ rs (unhide HI))
      simp only [Sl.v] at HCP
      clear HLG HLG2
      go_wp2_with fail
      refine (unhide HCP).mono ?_
      rintro e w1 ⟨g, cc, dn, rfl, ho, hs, f1⟩
      have hd1 : HIn w1 ⟨some ⟨g, 0, none⟩, n, cc⟩ dn := own_hin (s := ⟨some ⟨g, 0, none⟩, n, cc⟩) ho hs (unhide HI)
      have F1 := hide f1
      have D1 := hide hd1
      have HS := hide hs
      have HFD := hide (same_fit (unhide HFI).1 hs)
      have HCA := hide (Canon_in w1 _ _ dn hd1 vs ((unhide HV).below f1) (unhide HFD) (unhide HFI).2.1)
      rw [hs] at HCA
      simp only [Sl.v] at HCA
      clear HCP ho hs f1 hd1
      go_wp2_with fail
      refine (unhide HCA).mono ?_
      rintro e w2 ⟨⟨s2, t2, dn2, rfl, h2, e2, u2⟩, f2⟩
      obtain ⟨sa2, sn2, sc2⟩ := s2
      obtain ⟨ta2, tn2, tc2⟩ := t2
      have F2 := hide (unhide KB (unhide F1) f2)
      have D2 := hide ((unhide D1).below f2)
      have X2 := hide (And.intro h2 (And.intro e2 u2))
      have HCB := hide (rCanon_in w2 _ _ rs ((unhide HI).below (unhide F2)) vs ((unhide HV).below (unhide F2)))
      simp only [Sl.v] at HCB ⊢
      clear h2 e2 u2 f2 HCA F1 D1
      go_wp2_with fail
      refine (unhide HCB).mono ?_
      rintro e w3 ⟨⟨s3, t3, dn3, rfl, h3, e3, u3⟩, f3⟩
      obtain ⟨sa3, sn3, sc3⟩ := s3
      obtain ⟨ta3, tn3, tc3⟩ := t3
      have F3 := hide (unhide KB (unhide F2) f3)
      have D3 := hide ((unhide D2).below f3)
      have X3 := hide (And.intro ((unhide X2).1.below f3) (And.intro (unhide X2).2.1 ((unhide X2).2.2.below f3)))
      have Y3 := hide (And.intro h3 (And.intro e3 u3))
      have HCC := hide (rCanon_in w3 _ _ rs2 ((unhide HI2).below (unhide F3)) vs2 ((unhide HV2).below (unhide F3)))
      simp only [Sl.v] at HCC ⊢
      clear h3 e3 u3 f3 HCB F2 D2 X2
      go_wp2_with fail
      refine (unhide HCC).mono ?_
      rintro e w4 ⟨⟨s4, t4, dn4, rfl, h4, e4, u4⟩, f4⟩
      obtain ⟨sa4, sn4, sc4⟩ := s4
      obtain ⟨ta4, tn4, tc4⟩ := t4
      have F4 := hide (unhide KB (unhide F3) f4)
      have D4 := hide ((unhide D3).below f4)
      have X4 := hide (And.intro ((unhide X3).1.below f4) (And.intro (unhide X3).2.1 ((unhide X3).2.2.below f4)))
      have Y4 := hide (And.intro ((unhide Y3).1.below f4) (And.intro (unhide Y3).2.1 ((unhide Y3).2.2.below f4)))
      have Z4 := hide (And.intro h4 (And.intro e4 u4))
      have HSM := hide (Same_any w4 _ _ _ _ dn vs rs2 vs2 (unhide D4) ((unhide HV).below (unhide F4)) (unhide HFD) (unhide HFI).2.1 ((unhide HI2).below (unhide F4)) ((unhide HV2).below (unhide F4)) (unhide HFI).2.2.1 (unhide HFI).2.2.2)
      rw [unhide HS] at HSM
      simp only [Sl.v] at HSM ⊢
      clear h4 e4 u4 f4 HCC F3 D3 X3 Y3
      obtain ⟨ce, hce⟩ : ∃ ce, ce = checkE (rs.map ObR.o) := ⟨_, rfl⟩
      obtain ⟨de, hde⟩ : ∃ de, de = checkE (rs2.map ObR.o) := ⟨_, rfl⟩
      have HCE := hide hce
      have HDE := hide hde
      rw [← hde]
      have hse : sameE (rs.map ObR.o) (rs2.map ObR.o) = if ce = 0 then de else ce := by
        unfold sameE
        rw [← hce, ← hde]
        by_cases h : ce = 0 <;> simp [h]
      have HSE := hide hse
      rw [hse] at HSM
      rw [← hce]
      clear hce hde hse
      go_wp2_with fail
      refine (unhide HSM).mono ?_
      rintro e w5 ⟨⟨is, rfl, his⟩, f5⟩
      have F5 := hide (unhide KB (unhide F4) f5)
      have D5 := hide ((unhide D4).below f5)
      have HIS := hide his
      have HSO := hide (SameObjects_same w5 _ _ dn2 dn3 ((unhide X4).1.below f5) ((unhide Y4).1.below f5) ((unhide X4).2.1.trans (unhide Y4).2.1.symm))
      have HSV : Hid (∀ W, Below w5.heap.size w5 W → Calls Try.prog 21 #[.slice ta2 tn2 tc2, .slice ta3 tn3 tc3] W fun e w' => e = .returned (.bool true) ∧ Below W.heap.size W w') := fun W f => SameValues_same W ⟨ta2, tn2, tc2⟩ ⟨ta3, tn3, tc3⟩ _ (((unhide X4).2.2.below f5).below f) (((unhide Y4).2.2.below f5).below f)
      have Y5 := hide (And.intro ((unhide Y4).1.below f5) (And.intro (unhide Y4).2.1 ((unhide Y4).2.2.below f5)))
      have Z5 := hide (And.intro ((unhide Z4).1.below f5) (And.intro (unhide Z4).2.1 ((unhide Z4).2.2.below f5)))
      simp only [Sl.v] at HSO
      clear f5 HSM F4 D4 X4 Y4 Z4 his
      by_cases h0 : ce = 0
      case neg =>
        obtain rfl : is = false := by
          cases is with
          | false => rfl
          | true =>
            have := ((unhide HIS).1 rfl).1
            rw [unhide HSE, if_neg h0] at this
            exact absurd this h0
        have h00 : (ce == 0) = false := by simpa using h0
        rw [if_neg h0]
        clear HIS HSE Y5 Z5 HCE HDE
        go_wp2_with fail
        refine (unhide HSO).mono ?_
        rintro e w6 ⟨rfl, f6⟩
        have HSV6 := hide (unhide HSV w6 f6)
        have F6 := hide (unhide KB (unhide F5) f6)
        have D6 := hide ((unhide D5).below f6)
        clear f6 HSO HSV F5 D5
        go_wp2_with fail
        refine (unhide HSV6).mono ?_
        rintro e w7 ⟨rfl, f7⟩
        have F7 := hide (unhide KB (unhide F6) f7)
        have D7 := hide ((unhide D6).below f7)
        clear f7 HSV6 F6 D6
        have HSP := hide (SameObjects_same w7 _ _ dn rs (unhide D7) ((unhide HI).below (unhide F7)) (unhide HS))
        simp only [Sl.v] at HSP
        go_wp2_with fail
        refine (unhide HSP).mono ?_
        rintro e w8 ⟨rfl, f8⟩
        have F8 := hide (unhide KB (unhide F7) f8)
        have HWK := hide (works16_any w8)
        clear f8 HSP F7 D7
        go_wp2_with fail
        refine (unhide HWK).mono ?_
        rintro e w9 ⟨rfl, f9⟩
        have F9 := hide (unhide KB (unhide F8) f9)
        clear f9 HWK F8
        go_wp2
        go_ret
        exact ⟨rfl, unhide F9⟩
      subst h0
      rw [if_pos rfl]
      by_cases h1 : de = 0
      case neg =>
        obtain rfl : is = false := by
          cases is with
          | false => rfl
          | true =>
            have := ((unhide HIS).1 rfl).1
            rw [unhide HSE, if_pos rfl] at this
            exact absurd this h1
        have h00 : (de == 0) = false := by simpa using h1
        clear HIS HSE Y5 Z5 HCE HDE
        go_wp2_with fail
        refine (unhide HSO).mono ?_
        rintro e w6 ⟨rfl, f6⟩
        have HSV6 := hide (unhide HSV w6 f6)
        have F6 := hide (unhide KB (unhide F5) f6)
        have D6 := hide ((unhide D5).below f6)
        clear f6 HSO HSV F5 D5
        go_wp2_with fail
        refine (unhide HSV6).mono ?_
        rintro e w7 ⟨rfl, f7⟩
        have F7 := hide (unhide KB (unhide F6) f7)
        have D7 := hide ((unhide D6).below f7)
        clear f7 HSV6 F6 D6
        have HSP := hide (SameObjects_same w7 _ _ dn rs (unhide D7) ((unhide HI).below (unhide F7)) (unhide HS))
        simp only [Sl.v] at HSP
        go_wp2_with fail
        refine (unhide HSP).mono ?_
        rintro e w8 ⟨rfl, f8⟩
        have F8 := hide (unhide KB (unhide F7) f8)
        have HWK := hide (works16_any w8)
        clear f8 HSP F7 D7
        go_wp2_with fail
        refine (unhide HWK).mono ?_
        rintro e w9 ⟨rfl, f9⟩
        have F9 := hide (unhide KB (unhide F8) f9)
        clear f9 HWK F8
        go_wp2
        go_ret
        exact ⟨rfl, unhide F9⟩
      subst h1
      have HB : Hid (is = true ↔ (canonOV (rs.map ObR.o) vs = canonOV (rs2.map ObR.o) vs2 ∧ canonVV (rs.map ObR.o) vs = canonVV (rs2.map ObR.o) vs2)) := by
        unfold Hid
        rw [unhide HIS]
        unfold SameP canonOV canonVV
        rw [if_pos (unhide HCE).symm, if_pos (unhide HDE).symm, if_pos (unhide HCE).symm, if_pos (unhide HDE).symm, unhide HSE, if_pos rfl]
        exact ⟨fun h => h.2, fun h => ⟨rfl, h⟩⟩
      clear HIS HSE HCE HDE
      go_wp2_with fail
      refine (unhide HSO).mono ?_
      rintro e w6 ⟨rfl, f6⟩
      have HSV6 := hide (unhide HSV w6 f6)
      have F6 := hide (unhide KB (unhide F5) f6)
      have D6 := hide ((unhide D5).below f6)
      have YZ6 := hide (And.intro ((unhide Y5).1.below f6) (And.intro ((unhide Y5).2.2.below f6) (And.intro ((unhide Z5).1.below f6) ((unhide Z5).2.2.below f6))))
      clear f6 HSO HSV F5 D5
      go_wp2_with fail
      refine (unhide HSV6).mono ?_
      rintro e w7 ⟨rfl, f7⟩
      have F7 := hide (unhide KB (unhide F6) f7)
      have D7 := hide ((unhide D6).below f7)
      have YZ7 := hide (And.intro ((unhide YZ6).1.below f7) (And.intro ((unhide YZ6).2.1.below f7) (And.intro ((unhide YZ6).2.2.1.below f7) ((unhide YZ6).2.2.2.below f7))))
      clear f7 HSV6 F6 D6
      have HSY := hide (SameObjects_any w7 ⟨sa3, sn3, sc3⟩ ⟨sa4, sn4, sc4⟩ dn3 dn4 (unhide YZ7).1 (unhide YZ7).2.2.1)
      rw [(unhide Y5).2.1, (unhide Z5).2.1] at HSY
      simp only [Sl.v] at HSY
      clear YZ6 Y5 Z5
      go_wp2_with fail
      refine (unhide HSY).mono ?_
      rintro e w8 ⟨⟨b8, rfl, hb8⟩, f8⟩
      have F8 := hide (unhide KB (unhide F7) f8)
      have D8 := hide ((unhide D7).below f8)
      have HSZ := hide (SameValues_any w8 ⟨ta3, tn3, tc3⟩ ⟨ta4, tn4, tc4⟩ _ _ ((unhide YZ7).2.1.below f8) ((unhide YZ7).2.2.2.below f8))
      have HB8 := hide hb8
      simp only [Sl.v] at HSZ
      clear f8 hb8 HSY F7 D7 YZ7
      cases b8 with
      | false =>
        obtain rfl : is = false := by
          cases is with
          | false => rfl
          | true =>
            have := (unhide HB8).2 ((unhide HB).1 rfl).1
            cases this
        clear HB HB8 HSZ
        have HSP := hide (SameObjects_same w8 _ _ dn rs (unhide D8) ((unhide HI).below (unhide F8)) (unhide HS))
        simp only [Sl.v] at HSP
        go_wp2_with fail
        refine (unhide HSP).mono ?_
        rintro e w9 ⟨rfl, f9⟩
        have F9 := hide (unhide KB (unhide F8) f9)
        have HWK := hide (works16_any w9)
        clear f9 HSP F8 D8
        go_wp2_with fail
        refine (unhide HWK).mono ?_
        rintro e w10 ⟨rfl, f10⟩
        have F10 := hide (unhide KB (unhide F9) f10)
        clear f10 HWK F9
        go_wp2
        go_ret
        exact ⟨rfl, unhide F10⟩
      | true =>
        go_wp2_with fail
        refine (unhide HSZ).mono ?_
        rintro e w9 ⟨⟨b9, rfl, hb9⟩, f9⟩
        obtain rfl : is = b9 := by
          have h1 := (unhide HB8).1 trivial
          have h2 := unhide HB
          cases is <;> cases b9 <;> first | rfl | (exfalso; first | (exact Bool.noConfusion (h2.2 ⟨h1, hb9.1 rfl⟩)) | (exact Bool.noConfusion (hb9.2 (h2.1 rfl).2)))
        have F9 := hide (unhide KB (unhide F8) f9)
        have D9 := hide ((unhide D8).below f9)
        clear f9 hb9 HSZ HB HB8 F8 D8
        cases is with
        | false =>
          have HSP := hide (SameObjects_same w9 _ _ dn rs (unhide D9) ((unhide HI).below (unhide F9)) (unhide HS))
          simp only [Sl.v] at HSP
          go_wp2_with fail
          refine (unhide HSP).mono ?_
          rintro e w10 ⟨rfl, f10⟩
          have F10 := hide (unhide KB (unhide F9) f10)
          have HWK := hide (works16_any w10)
          clear f10 HSP F9 D9
          go_wp2_with fail
          refine (unhide HWK).mono ?_
          rintro e w11 ⟨rfl, f11⟩
          have F11 := hide (unhide KB (unhide F10) f11)
          clear f11 HWK F10
          go_wp2
          go_ret
          exact ⟨rfl, unhide F11⟩
        | true =>
          have HSP := hide (SameObjects_same w9 _ _ dn rs (unhide D9) ((unhide HI).below (unhide F9)) (unhide HS))
          simp only [Sl.v] at HSP
          go_wp2_with fail
          refine (unhide HSP).mono ?_
          rintro e w10 ⟨rfl, f10⟩
          have F10 := hide (unhide KB (unhide F9) f10)
          have HWK := hide (works16_any w10)
          clear f10 HSP F9 D9
          go_wp2_with fail
          refine (unhide HWK).mono ?_
          rintro e w11 ⟨rfl, f11⟩
          have F11 := hide (unhide KB (unhide F10) f11)
          clear f11 HWK F10
          go_wp2
          go_ret
          exact ⟨rfl, unhide F11⟩
end Go.Proofs.Ytnnanlniffjnkaa
