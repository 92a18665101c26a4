/- Layer 15: the walk of HeapFrees. -/
import Derived.Test.YtgiohebbmjgefaaJHpR
import Derived.Test.YtgiohebbmjgefaaJHpS

namespace Go.Proofs.Ytgiohebbmjgefaa
open Go.RowKit
set_option linter.unusedVariables false
set_option maxRecDepth 100000

theorem hIn_one {w : World} {ty : List UInt8} {s : Sl} {ws : List Vl} (h : WsIn w s ws) : HIn (w.alloc (.cells #[.string ⟨ty.toArray⟩, s.v] 29)) ⟨some ⟨w.heap.size, 0, none⟩, 1, 1⟩ [⟨ty, s, ws⟩] :=
  ⟨ls_one (cs := obc) (sz := 2) w _ _ (ObR.mk ty s ws) rfl, Nat.le_refl _, by simp, (fun e => by cases e), by simp, fun x hx => by
    simp at hx
    subst hx
    exact h.below ((Below.refl _ _).alloc (Nat.le_refl _) _)⟩
theorem getPost.none {w : World} {l : List Ob} {n : Int} {e : Ending} {w' : World} (h : getPost w l n e w') (h0 : getH l n = none) : Below w.heap.size w w' ∧ e = .returned (.tuple #[.agg #[.string ⟨#[]⟩, .slice none 0 0], .int .i64 150]) := by
  obtain ⟨f, ⟨_, h1⟩ | ⟨o, s, h1, _⟩⟩ := h
  · exact ⟨f, h1⟩
  · rw [h0] at h1; cases h1
theorem getPost.ok {w : World} {l : List Ob} {n : Int} {o : Ob} {e : Ending} {w' : World} (h : getPost w l n e w') (h0 : getH l n = some o) : Below w.heap.size w w' ∧ ∃ s, WsIn w' s o.ws ∧ e = .returned (.tuple #[.agg #[.string ⟨o.ty.toArray⟩, s.v], .int .i64 0]) := by
  obtain ⟨f, ⟨h1, _⟩ | ⟨o2, s, h1, h2, h3⟩⟩ := h
  · rw [h0] at h1; cases h1
  · rw [h0] at h1
    injection h1 with h1
    subst h1
    exact ⟨f, s, h2, h3⟩
theorem freePost.none {w : World} {l : List Ob} {n : Int} {e : Ending} {w' : World} (h : freePost w l n e w') (h0 : freeH l n = none) : Below w.heap.size w w' ∧ e = .returned (.tuple #[.slice none 0 0, .int .i64 150]) := by
  obtain ⟨f, ⟨_, h1⟩ | ⟨l2, s, rs, h1, _⟩⟩ := h
  · exact ⟨f, h1⟩
  · rw [h0] at h1; cases h1
set_option maxHeartbeats 6400000 in
theorem frees_walk15 (w : World) (a : Option Addr) (m c : Nat) (rs : List ObR) (h : HIn w ⟨a, m, c⟩ rs) (n : Int) (hn : fitI n) :
    Calls Try.prog 7 #[.slice a m c, .int .i64 n] w fun e w' => e = .returned (.bool true) ∧ Below w.heap.size w w' := by
  have hln := h.ls.1
  simp only at hln
  have KH : Hid (∀ W, Below w.heap.size w W → HIn W ⟨a, m, c⟩ rs) := fun W f => h.below f
  have HWK := hide (works15_any w)
  have KB : Hid (∀ {W W2}, Below w.heap.size w W → Below W.heap.size W W2 → Below w.heap.size w W2) := fun f g => f.trans (g.mono f.size)
  have HF := hide hn
  clear h hn
  go_enter Try.func7, Try.ntmps7
  go_wp2_with fail
  refine (unhide HWK).mono ?_
  rintro e w1 ⟨rfl, f1⟩
  have H1 := hide f1
  have HL := hide (light_any w1 ⟨a, m, c⟩ rs (unhide KH _ f1))
  clear f1 HWK
  simp only [Sl.v] at HL
  go_wp2_with fail
  refine (unhide HL).mono ?_
  rintro e w2 ⟨rfl, f2⟩
  have H2 := hide (unhide KB (unhide H1) f2)
  clear f2 HL H1
  cases hlb : lightB (rs.map ObR.o) with
  | false =>
    go_wp2
    go_ret
    exact ⟨rfl, unhide H2⟩
  | true =>
    by_cases h3 : 300 < m
    · have h31 : (300 : Int) < (m : Int) := by omega
      go_wp2
      go_ret
      exact ⟨rfl, unhide H2⟩
    · have h31 : ¬ (300 : Int) < (m : Int) := by omega
      have HW := hide (get_any w2 ⟨a, m, c⟩ rs (unhide KH _ (unhide H2)) n (unhide HF))
      simp only [Sl.v] at HW
      go_wp2_with fail
      refine (unhide HW).mono ?_
      rintro e w3 hp
      cases hu : getH (rs.map ObR.o) n with
      | none =>
        obtain ⟨f3, rfl⟩ := hp.none hu
        have H3 := hide (unhide KB (unhide H2) (f3.trans (((Below.refl w3.heap.size w3).alloc (Nat.le_refl _) (.cells #[.string ⟨#[]⟩, .slice none 0 0] 29)).mono f3.size)))
        have HS := hide (free_any _ ⟨a, m, c⟩ rs (unhide KH _ (unhide H3)) n (unhide HF))
        simp only [Sl.v] at HS
        have HU := hide (freeH_none hu)
        clear hp f3 HW hu
        go_wp2_with fail
        refine (unhide HS).mono ?_
        rintro e w4 hp
        obtain ⟨f4, rfl⟩ := hp.none (unhide HU)
        have H4 := hide (unhide KB (unhide H3) f4)
        clear hp f4 HS
        go_wp2
        go_ret
        exact ⟨rfl, unhide H4⟩
      | some o =>
        obtain ⟨f3, s3, hws, rfl⟩ := hp.ok hu
        obtain ⟨l', e1, e2, e3, e4, e5, e6⟩ := frees_pure hu
        obtain ⟨ty, ws⟩ := o
        obtain ⟨xa, xn, xc⟩ := s3
        simp only [Sl.v] at hws ⊢
        have HE := hide (And.intro e1 (And.intro e2 (And.intro e3 (And.intro e4 (And.intro e5 e6)))))
        obtain ⟨w3', hw3'⟩ : ∃ w3', w3' = w3.alloc (.cells #[.string ⟨ty.toArray⟩, .slice xa xn xc] 29) := ⟨_, rfl⟩
        have f3' : Below w2.heap.size w2 w3' := by rw [hw3']; exact f3.trans (((Below.refl w3.heap.size w3).alloc (Nat.le_refl _) _).mono f3.size)
        have KX : Hid (∀ W, Below w3'.heap.size w3' W → W.cell? ⟨w3.heap.size, 0, none⟩ = some (.string ⟨ty.toArray⟩) ∧ W.cell? ⟨w3.heap.size, 1, none⟩ = some (.slice xa xn xc)) := by rw [hw3']; exact stands2 w3 _ _
        have KWS : Hid (∀ W, Below w3'.heap.size w3' W → WsIn W ⟨xa, xn, xc⟩ ws) := by
          rw [hw3']
          exact fun W f => (hws.below ((Below.refl _ _).alloc (Nat.le_refl _) _)).below f
        have H3 := hide (unhide KB (unhide H2) f3')
        have HS := hide (free_any w3' ⟨a, m, c⟩ rs (unhide KH _ (unhide H3)) n (unhide HF))
        simp only [Sl.v] at HS
        have HWE := hide hw3'
        clear hp f3 f3' hws HW hu e1 e2 e3 e4 e5 e6 hw3'
        generalize hst : (⟨ty.toArray⟩ : ByteArray) = st at *
        go_wp2_with fail
        rw [← unhide HWE]
        refine (unhide HS).mono ?_
        rintro e w4 hp
        obtain ⟨f4, s4, rs4, hi4, hm4, rfl⟩ := hp.ok (unhide HE).1
        have H4 := hide (unhide KB (unhide H3) f4)
        have F4 := hide f4
        obtain ⟨a4, n4, c4⟩ := s4
        have HI4 := hide (And.intro hi4 hm4)
        have HW := hide (get_any w4 ⟨a4, n4, c4⟩ rs4 hi4 n (unhide HF))
        simp only [Sl.v] at HW ⊢
        clear hp f4 hi4 hm4 HS HWE
        go_wp2_with fail
        refine (unhide HW).mono ?_
        rintro e w5 hp
        obtain ⟨hi4, hm4⟩ := unhide HI4
        rw [hm4] at hp
        obtain ⟨f5, rfl⟩ := hp.none (unhide HE).2.2.1
        have f5' : Below w4.heap.size w4 (w5.alloc (.cells #[.string ⟨#[]⟩, .slice none 0 0] 29)) := f5.trans (((Below.refl w5.heap.size w5).alloc (Nat.le_refl _) _).mono f5.size)
        have H5 := hide (unhide KB (unhide H4) f5')
        have F5 := hide ((unhide F4).trans (f5'.mono (unhide F4).size))
        have hlen4 : rs4.length ≤ 4096 := by
          have := check_len (unhide HE).2.1
          rw [← hm4, List.length_map] at this
          exact this.1
        have HS := hide (live_any _ ⟨a4, n4, c4⟩ rs4 (hi4.below f5') (by omega))
        rw [hm4] at HS
        simp only [Sl.v] at HS
        have F45 := hide f5'
        clear hp f5 f5' HW hi4 hm4
        go_wp2_with fail
        refine (unhide HS).mono ?_
        rintro e w6 ⟨v6, rfl, o6, f6⟩
        have H6 := hide (unhide KB (unhide H5) f6)
        have F6 := hide ((unhide F5).trans (f6.mono (unhide F5).size))
        have F46 := hide ((unhide F45).trans (f6.mono (unhide F45).size))
        obtain ⟨a6, c6, rfl, _⟩ := o6.form
        obtain ⟨L6, hL6⟩ : ∃ L6, L6 = liveH l' := ⟨_, rfl⟩
        obtain ⟨F, hFe⟩ : ∃ F, F = firstH freeO l' := ⟨_, rfl⟩
        have hlf := live_first l' 0
        rw [← hFe] at hlf
        have hlf1 : ∀ q, q < F → L6[q]? = some ((q : Int) + 1) := fun q hq => by
          have := hlf.1 q hq
          rw [hL6]
          unfold liveH
          rw [this]
          congr 1
          omega
        have hlf2 : L6[F]? ≠ some ((F : Int) + 1) := fun e => hlf.2 (by
          rw [hL6] at e
          unfold liveH at e
          rw [e]
          congr 1
          omega)
        have hF4 : F ≤ 4096 := by
          rw [hFe]
          exact Nat.le_trans (firstH_le _ _) (check_len (unhide HE).2.1).1
        rw [← hL6] at o6 ⊢
        have KO : Hid (∀ W, Below w6.heap.size w6 W → Orw i15 3 1 W (w5.alloc (.cells #[.string ⟨#[]⟩, .slice none 0 0] 29)).heap.size (.slice a6 L6.length c6) L6) := fun W f => orw_on o6 f
        have HLF := hide (And.intro hlf1 hlf2)
        have HFE := hide hFe
        clear o6 f6 HS hL6 hlf hlf1 hlf2 hFe
        go_wp2
        go_loopw [12, 13] (fun u v wr => ∃ t : Nat, t ≤ F ∧ u = .int .i64 ((t : Int) + 1) ∧ v = .int .i64 (t : Int) ∧ Below w6.heap.size w6 wr) (fun u v _ => F - (intOf v).toNat)
        case atStart => exact ⟨0, by omega, rfl, rfl, Below.refl _ _⟩
        case round =>
          obtain ⟨t, ht, rfl, rfl, hR⟩ := hrel
          have HR := hide hR
          have o7 := unhide KO _ hR
          clear hR
          by_cases hlt : t < F
          · have hv := (unhide HLF).1 t hlt
            have htl := (List.getElem?_eq_some_iff.1 hv).1
            obtain ⟨g, cur, rfl, _, _, _, q⟩ := o7.blkR rkI15.len (by omega)
            have d0 := q t _ hv 0 _ rfl
            rw [Nat.add_zero, Nat.mul_one] at d0
            have htl1 : (t : Int) < (L6.length : Int) := by omega
            have ht0 : (0 : Int) ≤ (t : Int) := by omega
            have hw1 : IntKind.i64.wrap ((t : Int) + 1 + 1) = (t : Int) + 1 + 1 := by rw [IntKind.wrap_i64]; omega
            have hw2 : IntKind.i64.wrap ((t : Int) + 1) = (t : Int) + 1 := by rw [IntKind.wrap_i64]; omega
            clear o7 hv q
            go_wp2
            go_roundw
            case rel => exact ⟨t + 1, by omega, by simp, by simp, unhide HR⟩
            case measure => simp [intOf]; omega
          · obtain rfl : t = F := by omega
            obtain ⟨hi4, hm4⟩ := unhide HI4
            have F47 : Below w4.heap.size w4 wr := (unhide F46).trans ((unhide HR).mono (unhide F46).size)
            have F37 : Below w3'.heap.size w3' wr := (unhide F6).trans ((unhide HR).mono (unhide F6).size)
            have HP := hide (put_any wr ⟨a4, n4, c4⟩ rs4 (hi4.below F47) ty ⟨xa, xn, xc⟩ ws (unhide KWS _ F37))
            rw [hm4] at HP
            simp only [Sl.v, hst] at HP
            obtain ⟨p0, p1⟩ := unhide KX _ F37
            have H7 := hide (unhide KB (unhide H6) (unhide HR))
            have HF47 := hide F47
            have HF37 := hide F37
            have hex : (∃ v, L6[t]? = some v ∧ v ≠ (t : Int) + 1) ∨ L6.length ≤ t := by
              rcases Nat.lt_or_ge t L6.length with h1 | h1
              · refine .inl ⟨_, List.getElem?_eq_getElem h1, fun e => (unhide HLF).2 ?_⟩
                rw [List.getElem?_eq_getElem h1, e]
              · exact .inr h1
            have ht0 : (0 : Int) ≤ (t : Int) := by omega
            have hw1 : IntKind.i64.wrap ((t : Int) + 1) = (t : Int) + 1 := by rw [IntKind.wrap_i64]; omega
            rcases hex with ⟨v, hv, hne⟩ | hge
            · have htl := (List.getElem?_eq_some_iff.1 hv).1
              obtain ⟨g, cur, rfl, _, _, _, q⟩ := o7.blkR rkI15.len (by omega)
              have d0 := q t _ hv 0 _ rfl
              rw [Nat.add_zero, Nat.mul_one] at d0
              have htl1 : (t : Int) < (L6.length : Int) := by omega
              have hne1 : (v == (t : Int) + 1) = false := by simpa using hne
              clear o7 q hv
              clear hi4 hm4 F47 F37
              go_wp2_with fail
              refine (unhide HP).mono ?_
              rintro e w8 hp
              obtain ⟨f8, s8, rs8, hi8, hm8, rfl⟩ := hp.ok (unhide HE).2.2.2.1
              rw [← unhide HFE]
              obtain ⟨a8, n8, c8⟩ := s8
              have H8 := hide (unhide KB (unhide H7) f8)
              have F38 := hide ((unhide HF37).trans (f8.mono (unhide HF37).size))
              have F48 := hide ((unhide HF47).trans (f8.mono (unhide HF47).size))
              have HG := hide (get_any w8 ⟨a8, n8, c8⟩ rs8 hi8 ((t : Int) + 1) (by unfold fitI; omega))
              rw [hm8] at HG
              simp only [Sl.v] at HG ⊢
              clear hp f8 hi8 hm8 HP p0 p1
              go_wp2_with fail
              refine (unhide HG).mono ?_
              rintro e w9 hp
              obtain ⟨f9, s9, hws9, rfl⟩ := hp.ok (o := ⟨ty, ws⟩) (by rw [unhide HFE]; exact (unhide HE).2.2.2.2.1)
              obtain ⟨a9, n9, c9⟩ := s9
              obtain ⟨w9', hw9'⟩ : ∃ w9', w9' = w9.alloc (.cells #[.string ⟨ty.toArray⟩, .slice a9 n9 c9] 29) := ⟨_, rfl⟩
              have f9' : Below w8.heap.size w8 w9' := by rw [hw9']; exact f9.trans (((Below.refl w9.heap.size w9).alloc (Nat.le_refl _) _).mono f9.size)
              have KY : Hid (∀ W, Below w9'.heap.size w9' W → W.cell? ⟨w9.heap.size, 0, none⟩ = some (.string ⟨ty.toArray⟩) ∧ W.cell? ⟨w9.heap.size, 1, none⟩ = some (.slice a9 n9 c9)) := by rw [hw9']; exact stands2 w9 _ _
              have KWY : Hid (∀ W, Below w9'.heap.size w9' W → WsIn W ⟨a9, n9, c9⟩ ws) := by
                rw [hw9']
                exact fun W f => (hws9.below ((Below.refl _ _).alloc (Nat.le_refl _) _)).below f
              have H9 := hide (unhide KB (unhide H8) f9')
              have F39 := hide ((unhide F38).trans (f9'.mono (unhide F38).size))
              have f49 := (unhide F48).trans (f9'.mono (unhide F48).size)
              obtain ⟨hi4, hm4⟩ := unhide HI4
              have HCK := hide (check_any w9' ⟨a4, n4, c4⟩ rs4 (hi4.below f49))
              rw [hm4, checkE_yes (unhide HE).2.1] at HCK
              simp only [Sl.v, hst] at HCK KY
              have HWE := hide hw9'
              have hle : (t : Int) + 1 ≤ n := by rw [unhide HFE]; exact (unhide HE).2.2.2.2.2
              simp only [hst, Sl.v] at HWE ⊢
              clear hp f9 f9' hws9 f49 hi4 hm4 HG hw9'
              go_wp2_with fail
              rw [← unhide HWE]
              refine (unhide HCK).mono ?_
              rintro e w10 ⟨rfl, f10⟩
              have H10 := hide (unhide KB (unhide H9) f10)
              have f310 := (unhide F39).trans (f10.mono (unhide F39).size)
              have HA : HIn (w10.alloc (.cells #[.string ⟨ty.toArray⟩, .slice xa xn xc] 29)) ⟨some ⟨w10.heap.size, 0, none⟩, 1, 1⟩ [⟨ty, ⟨xa, xn, xc⟩, ws⟩] := hIn_one (s := ⟨xa, xn, xc⟩) (unhide KWS _ f310)
              have HB := hIn_one (ty := ty) (unhide KWY (w10.alloc (.cells #[.string ⟨ty.toArray⟩, .slice xa xn xc] 29)) (f10.trans (((Below.refl w10.heap.size w10).alloc (Nat.le_refl _) _).mono f10.size)))
              have hz : (w10.alloc (.cells #[.string ⟨ty.toArray⟩, .slice xa xn xc] 29)).heap.size = w10.heap.size + 1 := by simp
              have HSO := hide (SameObjects_same _ _ _ _ _ (HA.below ((Below.refl _ _).alloc (Nat.le_refl _) _)) HB rfl)
              rw [hz] at HSO
              simp only [Sl.v, hst] at HSO
              have HEND : Hid (Below w.heap.size w ((w10.alloc (.cells #[.string st, .slice xa xn xc] 29)).alloc (.cells #[.string st, .slice a9 n9 c9] 29))) := (((unhide H10).trans (((Below.refl w10.heap.size w10).alloc (Nat.le_refl _) _).mono (unhide H10).size))).trans (((Below.refl _ _).alloc (Nat.le_refl _) _).mono (by have := (unhide H10).size; simp; omega))
              obtain ⟨p0, p1⟩ := unhide KX _ f310
              obtain ⟨r0, r1⟩ := unhide KY (w10.alloc (.cells #[.string st, .slice xa xn xc] 29)) (f10.trans (((Below.refl w10.heap.size w10).alloc (Nat.le_refl _) _).mono f10.size))
              clear f10 f310 HA HB hz HCK HWE
              go_wp2_with fail
              refine (unhide HSO).mono ?_
              rintro e w11 ⟨rfl, f11⟩
              have H11 := hide (unhide KB (unhide HEND) f11)
              clear f11
              go_wp2
              go_ret
              exact ⟨rfl, unhide H11⟩
            · have htl1 : ¬ (t : Int) < (L6.length : Int) := by omega
              clear o7
              clear hi4 hm4 F47 F37
              go_wp2_with fail
              refine (unhide HP).mono ?_
              rintro e w8 hp
              obtain ⟨f8, s8, rs8, hi8, hm8, rfl⟩ := hp.ok (unhide HE).2.2.2.1
              rw [← unhide HFE]
              obtain ⟨a8, n8, c8⟩ := s8
              have H8 := hide (unhide KB (unhide H7) f8)
              have F38 := hide ((unhide HF37).trans (f8.mono (unhide HF37).size))
              have F48 := hide ((unhide HF47).trans (f8.mono (unhide HF47).size))
              have HG := hide (get_any w8 ⟨a8, n8, c8⟩ rs8 hi8 ((t : Int) + 1) (by unfold fitI; omega))
              rw [hm8] at HG
              simp only [Sl.v] at HG ⊢
              clear hp f8 hi8 hm8 HP p0 p1
              go_wp2_with fail
              refine (unhide HG).mono ?_
              rintro e w9 hp
              obtain ⟨f9, s9, hws9, rfl⟩ := hp.ok (o := ⟨ty, ws⟩) (by rw [unhide HFE]; exact (unhide HE).2.2.2.2.1)
              obtain ⟨a9, n9, c9⟩ := s9
              obtain ⟨w9', hw9'⟩ : ∃ w9', w9' = w9.alloc (.cells #[.string ⟨ty.toArray⟩, .slice a9 n9 c9] 29) := ⟨_, rfl⟩
              have f9' : Below w8.heap.size w8 w9' := by rw [hw9']; exact f9.trans (((Below.refl w9.heap.size w9).alloc (Nat.le_refl _) _).mono f9.size)
              have KY : Hid (∀ W, Below w9'.heap.size w9' W → W.cell? ⟨w9.heap.size, 0, none⟩ = some (.string ⟨ty.toArray⟩) ∧ W.cell? ⟨w9.heap.size, 1, none⟩ = some (.slice a9 n9 c9)) := by rw [hw9']; exact stands2 w9 _ _
              have KWY : Hid (∀ W, Below w9'.heap.size w9' W → WsIn W ⟨a9, n9, c9⟩ ws) := by
                rw [hw9']
                exact fun W f => (hws9.below ((Below.refl _ _).alloc (Nat.le_refl _) _)).below f
              have H9 := hide (unhide KB (unhide H8) f9')
              have F39 := hide ((unhide F38).trans (f9'.mono (unhide F38).size))
              have f49 := (unhide F48).trans (f9'.mono (unhide F48).size)
              obtain ⟨hi4, hm4⟩ := unhide HI4
              have HCK := hide (check_any w9' ⟨a4, n4, c4⟩ rs4 (hi4.below f49))
              rw [hm4, checkE_yes (unhide HE).2.1] at HCK
              simp only [Sl.v, hst] at HCK KY
              have HWE := hide hw9'
              have hle : (t : Int) + 1 ≤ n := by rw [unhide HFE]; exact (unhide HE).2.2.2.2.2
              simp only [hst, Sl.v] at HWE ⊢
              clear hp f9 f9' hws9 f49 hi4 hm4 HG hw9'
              go_wp2_with fail
              rw [← unhide HWE]
              refine (unhide HCK).mono ?_
              rintro e w10 ⟨rfl, f10⟩
              have H10 := hide (unhide KB (unhide H9) f10)
              have f310 := (unhide F39).trans (f10.mono (unhide F39).size)
              have HA : HIn (w10.alloc (.cells #[.string ⟨ty.toArray⟩, .slice xa xn xc] 29)) ⟨some ⟨w10.heap.size, 0, none⟩, 1, 1⟩ [⟨ty, ⟨xa, xn, xc⟩, ws⟩] := hIn_one (s := ⟨xa, xn, xc⟩) (unhide KWS _ f310)
              have HB := hIn_one (ty := ty) (unhide KWY (w10.alloc (.cells #[.string ⟨ty.toArray⟩, .slice xa xn xc] 29)) (f10.trans (((Below.refl w10.heap.size w10).alloc (Nat.le_refl _) _).mono f10.size)))
              have hz : (w10.alloc (.cells #[.string ⟨ty.toArray⟩, .slice xa xn xc] 29)).heap.size = w10.heap.size + 1 := by simp
              have HSO := hide (SameObjects_same _ _ _ _ _ (HA.below ((Below.refl _ _).alloc (Nat.le_refl _) _)) HB rfl)
              rw [hz] at HSO
              simp only [Sl.v, hst] at HSO
              have HEND : Hid (Below w.heap.size w ((w10.alloc (.cells #[.string st, .slice xa xn xc] 29)).alloc (.cells #[.string st, .slice a9 n9 c9] 29))) := (((unhide H10).trans (((Below.refl w10.heap.size w10).alloc (Nat.le_refl _) _).mono (unhide H10).size))).trans (((Below.refl _ _).alloc (Nat.le_refl _) _).mono (by have := (unhide H10).size; simp; omega))
              obtain ⟨p0, p1⟩ := unhide KX _ f310
              obtain ⟨r0, r1⟩ := unhide KY (w10.alloc (.cells #[.string st, .slice xa xn xc] 29)) (f10.trans (((Below.refl w10.heap.size w10).alloc (Nat.le_refl _) _).mono f10.size))
              clear f10 f310 HA HB hz HCK HWE
              go_wp2_with fail
              refine (unhide HSO).mono ?_
              rintro e w11 ⟨rfl, f11⟩
              have H11 := hide (unhide KB (unhide HEND) f11)
              clear f11
              go_wp2
              go_ret
              exact ⟨rfl, unhide H11⟩
end Go.Proofs.Ytgiohebbmjgefaa
