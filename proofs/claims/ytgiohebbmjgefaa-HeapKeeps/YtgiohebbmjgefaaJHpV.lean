/- Layer 15: the walk of HeapKeeps (written by mk/mkhpv.py). -/
import Derived.Test.YtgiohebbmjgefaaJHpT
import Derived.Test.YtgiohebbmjgefaaJTxB

namespace Go.Proofs.Ytgiohebbmjgefaa
open Go.RowKit
set_option linter.unusedVariables false
set_option maxRecDepth 100000

theorem keeps_pure {l : List Ob} {x : Ob} (h : putEH l x = 0) : ∀ v ∈ liveH l, ∃ (kk : Nat) (o : Ob), v = (kk : Int) + 1 ∧ kk < 4096 ∧ getH l ((kk : Int) + 1) = some o ∧ getH (putLH l x) ((kk : Int) + 1) = some o ∧ kk ≠ firstH freeO l := by
  intro v hv
  obtain ⟨hc, hf, _, _⟩ := putEH_in h
  obtain ⟨_, k, o, e, h1, h2⟩ := liveFrom_ge l 0 v hv
  have hk := (List.getElem?_eq_some_iff.1 h1).1
  have hl := (check_len hc).1
  obtain ⟨p1, p2⟩ := put_other (x := x) h1 h2
  exact ⟨k, o, by omega, by omega, getH_of hc h1 h2, getH_of (put_check h) p1 h2, p2⟩
set_option maxHeartbeats 6400000 in
theorem keeps_walk15 (w : World) (a : Option Addr) (m c : Nat) (rs : List ObR) (h : HIn w ⟨a, m, c⟩ rs) (y : ObR) (hy : WsIn w y.s y.ws) :
    Calls Try.prog 6 #[.slice a m c, .agg #[.string ⟨y.ty.toArray⟩, y.s.v]] w fun e w' => e = .returned (.bool true) ∧ Below w.heap.size w w' := by
  have hln := h.ls.1
  have hwl := hy.ls.1
  have hws := hy.small
  obtain ⟨ty, ⟨xa, xn, xc⟩, ws⟩ := y
  simp only [Sl.v] at hln hwl hws hy ⊢
  obtain ⟨w0, hw0⟩ : ∃ w0, w0 = w.alloc (.cells #[.string ⟨ty.toArray⟩, .slice xa xn xc] 29) := ⟨_, rfl⟩
  have f0 : Below w.heap.size w w0 := by rw [hw0]; exact (Below.refl _ _).alloc (Nat.le_refl _) _
  have KX : Hid (∀ W, Below w0.heap.size w0 W → W.cell? ⟨w.heap.size, 0, none⟩ = some (.string ⟨ty.toArray⟩) ∧ W.cell? ⟨w.heap.size, 1, none⟩ = some (.slice xa xn xc)) := by rw [hw0]; exact stands2 w _ _
  have KWS : Hid (∀ W, Below w0.heap.size w0 W → WsIn W ⟨xa, xn, xc⟩ ws) := fun W f => (hy.below f0).below f
  have KH : Hid (∀ W, Below w.heap.size w W → HIn W ⟨a, m, c⟩ rs) := fun W f => h.below f
  have KB : Hid (∀ {W W2}, Below w.heap.size w W → Below W.heap.size W W2 → Below w.heap.size w W2) := fun f g => f.trans (g.mono f.size)
  have KB2 : Hid (∀ {W W2}, Below w0.heap.size w0 W → Below W.heap.size W W2 → Below w0.heap.size w0 W2) := fun f g => f.trans (g.mono f.size)
  have HWK := hide (works15_any w0)
  have H0 := hide f0
  have HWE := hide hw0
  clear h hy hw0 f0
  generalize hst : (⟨ty.toArray⟩ : ByteArray) = st at *
  go_enter Try.func6, Try.ntmps6
  go_wp2_with fail
  rw [← unhide HWE]
  refine (unhide HWK).mono ?_
  rintro e w1 ⟨rfl, f1⟩
  have H1 := hide (unhide KB (unhide H0) f1)
  have F1 := hide f1
  have HL := hide (light_any w1 ⟨a, m, c⟩ rs (unhide KH _ (unhide H1)))
  clear f1 HWK HWE
  simp only [Sl.v] at HL
  go_wp2_with fail
  refine (unhide HL).mono ?_
  rintro e w2 ⟨rfl, f2⟩
  have H2 := hide (unhide KB (unhide H1) f2)
  have F2 := hide (unhide KB2 (unhide F1) f2)
  obtain ⟨p0, p1⟩ := unhide KX _ (unhide F2)
  clear f2 HL H1 F1
  cases hlb : lightB (rs.map ObR.o) with
  | false =>
    go_wp2
    go_ret
    exact ⟨rfl, unhide H2⟩
  | true =>
  by_cases h3 : 300 < m
  · have h31 : (300 : Int) < (m : Int) := by omega
    go_wp2
    go_ret
    exact ⟨rfl, unhide H2⟩
  have h31 : ¬ (300 : Int) < (m : Int) := by omega
  by_cases h7 : 70000 < xn
  · have h71 : (70000 : Int) < (xn : Int) := by omega
    go_wp2
    go_ret
    exact ⟨rfl, unhide H2⟩
  have h71 : ¬ (70000 : Int) < (xn : Int) := by omega
  have HP := hide (put_any w2 ⟨a, m, c⟩ rs (unhide KH _ (unhide H2)) ty ⟨xa, xn, xc⟩ ws (unhide KWS _ (unhide F2)))
  simp only [Sl.v, hst] at HP
  go_wp2_with fail
  clear p0 p1
  refine (unhide HP).mono ?_
  rintro e w3 hp
  by_cases hpe : putEH (rs.map ObR.o) ⟨ty, ws⟩ = 0
  case neg =>
    obtain ⟨f3, ⟨_, rfl⟩ | ⟨h0, _⟩⟩ := hp
    case inr => exact absurd h0 hpe
    generalize putEH (rs.map ObR.o) ⟨ty, ws⟩ = E at *
    have H3 := hide (unhide KB (unhide H2) f3)
    have hpe1 : (E != 0) = true := by simpa using hpe
    clear f3 HP
    go_wp2
    go_ret
    exact ⟨rfl, unhide H3⟩
  obtain ⟨f3, s4, rs4, hi4, hm4, rfl⟩ := hp.ok hpe
  obtain ⟨a4, n4, c4⟩ := s4
  have H3 := hide (unhide KB (unhide H2) f3)
  have F3 := hide (unhide KB2 (unhide F2) f3)
  have HPE := hide hpe
  obtain ⟨F, hFe⟩ : ∃ F, F = firstH freeO (rs.map ObR.o) := ⟨_, rfl⟩
  rw [← hFe]
  have HFE := hide hFe
  have hF4 : F ≤ 300 := by
    rw [hFe]
    have := firstH_le freeO (rs.map ObR.o)
    rw [List.length_map] at this
    omega
  have HI4 := hide (And.intro hi4 hm4)
  have HG := hide (get_any w3 ⟨a4, n4, c4⟩ rs4 hi4 ((F : Int) + 1) (by unfold fitI; omega))
  rw [hm4] at HG
  simp only [Sl.v] at HG ⊢
  clear hp hpe f3 hi4 hm4 HP hFe
  go_wp2_with fail
  refine (unhide HG).mono ?_
  rintro e w5 hp
  obtain ⟨f5, s9, hws9, rfl⟩ := hp.ok (o := ⟨ty, ws⟩) (by rw [unhide HFE]; exact getH_of (put_check (unhide HPE)) put_get (putEH_in (unhide HPE)).2.1)
  obtain ⟨a9, n9, c9⟩ := s9
  obtain ⟨w5', hw5'⟩ : ∃ w5', w5' = w5.alloc (.cells #[.string ⟨ty.toArray⟩, .slice a9 n9 c9] 29) := ⟨_, rfl⟩
  have f5' : Below w3.heap.size w3 w5' := by rw [hw5']; exact f5.trans (((Below.refl w5.heap.size w5).alloc (Nat.le_refl _) _).mono f5.size)
  have KY : Hid (∀ W, Below w5'.heap.size w5' W → W.cell? ⟨w5.heap.size, 0, none⟩ = some (.string ⟨ty.toArray⟩) ∧ W.cell? ⟨w5.heap.size, 1, none⟩ = some (.slice a9 n9 c9)) := by rw [hw5']; exact stands2 w5 _ _
  have KWY : Hid (∀ W, Below w5'.heap.size w5' W → WsIn W ⟨a9, n9, c9⟩ ws) := by
    rw [hw5']
    exact fun W f => (hws9.below ((Below.refl _ _).alloc (Nat.le_refl _) _)).below f
  have H5 := hide (unhide KB (unhide H3) f5')
  have F5 := hide (unhide KB2 (unhide F3) f5')
  have F45 := hide f5'
  have HWE := hide hw5'
  have HA : HIn (w5'.alloc (.cells #[.string ⟨ty.toArray⟩, .slice xa xn xc] 29)) ⟨some ⟨w5'.heap.size, 0, none⟩, 1, 1⟩ [⟨ty, ⟨xa, xn, xc⟩, ws⟩] := hIn_one (s := ⟨xa, xn, xc⟩) (unhide KWS _ (unhide F5))
  have g5 := (Below.refl w5'.heap.size w5').alloc (Nat.le_refl _) (.cells #[.string ⟨ty.toArray⟩, .slice xa xn xc] 29)
  have HB := hIn_one (ty := ty) (unhide KWY _ g5)
  have hz : (w5'.alloc (.cells #[.string ⟨ty.toArray⟩, .slice xa xn xc] 29)).heap.size = w5'.heap.size + 1 := by simp
  have HSO := hide (SameObjects_same _ _ _ _ _ (HA.below ((Below.refl _ _).alloc (Nat.le_refl _) _)) HB rfl)
  rw [hz] at HSO
  simp only [Sl.v, hst] at HSO KY HWE ⊢
  have HEND : Hid (Below w.heap.size w ((w5'.alloc (.cells #[.string st, .slice xa xn xc] 29)).alloc (.cells #[.string st, .slice a9 n9 c9] 29))) := (((unhide H5).trans (((Below.refl w5'.heap.size w5').alloc (Nat.le_refl _) _).mono (unhide H5).size))).trans (((Below.refl _ _).alloc (Nat.le_refl _) _).mono (by have := (unhide H5).size; simp; omega))
  have g55 : Below w5'.heap.size w5' ((w5'.alloc (.cells #[.string st, .slice xa xn xc] 29)).alloc (.cells #[.string st, .slice a9 n9 c9] 29)) := ((Below.refl _ _).alloc (Nat.le_refl _) _).alloc (by simp) _
  have HG55 := hide g55
  obtain ⟨p0, p1⟩ := unhide KX _ (unhide F5)
  obtain ⟨r0, r1⟩ := unhide KY (w5'.alloc (.cells #[.string st, .slice xa xn xc] 29)) ((Below.refl _ _).alloc (Nat.le_refl _) _)
  clear hp f5 f5' hws9 HG hw5' HA HB hz g5 g55
  go_wp2_with (rw [← unhide HWE])
  refine (unhide HSO).mono ?_
  rintro e w6 ⟨rfl, f6⟩
  have H6 := hide (unhide KB (unhide HEND) f6)
  have F56 := hide ((unhide HG55).trans (f6.mono (unhide HG55).size))
  have F46' := hide ((unhide F45).trans ((unhide F56).mono (unhide F45).size))
  have HCK := hide (check_any w6 ⟨a4, n4, c4⟩ rs4 ((unhide HI4).1.below (unhide F46')))
  rw [(unhide HI4).2, checkE_yes (put_check (unhide HPE))] at HCK
  simp only [Sl.v] at HCK
  clear f6 HSO HWE HEND HG55 p0 p1 r0 r1
  go_wp2_with fail
  refine (unhide HCK).mono ?_
  rintro e w7 ⟨rfl, f7⟩
  have H67 := hide (unhide KB (unhide H6) f7)
  have F47 := hide ((unhide F46').trans (f7.mono (unhide F46').size))
  have F57 := hide (unhide KB2 (unhide F5) ((unhide F56).trans (f7.mono (unhide F56).size)))
  have HLI := hide (live_any w7 ⟨a, m, c⟩ rs (unhide KH _ (unhide H67)) (by omega))
  simp only [Sl.v] at HLI
  clear f7 HCK F46' F56
  go_wp2_with fail
  refine (unhide HLI).mono ?_
  rintro e w8 ⟨v6, rfl, o6, f8⟩
  have H8 := hide (unhide KB (unhide H67) f8)
  have F48 := hide ((unhide F47).trans (f8.mono (unhide F47).size))
  have F58 := hide (unhide KB2 (unhide F57) f8)
  obtain ⟨a6, c6, rfl, _⟩ := o6.form
  obtain ⟨L6, hL6⟩ : ∃ L6, L6 = liveH (rs.map ObR.o) := ⟨_, rfl⟩
  have hLl : L6.length ≤ 300 := by
    have h1 := liveFrom_len (rs.map ObR.o) 0
    rw [List.length_map] at h1
    rw [hL6]
    unfold liveH
    omega
  have KV : Hid (∀ v ∈ L6, ∃ (kk : Nat) (o : Ob), v = (kk : Int) + 1 ∧ kk < 4096 ∧ getH (rs.map ObR.o) ((kk : Int) + 1) = some o ∧ getH (putLH (rs.map ObR.o) ⟨ty, ws⟩) ((kk : Int) + 1) = some o ∧ kk ≠ F) := by
    rw [hL6, unhide HFE]
    exact keeps_pure (unhide HPE)
  have HLV : Hid ((liveH (putLH (rs.map ObR.o) ⟨ty, ws⟩)).length = L6.length + 1) := by
    rw [hL6]
    exact put_live (putEH_in (unhide HPE)).2.1
  rw [← hL6] at o6 ⊢
  have KO : Hid (∀ W, Below w8.heap.size w8 W → Orw i15 3 1 W w7.heap.size (.slice a6 L6.length c6) L6) := fun W f => orw_on o6 f
  have hwl6 : wordsH (rs.map ObR.o) ≤ 65536 := (check_len (putEH_in (unhide HPE)).1).2
  obtain ⟨S, hSe⟩ : ∃ S, S = wordsH (rs.map ObR.o) := ⟨_, rfl⟩
  rw [← hSe] at hwl6
  have HSE := hide hSe
  have HWD : Hid (wordsH (putLH (rs.map ObR.o) ⟨ty, ws⟩) = S + xn) := by
    rw [put_words (putEH_in (unhide HPE)).1, ← hSe]
    simp only
    rw [hwl]
    exact rfl
  have HLN : Hid (rs.length ≤ 300 ∧ rs4.length ≤ 4096) := by
    refine ⟨by omega, ?_⟩
    have h1 := check_len (put_check (unhide HPE))
    rw [← (unhide HI4).2, List.length_map] at h1
    exact h1.1
  clear o6 f8 HLI hL6 hSe
  go_wp2
  go_loopw [11] (fun i wr => ∃ k : Nat, k ≤ L6.length ∧ i = .int .i64 (k : Int) ∧ Below w8.heap.size w8 wr) (fun i _ => L6.length - (intOf i).toNat)
  case atStart => exact ⟨0, by omega, rfl, Below.refl _ _⟩
  case round =>
    obtain ⟨k, hk, rfl, hR⟩ := hrel
    by_cases hlt : k < L6.length
    · have hlt1 : (k : Int) < (L6.length : Int) := by omega
      have hk0 : (0 : Int) ≤ (k : Int) := by omega
      obtain ⟨v, hv⟩ : ∃ v, L6[k]? = some v := ⟨_, List.getElem?_eq_getElem hlt⟩
      obtain ⟨kk, o, hvk, hkk, g1, g2, hne⟩ := unhide KV v (List.mem_of_getElem? hv)
      subst hvk
      have HK := hide (And.intro g1 g2)
      have hne1 : ((kk : Int) + 1 == (F : Int) + 1) = false := by simp; omega
      have hne2 : ¬ (kk : Int) + 1 = (F : Int) + 1 := by omega
      have hne3 : ¬ (kk : Int) = (F : Int) := by omega
      have hHR := unhide KB (unhide H8) hR
      have KC : Hid (∀ W, Below wr.heap.size wr W → ∃ g, a6 = some ⟨g, 0, none⟩ ∧ W.cell? ⟨g, k, none⟩ = some (.int .i64 ((kk : Int) + 1))) := fun W f => by
        obtain ⟨g, cur, e, _, _, _, q⟩ := (unhide KO _ (hR.trans (f.mono hR.size))).blkR rkI15.len (by omega)
        have d0 := q k _ hv 0 _ rfl
        rw [Nat.add_zero, Nat.mul_one] at d0
        exact ⟨g, e, d0⟩
      obtain ⟨g, rfl, d0⟩ := unhide KC wr (Below.refl _ _)
      have KC2 : Hid (∀ W, Below wr.heap.size wr W → W.cell? ⟨g, k, none⟩ = some (.int .i64 ((kk : Int) + 1))) := fun W f => by
        obtain ⟨g', e, d⟩ := unhide KC W f
        injection e with e
        injection e with e
        subst e
        exact d
      have HR := hide hR
      have HHR := hide hHR
      have F4R := hide ((unhide F48).trans (hR.mono (unhide F48).size))
      have HGA := hide (get_any wr ⟨a, m, c⟩ rs (unhide KH _ hHR) ((kk : Int) + 1) (by unfold fitI; omega))
      simp only [Sl.v] at HGA
      clear hv g1 g2 hR hHR KC
      go_wp2_with fail
      clear d0
      refine (unhide HGA).mono ?_
      rintro e u1 hp
      obtain ⟨q1, s1, hs1, rfl⟩ := hp.ok (unhide HK).1
      obtain ⟨oty, ows⟩ := o
      obtain ⟨ba, bn, bc⟩ := s1
      simp only [Sl.v] at hs1 ⊢
      obtain ⟨u1', hu1'⟩ : ∃ u1', u1' = u1.alloc (.cells #[.string ⟨oty.toArray⟩, .slice ba bn bc] 29) := ⟨_, rfl⟩
      have q1' : Below wr.heap.size wr u1' := by rw [hu1']; exact q1.trans (((Below.refl u1.heap.size u1).alloc (Nat.le_refl _) _).mono q1.size)
      have KA : Hid (∀ W, Below u1'.heap.size u1' W → W.cell? ⟨u1.heap.size, 0, none⟩ = some (.string ⟨oty.toArray⟩) ∧ W.cell? ⟨u1.heap.size, 1, none⟩ = some (.slice ba bn bc)) := by rw [hu1']; exact stands2 u1 _ _
      have KWA : Hid (∀ W, Below u1'.heap.size u1' W → WsIn W ⟨ba, bn, bc⟩ ows) := by
        rw [hu1']
        exact fun W f => (hs1.below ((Below.refl _ _).alloc (Nat.le_refl _) _)).below f
      have HU1 := hide (unhide KB (unhide HHR) q1')
      have Q1 := hide q1'
      have f4u := (unhide F4R).trans (q1'.mono (unhide F4R).size)
      have HGB := hide (get_any u1' ⟨a4, n4, c4⟩ rs4 ((unhide HI4).1.below f4u) ((kk : Int) + 1) (by unfold fitI; omega))
      rw [(unhide HI4).2] at HGB
      simp only [Sl.v] at HGB
      have HUE := hide hu1'
      have d0 := unhide KC2 u1' q1'
      clear hp q1 q1' hs1 f4u HGA hu1'
      generalize hot : (⟨oty.toArray⟩ : ByteArray) = ot at *
      go_wp2_with (rw [← unhide HUE])
      clear d0
      refine (unhide HGB).mono ?_
      rintro e u2 hp
      obtain ⟨q2, s2, hs2, rfl⟩ := hp.ok (unhide HK).2
      obtain ⟨ea, en, ec⟩ := s2
      simp only [Sl.v, hot] at hs2 ⊢
      obtain ⟨u2', hu2'⟩ : ∃ u2', u2' = u2.alloc (.cells #[.string ot, .slice ea en ec] 29) := ⟨_, rfl⟩
      have q2' : Below u1'.heap.size u1' u2' := by rw [hu2']; exact q2.trans (((Below.refl u2.heap.size u2).alloc (Nat.le_refl _) _).mono q2.size)
      have KE : Hid (∀ W, Below u2'.heap.size u2' W → W.cell? ⟨u2.heap.size, 0, none⟩ = some (.string ot) ∧ W.cell? ⟨u2.heap.size, 1, none⟩ = some (.slice ea en ec)) := by rw [hu2']; exact stands2 u2 _ _
      have KWE : Hid (∀ W, Below u2'.heap.size u2' W → WsIn W ⟨ea, en, ec⟩ ows) := by
        rw [hu2']
        exact fun W f => (hs2.below ((Below.refl _ _).alloc (Nat.le_refl _) _)).below f
      have HU2 := hide (unhide KB (unhide HU1) q2')
      have HA : HIn (u2'.alloc (.cells #[.string ⟨oty.toArray⟩, .slice ba bn bc] 29)) ⟨some ⟨u2'.heap.size, 0, none⟩, 1, 1⟩ [⟨oty, ⟨ba, bn, bc⟩, ows⟩] := hIn_one (s := ⟨ba, bn, bc⟩) (unhide KWA _ q2')
      have HB := hIn_one (ty := oty) (unhide KWE (u2'.alloc (.cells #[.string ⟨oty.toArray⟩, .slice ba bn bc] 29)) ((Below.refl _ _).alloc (Nat.le_refl _) _))
      have hz : (u2'.alloc (.cells #[.string ⟨oty.toArray⟩, .slice ba bn bc] 29)).heap.size = u2'.heap.size + 1 := by simp
      have HSO := hide (SameObjects_same _ _ _ _ _ (HA.below ((Below.refl _ _).alloc (Nat.le_refl _) _)) HB rfl)
      rw [hz] at HSO
      simp only [Sl.v, hot] at HSO
      have g2 : Below u2'.heap.size u2' ((u2'.alloc (.cells #[.string ot, .slice ba bn bc] 29)).alloc (.cells #[.string ot, .slice ea en ec] 29)) := ((Below.refl _ _).alloc (Nat.le_refl _) _).alloc (by simp) _
      have hru : Below wr.heap.size wr u2' := (unhide Q1).trans (q2'.mono (unhide Q1).size)
      have HRU := hide (hru.trans (g2.mono hru.size))
      obtain ⟨p0, p1⟩ := unhide KA _ q2'
      obtain ⟨r0, r1⟩ := unhide KE (u2'.alloc (.cells #[.string ot, .slice ba bn bc] 29)) ((Below.refl _ _).alloc (Nat.le_refl _) _)
      have d0 := unhide KC2 u2' hru
      have HUE := hide hu2'
      have hw1 : IntKind.i64.wrap ((k : Int) + 1) = (k : Int) + 1 := by rw [IntKind.wrap_i64]; omega
      clear hp q2 q2' hs2 HGB hu2' HA HB hz g2 hru
      go_wp2_with (rw [← unhide HUE])
      refine (unhide HSO).mono ?_
      rintro e u3 ⟨rfl, q3⟩
      have HR3 := hide ((unhide HR).trans (((unhide HRU).trans (q3.mono (unhide HRU).size)).mono (unhide HR).size))
      clear q3 p0 p1 r0 r1 d0 HUE HSO
      go_wp2
      go_roundw
      case rel => exact ⟨k + 1, by omega, by simp, unhide HR3⟩
      case measure => simp [intOf]; omega
    · obtain rfl : k = L6.length := by omega
      have H7 := hide (unhide KB (unhide H8) hR)
      have F46 := hide ((unhide F48).trans (hR.mono (unhide F48).size))
      have F07 := hide (unhide KB2 (unhide F58) hR)
      have hw1 : IntKind.i64.wrap ((L6.length : Int) + 1) = (L6.length : Int) + 1 := by rw [IntKind.wrap_i64]; omega
      have hw2 : IntKind.i64.wrap ((S : Int) + (xn : Int)) = (S : Int) + (xn : Int) := by rw [IntKind.wrap_i64]; omega
      clear hR
      go_wp2
      refine wp_region_tells (fun u v => Below u.heap.size u v) [
        (fun v W => v = .slice a4 n4 c4),
        (fun v W => ∃ (p : Option Addr) (q : Nat), v = .slice p (L6.length + 1) q),
        (fun v W => v = .int .i64 ((L6.length : Int) + 1)),
        (fun v W => v = .slice a6 L6.length c6),
        (fun v W => v = .int .i64 (L6.length : Int)),
        (fun v W => v = .int .i64 ((L6.length : Int) + 1)),
        (fun v W => v = .bool true),
        (fun v W => v = .bool true),
        (fun v W => v = .slice a4 n4 c4),
        (fun v W => v = .int .i64 ((S : Int) + xn)),
        (fun v W => v = .slice a m c),
        (fun v W => v = .int .i64 (S : Int)),
        (fun v W => v = .pointer (some ⟨w.heap.size, 1, none⟩)),
        (fun v W => v = .slice xa xn xc),
        (fun v W => v = .int .i64 (xn : Int)),
        (fun v W => v = .int .i64 ((S : Int) + xn)),
        (fun v W => v = .bool true),
        (fun v W => v = .bool true),
        (fun v W => v = .bool true)] 135
        [[], [(0, some 117)], [(1, some 118)], [], [(3, some 120)], [(4, some 121)], [(2, some 119), (5, some 122)], [(6, some 123)], [(7, some 124)], [(7, some 124), (8, some 125)], [(7, some 124)], [(7, some 124), (10, some 127)], [(7, some 124)], [(7, some 124), (12, some 129)], [(7, some 124), (13, some 130)], [(7, some 124), (11, some 128), (14, some 131)], [(7, some 124), (9, some 126), (15, some 132)], [(7, some 124), (16, some 133)], [(17, some 134)]]
        [(0, some 117), (1, some 118), (2, some 119), (3, some 120), (4, some 121), (5, some 122), (6, some 123), (7, some 124), (8, some 125), (9, some 126), (10, some 127), (11, some 128), (12, some 129), (13, some 130), (14, some 131), (15, some 132), (16, some 133), (17, some 134), (18, some 4)]
        (by kernel_rfl) (by kernel_rfl) rfl (fun _ => Below.refl _ _) (fun _ _ _ h1 h2 => h1.trans (h2.mono h1.size)) ?_ ?_ ?_
      · intro r hr
        simp only [List.mem_cons, List.not_mem_nil, or_false] at hr
        rcases hr with rfl | rfl | rfl | rfl | rfl | rfl | rfl | rfl | rfl | rfl | rfl | rfl | rfl | rfl | rfl | rfl | rfl | rfl | rfl
        · intro v W W2 h f
          exact h
        · intro v W W2 h f
          exact h
        · intro v W W2 h f
          exact h
        · intro v W W2 h f
          exact h
        · intro v W W2 h f
          exact h
        · intro v W W2 h f
          exact h
        · intro v W W2 h f
          exact h
        · intro v W W2 h f
          exact h
        · intro v W W2 h f
          exact h
        · intro v W W2 h f
          exact h
        · intro v W W2 h f
          exact h
        · intro v W W2 h f
          exact h
        · intro v W W2 h f
          exact h
        · intro v W W2 h f
          exact h
        · intro v W W2 h f
          exact h
        · intro v W W2 h f
          exact h
        · intro v W W2 h f
          exact h
        · intro v W W2 h f
          exact h
        · intro v W W2 h f
          exact h
      · refine ⟨?_, ?_, ?_, ?_, ?_, ?_, ?_, ?_, ?_, ?_, ?_, ?_, ?_, ?_, ?_, ?_, ?_, ?_, ?_, trivial⟩
        · intro W hG
          have HG : Below wr.heap.size wr W := (Below.refl _ _).drew.trans hG
          simp only [ForDeps, rAt]
          obtain ⟨p0, p1⟩ := unhide KX W (unhide KB2 (unhide F07) HG)
          refine Tells.yields (v := ?_) (by rfl) (Below.refl _ _) ?_ ?_
          rotate_left
          focus ((go_simp) <;> with_reducible rfl)
          exact rfl
        · intro W hG
          have HG : Below wr.heap.size wr W := (Below.refl _ _).drew.trans hG
          simp only [ForDeps, rAt]
          rintro _ rfl
          simp only [Act.put, List.setIfInBounds_toArray, List.set_cons_zero, List.set_cons_succ]
          refine Tells.does (by rfl) (fun K hK => ?_)
          have HC := live_any W ⟨a4, n4, c4⟩ rs4 ((unhide HI4).1.below ((unhide F46).trans (HG.mono (unhide F46).size))) (by have := unhide HLN; omega)
          unfold Sl.v at HC
          simp only at HC
          go_simp
          go_wp2_with (go_at_call 20; refine HC.mono ?_; rintro e W' ⟨v, rfl, o, f⟩)
          obtain ⟨ta, tc, hv, _⟩ := o.form
          have hl := unhide HLV
          rw [(unhide HI4).2, hl] at hv
          subst hv
          exact hK.out _ _ f ⟨ta, tc, rfl⟩
        · intro W hG
          have HG : Below wr.heap.size wr W := (Below.refl _ _).drew.trans hG
          simp only [ForDeps, rAt]
          rintro x1 ⟨p1, q1, rfl⟩
          simp only [Act.put, List.setIfInBounds_toArray, List.set_cons_zero, List.set_cons_succ]
          obtain ⟨p0, p1⟩ := unhide KX W (unhide KB2 (unhide F07) HG)
          refine Tells.yields (v := ?_) (by rfl) (Below.refl _ _) ?_ ?_
          rotate_left
          focus ((go_simp) <;> with_reducible rfl)
          exact rfl
        · intro W hG
          have HG : Below wr.heap.size wr W := (Below.refl _ _).drew.trans hG
          simp only [ForDeps, rAt]
          obtain ⟨p0, p1⟩ := unhide KX W (unhide KB2 (unhide F07) HG)
          refine Tells.yields (v := ?_) (by rfl) (Below.refl _ _) ?_ ?_
          rotate_left
          focus ((go_simp) <;> with_reducible rfl)
          exact rfl
        · intro W hG
          have HG : Below wr.heap.size wr W := (Below.refl _ _).drew.trans hG
          simp only [ForDeps, rAt]
          rintro _ rfl
          simp only [Act.put, List.setIfInBounds_toArray, List.set_cons_zero, List.set_cons_succ]
          obtain ⟨p0, p1⟩ := unhide KX W (unhide KB2 (unhide F07) HG)
          refine Tells.yields (v := ?_) (by rfl) (Below.refl _ _) ?_ ?_
          rotate_left
          focus ((go_simp) <;> with_reducible rfl)
          exact rfl
        · intro W hG
          have HG : Below wr.heap.size wr W := (Below.refl _ _).drew.trans hG
          simp only [ForDeps, rAt]
          rintro _ rfl
          simp only [Act.put, List.setIfInBounds_toArray, List.set_cons_zero, List.set_cons_succ]
          obtain ⟨p0, p1⟩ := unhide KX W (unhide KB2 (unhide F07) HG)
          refine Tells.yields (v := ?_) (by rfl) (Below.refl _ _) ?_ ?_
          rotate_left
          focus ((go_simp) <;> with_reducible rfl)
          exact rfl
        · intro W hG
          have HG : Below wr.heap.size wr W := (Below.refl _ _).drew.trans hG
          simp only [ForDeps, rAt]
          rintro _ rfl _ rfl
          simp only [Act.put, List.setIfInBounds_toArray, List.set_cons_zero, List.set_cons_succ]
          obtain ⟨p0, p1⟩ := unhide KX W (unhide KB2 (unhide F07) HG)
          refine Tells.yields (v := ?_) (by rfl) (Below.refl _ _) ?_ ?_
          rotate_left
          focus ((go_simp) <;> with_reducible rfl)
          exact rfl
        · intro W hG
          have HG : Below wr.heap.size wr W := (Below.refl _ _).drew.trans hG
          simp only [ForDeps, rAt]
          rintro _ rfl
          simp only [Act.put, List.setIfInBounds_toArray, List.set_cons_zero, List.set_cons_succ]
          refine Tells.yields (v := ?_) (by rfl) (Below.refl _ _) ?_ ?_
          rotate_left
          focus ((go_simp) <;> with_reducible rfl)
          exact rfl
        · intro W hG
          have HG : Below wr.heap.size wr W := (Below.refl _ _).drew.trans hG
          simp only [ForDeps, rAt]
          rintro _ rfl
          simp only [Act.put, List.setIfInBounds_toArray, List.set_cons_zero, List.set_cons_succ]
          obtain ⟨p0, p1⟩ := unhide KX W (unhide KB2 (unhide F07) HG)
          refine Tells.yields (v := ?_) (by rfl) (Below.refl _ _) ?_ ?_
          rotate_left
          focus ((go_simp) <;> with_reducible rfl)
          exact rfl
        · intro W hG
          have HG : Below wr.heap.size wr W := (Below.refl _ _).drew.trans hG
          simp only [ForDeps, rAt]
          rintro _ rfl _ rfl
          simp only [Act.put, List.setIfInBounds_toArray, List.set_cons_zero, List.set_cons_succ]
          refine Tells.does (by rfl) (fun K hK => ?_)
          have HC := words_any W ⟨a4, n4, c4⟩ rs4 ((unhide HI4).1.below ((unhide F46).trans (HG.mono (unhide F46).size))) (by have := unhide HLN; omega)
          unfold Sl.v at HC
          rw [(unhide HI4).2, unhide HWD] at HC
          simp only at HC
          go_simp
          go_wp2_with (go_at_call 17; refine HC.mono ?_; rintro e W' ⟨rfl, f⟩)
          exact hK.out _ _ f (by simp)
        · intro W hG
          have HG : Below wr.heap.size wr W := (Below.refl _ _).drew.trans hG
          simp only [ForDeps, rAt]
          rintro _ rfl
          simp only [Act.put, List.setIfInBounds_toArray, List.set_cons_zero, List.set_cons_succ]
          obtain ⟨p0, p1⟩ := unhide KX W (unhide KB2 (unhide F07) HG)
          refine Tells.yields (v := ?_) (by rfl) (Below.refl _ _) ?_ ?_
          rotate_left
          focus ((go_simp) <;> with_reducible rfl)
          exact rfl
        · intro W hG
          have HG : Below wr.heap.size wr W := (Below.refl _ _).drew.trans hG
          simp only [ForDeps, rAt]
          rintro _ rfl _ rfl
          simp only [Act.put, List.setIfInBounds_toArray, List.set_cons_zero, List.set_cons_succ]
          refine Tells.does (by rfl) (fun K hK => ?_)
          have HC := words_any W ⟨a, m, c⟩ rs (unhide KH W (unhide KB (unhide H7) HG)) (by have := unhide HLN; omega)
          unfold Sl.v at HC
          rw [← unhide HSE] at HC
          simp only at HC
          go_simp
          go_wp2_with (go_at_call 17; refine HC.mono ?_; rintro e W' ⟨rfl, f⟩)
          exact hK.out _ _ f rfl
        · intro W hG
          have HG : Below wr.heap.size wr W := (Below.refl _ _).drew.trans hG
          simp only [ForDeps, rAt]
          rintro _ rfl
          simp only [Act.put, List.setIfInBounds_toArray, List.set_cons_zero, List.set_cons_succ]
          obtain ⟨p0, p1⟩ := unhide KX W (unhide KB2 (unhide F07) HG)
          refine Tells.yields (v := ?_) (by rfl) (Below.refl _ _) ?_ ?_
          rotate_left
          focus ((go_simp) <;> with_reducible rfl)
          exact rfl
        · intro W hG
          have HG : Below wr.heap.size wr W := (Below.refl _ _).drew.trans hG
          simp only [ForDeps, rAt]
          rintro _ rfl _ rfl
          simp only [Act.put, List.setIfInBounds_toArray, List.set_cons_zero, List.set_cons_succ]
          obtain ⟨p0, p1⟩ := unhide KX W (unhide KB2 (unhide F07) HG)
          refine Tells.yields (v := ?_) (by rfl) (Below.refl _ _) ?_ ?_
          rotate_left
          focus ((go_simp) <;> with_reducible rfl)
          exact rfl
        · intro W hG
          have HG : Below wr.heap.size wr W := (Below.refl _ _).drew.trans hG
          simp only [ForDeps, rAt]
          rintro _ rfl _ rfl
          simp only [Act.put, List.setIfInBounds_toArray, List.set_cons_zero, List.set_cons_succ]
          obtain ⟨p0, p1⟩ := unhide KX W (unhide KB2 (unhide F07) HG)
          refine Tells.yields (v := ?_) (by rfl) (Below.refl _ _) ?_ ?_
          rotate_left
          focus ((go_simp) <;> with_reducible rfl)
          exact rfl
        · intro W hG
          have HG : Below wr.heap.size wr W := (Below.refl _ _).drew.trans hG
          simp only [ForDeps, rAt]
          rintro _ rfl _ rfl _ rfl
          simp only [Act.put, List.setIfInBounds_toArray, List.set_cons_zero, List.set_cons_succ]
          obtain ⟨p0, p1⟩ := unhide KX W (unhide KB2 (unhide F07) HG)
          refine Tells.yields (v := ?_) (by rfl) (Below.refl _ _) ?_ ?_
          rotate_left
          focus ((go_simp) <;> with_reducible rfl)
          exact rfl
        · intro W hG
          have HG : Below wr.heap.size wr W := (Below.refl _ _).drew.trans hG
          simp only [ForDeps, rAt]
          rintro _ rfl _ rfl _ rfl
          simp only [Act.put, List.setIfInBounds_toArray, List.set_cons_zero, List.set_cons_succ]
          obtain ⟨p0, p1⟩ := unhide KX W (unhide KB2 (unhide F07) HG)
          refine Tells.yields (v := ?_) (by rfl) (Below.refl _ _) ?_ ?_
          rotate_left
          focus ((go_simp) <;> with_reducible rfl)
          exact rfl
        · intro W hG
          have HG : Below wr.heap.size wr W := (Below.refl _ _).drew.trans hG
          simp only [ForDeps, rAt]
          rintro _ rfl _ rfl
          simp only [Act.put, List.setIfInBounds_toArray, List.set_cons_zero, List.set_cons_succ]
          refine Tells.yields (v := ?_) (by rfl) (Below.refl _ _) ?_ ?_
          rotate_left
          focus ((go_simp) <;> with_reducible rfl)
          exact rfl
        · intro W hG
          have HG : Below wr.heap.size wr W := (Below.refl _ _).drew.trans hG
          simp only [ForDeps, rAt]
          rintro _ rfl
          simp only [Act.put, List.setIfInBounds_toArray, List.set_cons_zero, List.set_cons_succ]
          refine Tells.yields (v := ?_) (by rfl) (Below.refl _ _) ?_ ?_
          rotate_left
          focus ((go_simp) <;> with_reducible rfl)
          exact rfl
      · intro W hG
        have HG : Below wr.heap.size wr W := (Below.refl _ _).drew.trans hG
        simp only [ForDeps, rAt]
        intro x0 h0 x1 h1 x2 h2 x3 h3 x4 h4 x5 h5 x6 h6 x7 h7 x8 h8 x9 h9 x10 h10 x11 h11 x12 h12 x13 h13 x14 h14 x15 h15 x16 h16 x17 h17 x18 h18
        simp only [Act.put, List.setIfInBounds_toArray, List.set_cons_zero, List.set_cons_succ]
        subst h18
        have F8 := hide (unhide KB (unhide H7) HG)
        clear hG HG
        go_wp2
        go_ret
        exact ⟨rfl, unhide F8⟩
end Go.Proofs.Ytgiohebbmjgefaa
