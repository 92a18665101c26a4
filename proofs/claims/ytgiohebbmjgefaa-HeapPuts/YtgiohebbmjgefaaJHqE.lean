/- Layer 15: the walk of HeapChecks. -/
import Derived.Test.YtgiohebbmjgefaaJHqC
import Derived.Test.YtgiohebbmjgefaaJHqF
import Derived.Test.YtgiohebbmjgefaaJHpT

namespace Go.Proofs.Ytgiohebbmjgefaa
open Go.RowKit
set_option linter.unusedVariables false
set_option maxRecDepth 100000

theorem getPost.both {w : World} {l : List Ob} {n : Int} {e : Ending} {w' : World} (h : getPost w l n e w') : Below w.heap.size w w' ∧ ∃ s, WsIn w' s ((getH l n).getD zeroO).ws ∧ e = .returned (.tuple #[.agg #[.string ⟨((getH l n).getD zeroO).ty.toArray⟩, s.v], .int .i64 (errO (getH l n))]) := by
  obtain ⟨f, ⟨h1, h2⟩ | ⟨o, s, h1, h2, h3⟩⟩ := h
  · rw [h1]
    exact ⟨f, ⟨Option.none, 0, 0⟩, wsIn_nil _, h2⟩
  · rw [h1]
    exact ⟨f, s, h2, h3⟩
theorem wordPost.both {w : World} {l : List Ob} {n k : Int} {e : Ending} {w' : World} (h : wordPost w l n k e w') : Below w.heap.size w w' ∧ e = .returned (.tuple #[.agg #[.int .i64 ((wordH l n k).getD vl0).kind, .int .i64 ((wordH l n k).getD vl0).n], .int .i64 (errO (wordH l n k))]) := by
  obtain ⟨f, ⟨h1, h2⟩ | ⟨v, h1, h2⟩⟩ := h
  · rw [h1]
    exact ⟨f, h2⟩
  · rw [h1]
    exact ⟨f, h2⟩
theorem light_no {l : List Ob} (h : lightB l = false) : ¬ checkH l = true := fun hc => by
  obtain ⟨h1, h2⟩ := check_len hc
  unfold lightB at h
  rw [decide_eq_true (by omega : l.length ≤ 5000), decide_eq_true (by omega : wordsH l ≤ 70000)] at h
  cases h
set_option maxHeartbeats 8000000 in
theorem checks_walk15 (w : World) (a : Option Addr) (m c : Nat) (rs : List ObR) (h : HIn w ⟨a, m, c⟩ rs) (n k : Int) (hn : fitI n) (hk : fitI k) :
    Calls Try.prog 3 #[.slice a m c, .int .i64 n, .int .i64 k] w fun e w' => e = .returned (.bool true) ∧ Below w.heap.size w w' := by
  have KH : Hid (∀ W, Below w.heap.size w W → HIn W ⟨a, m, c⟩ rs) := fun W f => h.below f
  have KB : Hid (∀ {W W2}, Below w.heap.size w W → Below W.heap.size W W2 → Below w.heap.size w W2) := fun f g => f.trans (g.mono f.size)
  have HF := hide (And.intro hn hk)
  have HL := hide (light_any w ⟨a, m, c⟩ rs h)
  have hln := h.ls.1
  simp only [Sl.v] at HL hln
  clear h hn hk
  go_enter Try.func3, Try.ntmps3
  go_wp2_with fail
  refine (unhide HL).mono ?_
  rintro e w1 ⟨rfl, f1⟩
  have H1 := hide f1
  clear f1 HL
  cases hlb : lightB (rs.map ObR.o) with
  | false =>
    have HC := hide (check_any w1 ⟨a, m, c⟩ rs (unhide KH _ (unhide H1)))
    rw [checkE_no (light_no hlb)] at HC
    simp only [Sl.v] at HC
    go_wp2_with fail
    refine (unhide HC).mono ?_
    rintro e w2 ⟨rfl, f2⟩
    have H2 := hide (unhide KB (unhide H1) f2)
    clear f2 HC
    go_wp2
    go_ret
    exact ⟨rfl, unhide H2⟩
  | true =>
  obtain ⟨hl1, hl2⟩ := light_in hlb
  rw [List.length_map] at hl1
  have HC := hide (copy_any w1 ⟨a, m, c⟩ rs (unhide KH _ (unhide H1)))
  simp only [Sl.v] at HC
  go_wp2_with fail
  refine (unhide HC).mono ?_
  rintro e w2 ⟨g, c2, dn, rfl, hown, hd, f2⟩
  have H2 := hide (unhide KB (unhide H1) f2)
  have hdl : dn.length = rs.length := by simpa using congrArg List.length hd
  have hi2 : HIn w2 ⟨some ⟨g, 0, none⟩, m, c2⟩ dn := HOwn.hin (s := ⟨some ⟨g, 0, none⟩, m, c2⟩) hown (by omega) (by rw [hd]; omega)
  have KO : Hid (∀ W, Below w2.heap.size w2 W → HIn W ⟨some ⟨g, 0, none⟩, m, c2⟩ dn) := fun W f => hi2.below f
  have HD := hide hd
  have HDL := hide (show dn.length ≤ 5000 by omega)
  have HG1 := hide (get_any w2 ⟨some ⟨g, 0, none⟩, m, c2⟩ dn hi2 n (unhide HF).1)
  rw [hd] at HG1
  simp only [Sl.v] at HG1
  clear f2 hown hd hdl hi2 HC
  go_wp2_with fail
  refine (unhide HG1).mono ?_
  rintro e w3 hp
  obtain ⟨f3, s3, hs3, rfl⟩ := hp.both
  obtain ⟨O, hO⟩ : ∃ O, O = (getH (rs.map ObR.o) n).getD zeroO := ⟨_, rfl⟩
  obtain ⟨E1, hE1⟩ : ∃ E1, E1 = errO (getH (rs.map ObR.o) n) := ⟨_, rfl⟩
  rw [← hO] at hs3 ⊢
  rw [← hE1]
  obtain ⟨ty, ws⟩ := O
  obtain ⟨xa, xn, xc⟩ := s3
  simp only [Sl.v] at hs3 ⊢
  obtain ⟨w3', hw3'⟩ : ∃ w3', w3' = w3.alloc (.cells #[.string ⟨ty.toArray⟩, .slice xa xn xc] 29) := ⟨_, rfl⟩
  have f3' : Below w2.heap.size w2 w3' := by rw [hw3']; exact f3.trans (((Below.refl w3.heap.size w3).alloc (Nat.le_refl _) _).mono f3.size)
  have KX : Hid (∀ W, Below w3'.heap.size w3' W → W.cell? ⟨w3.heap.size, 0, none⟩ = some (.string ⟨ty.toArray⟩) ∧ W.cell? ⟨w3.heap.size, 1, none⟩ = some (.slice xa xn xc)) := by rw [hw3']; exact stands2 w3 _ _
  have KWX : Hid (∀ W, Below w3'.heap.size w3' W → WsIn W ⟨xa, xn, xc⟩ ws) := by
    rw [hw3']
    exact fun W f => (hs3.below ((Below.refl _ _).alloc (Nat.le_refl _) _)).below f
  have H3 := hide (unhide KB (unhide H2) f3')
  have F23 := hide f3'
  have HG2 := hide (rget_any w3' ⟨a, m, c⟩ rs (unhide KH _ (unhide H3)) n (unhide HF).1)
  simp only [Sl.v] at HG2
  have HWE := hide hw3'
  have HO := hide (And.intro hO hE1)
  clear f3 f3' hp hs3 hw3' HG1 hO hE1
  generalize hst : (⟨ty.toArray⟩ : ByteArray) = st at *
  go_wp2_with (rw [← unhide HWE])
  refine (unhide HG2).mono ?_
  rintro e w4 hp
  obtain ⟨f4, s4, hs4, rfl⟩ := hp.both
  obtain ⟨hO, hE1⟩ := unhide HO
  rw [← hO] at hs4 ⊢
  rw [← hE1]
  obtain ⟨ya, yn, yc⟩ := s4
  simp only [Sl.v, hst] at hs4 ⊢
  obtain ⟨w4', hw4'⟩ : ∃ w4', w4' = w4.alloc (.cells #[.string st, .slice ya yn yc] 29) := ⟨_, rfl⟩
  have f4' : Below w3'.heap.size w3' w4' := by rw [hw4']; exact f4.trans (((Below.refl w4.heap.size w4).alloc (Nat.le_refl _) _).mono f4.size)
  have KY : Hid (∀ W, Below w4'.heap.size w4' W → W.cell? ⟨w4.heap.size, 0, none⟩ = some (.string st) ∧ W.cell? ⟨w4.heap.size, 1, none⟩ = some (.slice ya yn yc)) := by rw [hw4']; exact stands2 w4 _ _
  have KWY : Hid (∀ W, Below w4'.heap.size w4' W → WsIn W ⟨ya, yn, yc⟩ ws) := by
    rw [hw4']
    exact fun W f => (hs4.below ((Below.refl _ _).alloc (Nat.le_refl _) _)).below f
  have H4 := hide (unhide KB (unhide H3) f4')
  have F24 := hide ((unhide F23).trans (f4'.mono (unhide F23).size))
  have F34 := hide f4'
  have HW1 := hide (word_any w4' ⟨some ⟨g, 0, none⟩, m, c2⟩ dn (unhide KO _ (unhide F24)) n k (unhide HF).1 (unhide HF).2)
  rw [unhide HD] at HW1
  simp only [Sl.v] at HW1
  have HWE4 := hide hw4'
  clear f4 f4' hp hs4 hw4' HG2 hO hE1 HO F23 HWE
  go_wp2_with (rw [← unhide HWE4])
  refine (unhide HW1).mono ?_
  rintro e w5 hp
  obtain ⟨f5, rfl⟩ := hp.both
  obtain ⟨V, hV⟩ : ∃ V, V = (wordH (rs.map ObR.o) n k).getD vl0 := ⟨_, rfl⟩
  obtain ⟨E2, hE2⟩ : ∃ E2, E2 = errO (wordH (rs.map ObR.o) n k) := ⟨_, rfl⟩
  rw [← hV, ← hE2]
  obtain ⟨vk, vn⟩ := V
  simp only
  obtain ⟨w5', hw5'⟩ : ∃ w5', w5' = w5.alloc (.cells #[.int .i64 vk, .int .i64 vn] 33) := ⟨_, rfl⟩
  have f5' : Below w4'.heap.size w4' w5' := by rw [hw5']; exact f5.trans (((Below.refl w5.heap.size w5).alloc (Nat.le_refl _) _).mono f5.size)
  have KV : Hid (∀ W, Below w5'.heap.size w5' W → W.cell? ⟨w5.heap.size, 0, none⟩ = some (.int .i64 vk) ∧ W.cell? ⟨w5.heap.size, 1, none⟩ = some (.int .i64 vn)) := by rw [hw5']; exact stands2 w5 _ _
  have H5 := hide (unhide KB (unhide H4) f5')
  have F25 := hide ((unhide F24).trans (f5'.mono (unhide F24).size))
  have F35 := hide ((unhide F34).trans (f5'.mono (unhide F34).size))
  have F45 := hide f5'
  have HW2 := hide (rword_any w5' ⟨a, m, c⟩ rs (unhide KH _ (unhide H5)) n k (unhide HF).1 (unhide HF).2)
  simp only [Sl.v] at HW2
  have HWE5 := hide hw5'
  have HV := hide (And.intro hV hE2)
  clear f5 f5' hp hw5' HW1 hV hE2 F24 F34 HWE4
  go_wp2_with (rw [← unhide HWE5])
  refine (unhide HW2).mono ?_
  rintro e w6 hp
  obtain ⟨f6, rfl⟩ := hp.both
  obtain ⟨hV, hE2⟩ := unhide HV
  rw [← hV, ← hE2]
  simp only
  obtain ⟨w6', hw6'⟩ : ∃ w6', w6' = w6.alloc (.cells #[.int .i64 vk, .int .i64 vn] 33) := ⟨_, rfl⟩
  have f6' : Below w5'.heap.size w5' w6' := by rw [hw6']; exact f6.trans (((Below.refl w6.heap.size w6).alloc (Nat.le_refl _) _).mono f6.size)
  have KU : Hid (∀ W, Below w6'.heap.size w6' W → W.cell? ⟨w6.heap.size, 0, none⟩ = some (.int .i64 vk) ∧ W.cell? ⟨w6.heap.size, 1, none⟩ = some (.int .i64 vn)) := by rw [hw6']; exact stands2 w6 _ _
  have H6 := hide (unhide KB (unhide H5) f6')
  have F26 := hide ((unhide F25).trans (f6'.mono (unhide F25).size))
  have F36 := hide ((unhide F35).trans (f6'.mono (unhide F35).size))
  have F46 := hide ((unhide F45).trans (f6'.mono (unhide F45).size))
  have F56 := hide f6'
  have HC1 := hide (check_any w6' ⟨some ⟨g, 0, none⟩, m, c2⟩ dn (unhide KO _ (unhide F26)))
  rw [unhide HD] at HC1
  simp only [Sl.v] at HC1
  have HWE6 := hide hw6'
  clear f6 f6' hp hw6' HW2 hV hE2 HV F25 F35 F45 HWE5
  obtain ⟨CE, hCE⟩ : ∃ CE, CE = checkE (rs.map ObR.o) := ⟨_, rfl⟩
  obtain ⟨S, hS⟩ : ∃ S, S = wordsH (rs.map ObR.o) := ⟨_, rfl⟩
  rw [← hCE] at HC1
  have HCE := hide (And.intro hCE hS)
  clear hCE hS
  go_wp2_with (rw [← unhide HWE6])
  refine (unhide HC1).mono ?_
  rintro e w7 ⟨rfl, f7⟩
  have H7 := hide (unhide KB (unhide H6) f7)
  have F67 := hide f7
  have HC2 := hide (rcheck_any w7 ⟨a, m, c⟩ rs (unhide KH _ (unhide H7)))
  rw [← (unhide HCE).1] at HC2
  simp only [Sl.v] at HC2
  clear f7 HC1 HWE6
  go_wp2_with fail
  refine (unhide HC2).mono ?_
  rintro e w8 ⟨rfl, f8⟩
  have H8 := hide (unhide KB (unhide H7) f8)
  have F68 := hide ((unhide F67).trans (f8.mono (unhide F67).size))
  have f28 := (unhide F26).trans ((unhide F68).mono (unhide F26).size)
  have HN1 := hide (words_any w8 ⟨some ⟨g, 0, none⟩, m, c2⟩ dn (unhide KO _ f28) (unhide HDL))
  rw [unhide HD, ← (unhide HCE).2] at HN1
  simp only [Sl.v] at HN1
  clear f8 f28 HC2 F67
  go_wp2_with fail
  refine (unhide HN1).mono ?_
  rintro e w9 ⟨rfl, f9⟩
  have H9 := hide (unhide KB (unhide H8) f9)
  have F69 := hide ((unhide F68).trans (f9.mono (unhide F68).size))
  have HN2 := hide (rwords_any w9 ⟨a, m, c⟩ rs (unhide KH _ (unhide H9)) hl1)
  rw [← (unhide HCE).2] at HN2
  simp only [Sl.v] at HN2
  clear f9 HN1 F68
  go_wp2_with fail
  refine (unhide HN2).mono ?_
  rintro e w10 ⟨rfl, f10⟩
  have H10 := hide (unhide KB (unhide H9) f10)
  have F610 := hide ((unhide F69).trans (f10.mono (unhide F69).size))
  have f210 := (unhide F26).trans ((unhide F610).mono (unhide F26).size)
  have HV1 := hide (live_any w10 ⟨some ⟨g, 0, none⟩, m, c2⟩ dn (unhide KO _ f210) (unhide HDL))
  rw [unhide HD] at HV1
  simp only [Sl.v] at HV1
  clear f10 f210 HN2 F69
  have hLl : (liveH (rs.map ObR.o)).length ≤ 5000 := by
    have h1 := liveFrom_len (rs.map ObR.o) 0
    rw [List.length_map] at h1
    unfold liveH
    omega
  obtain ⟨L6, hL6⟩ : ∃ L6, L6 = liveH (rs.map ObR.o) := ⟨_, rfl⟩
  rw [← hL6] at HV1 hLl
  have HLL := hide hLl
  have HL6 := hide hL6
  clear hLl hL6
  go_wp2_with fail
  refine (unhide HV1).mono ?_
  rintro e w11 ⟨v11, rfl, o11, f11⟩
  obtain ⟨a11, c11, rfl, _⟩ := o11.form
  have H11 := hide (unhide KB (unhide H10) f11)
  have F611 := hide ((unhide F610).trans (f11.mono (unhide F610).size))
  have HL11 := hide (o11.ls rkI15)
  have HV2 := hide (rlive_any w11 ⟨a, m, c⟩ rs (unhide KH _ (unhide H11)) hl1)
  rw [← unhide HL6] at HV2
  simp only [Sl.v] at HV2
  clear o11 f11 HV1 F610
  go_wp2_with fail
  refine (unhide HV2).mono ?_
  rintro e w12 ⟨v12, rfl, o12, f12⟩
  obtain ⟨a12, c12, rfl, _⟩ := o12.form
  have H12 := hide (unhide KB (unhide H11) f12)
  have F612 := hide ((unhide F611).trans (f12.mono (unhide F611).size))
  have HSI := hide (SameInts_15 w12 a11 a12 L6.length c11 c12 L6 ((unhide HL11).below f12) (o12.ls rkI15) (by have := unhide HLL; omega))
  clear o12 f12 HV2 F611 HL11
  go_wp2_with fail
  refine (unhide HSI).mono ?_
  rintro e w13 ⟨rfl, f13⟩
  have H13 := hide (unhide KB (unhide H12) f13)
  have f613 := (unhide F612).trans (f13.mono (unhide F612).size)
  have f313 := (unhide F36).trans (f613.mono (unhide F36).size)
  have f413 := (unhide F46).trans (f613.mono (unhide F46).size)
  have f513 := (unhide F56).trans (f613.mono (unhide F56).size)
  have HA : HIn (w13.alloc (.cells #[.string ⟨ty.toArray⟩, .slice xa xn xc] 29)) ⟨some ⟨w13.heap.size, 0, none⟩, 1, 1⟩ [⟨ty, ⟨xa, xn, xc⟩, ws⟩] := hIn_one (s := ⟨xa, xn, xc⟩) (unhide KWX _ f313)
  have gA := (Below.refl w13.heap.size w13).alloc (Nat.le_refl _) (.cells #[.string ⟨ty.toArray⟩, .slice xa xn xc] 29)
  have HB := hIn_one (ty := ty) (unhide KWY _ (f413.trans (gA.mono f413.size)))
  have hz : (w13.alloc (.cells #[.string ⟨ty.toArray⟩, .slice xa xn xc] 29)).heap.size = w13.heap.size + 1 := by simp
  have HSO := hide (SameObjects_same _ _ _ _ _ (HA.below ((Below.refl _ _).alloc (Nat.le_refl _) _)) HB rfl)
  rw [hz] at HSO
  simp only [Sl.v, hst] at HSO
  have g2 : Below w13.heap.size w13 ((w13.alloc (.cells #[.string st, .slice xa xn xc] 29)).alloc (.cells #[.string st, .slice ya yn yc] 29)) := ((Below.refl _ _).alloc (Nat.le_refl _) _).alloc (by simp) _
  have HEND := hide (unhide KB (unhide H13) g2)
  have F5E := hide (f513.trans (g2.mono f513.size))
  have F6E := hide (f613.trans (g2.mono f613.size))
  obtain ⟨p0, p1⟩ := unhide KX _ f313
  obtain ⟨r0, r1⟩ := unhide KY (w13.alloc (.cells #[.string st, .slice xa xn xc] 29)) (f413.trans (((Below.refl _ _).alloc (Nat.le_refl _) _).mono f413.size))
  clear f13 f613 f313 f413 f513 HA HB gA hz g2 HSI F612
  go_wp2_with fail
  clear p0 p1 r0 r1
  refine (unhide HSO).mono ?_
  rintro e w14 ⟨rfl, f14⟩
  have H14 := hide (unhide KB (unhide HEND) f14)
  have f514 := (unhide F5E).trans (f14.mono (unhide F5E).size)
  have f614 := (unhide F6E).trans (f14.mono (unhide F6E).size)
  have HWK := hide (works15_any w14)
  obtain ⟨p0, p1⟩ := unhide KV _ f514
  obtain ⟨r0, r1⟩ := unhide KU _ f614
  have JE : ∀ W, (binOp .eql 33 (.agg #[.int .i64 vk, .int .i64 vn]) (.agg #[.int .i64 vk, .int .i64 vn])).run Try.prog W = .ok (.bool true) W := fun W => by have := val_cmp W ⟨vk, vn⟩ ⟨vk, vn⟩; rw [decide_eq_true rfl] at this; exact this
  clear f14 f514 f614 HSO HEND F5E F6E
  go_wp2_with fail
  refine (unhide HWK).mono ?_
  rintro e w15 ⟨rfl, f15⟩
  have H15 := hide (unhide KB (unhide H14) f15)
  clear f15 HWK
  go_wp2
  go_ret
  exact ⟨rfl, unhide H15⟩
end Go.Proofs.Ytgiohebbmjgefaa
