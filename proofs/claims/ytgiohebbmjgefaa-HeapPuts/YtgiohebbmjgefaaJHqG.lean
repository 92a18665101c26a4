/- Layer 15: the walk of HeapPuts. -/
import Derived.Test.YtgiohebbmjgefaaJHqE
import Derived.Test.YtgiohebbmjgefaaJHqJ
import Derived.Test.YtgiohebbmjgefaaJHqK

namespace Go.Proofs.Ytgiohebbmjgefaa
open Go.RowKit
set_option linter.unusedVariables false
set_option maxRecDepth 100000

def putLs (l : List Ob) (x : Ob) : List Ob := if putEH l x = 0 then putLH l x else []
def putNr (l : List Ob) (x : Ob) : Int := if putEH l x = 0 then (firstH freeO l : Int) + 1 else 0
theorem putPost.both {w : World} {l : List Ob} {x : Ob} {e : Ending} {w' : World} (h : putPost w l x e w') : Below w.heap.size w w' ∧ ∃ s rs, HIn w' s rs ∧ rs.map ObR.o = putLs l x ∧ e = .returned (.tuple #[s.v, .int .i64 (putNr l x), .int .i64 (putEH l x)]) := by
  obtain ⟨f, ⟨h1, h2⟩ | ⟨h1, s, rs, h2, h3, h4⟩⟩ := h
  · refine ⟨f, ⟨none, 0, 0⟩, [], hIn_nil _, ?_, ?_⟩
    · unfold putLs
      rw [if_neg h1]
      rfl
    · unfold putNr
      rw [if_neg h1]
      exact h2
  · refine ⟨f, s, rs, h2, ?_, ?_⟩
    · unfold putLs
      rw [if_pos h1]
      exact h3
    · unfold putNr
      rw [if_pos h1, h1]
      exact h4
def arrOb (t : List UInt8) (n : Int) : Ob := if arrEH t n = 0 then ⟨t, List.replicate n.toNat ⟨wordKindH t, 0⟩⟩ else zeroO
theorem arrPost.both {w : World} {t : List UInt8} {n : Int} {e : Ending} {w' : World} (h : arrPost w t n e w') : Below w.heap.size w w' ∧ ∃ s, WsIn w' s (arrOb t n).ws ∧ e = .returned (.tuple #[.agg #[.string ⟨(arrOb t n).ty.toArray⟩, s.v], .int .i64 (arrEH t n)]) := by
  obtain ⟨f, ⟨h1, h2⟩ | ⟨h1, s, h2, h3⟩⟩ := h
  · unfold arrOb
    rw [if_neg h1]
    exact ⟨f, ⟨none, 0, 0⟩, wsIn_nil _, h2⟩
  · unfold arrOb
    rw [if_pos h1, h1]
    exact ⟨f, s, h2, h3⟩
theorem arr_min (t : List UInt8) (n : Int) : arrEH t (min n 65537) = arrEH t n ∧ arrOb t (min n 65537) = arrOb t n := by
  have h1 : arrEH t (min n 65537) = arrEH t n := by
    by_cases ht : t = [] ∨ n < 0
    · have ht2 : t = [] ∨ min n 65537 < 0 := ht.imp id (fun h => by omega)
      rw [arrEH_arg ht, arrEH_arg ht2]
    · have ht2 : ¬ (t = [] ∨ min n 65537 < 0) := fun h => ht (h.imp id (fun h => by omega))
      by_cases h2 : 65536 < n
      · rw [arrEH_full ht h2, arrEH_full ht2 (by omega)]
      · rw [arrEH_ok ht h2, arrEH_ok ht2 (by omega)]
  refine ⟨h1, ?_⟩
  unfold arrOb
  rw [h1]
  by_cases h0 : arrEH t n = 0
  · have : min n 65537 = n := by
      unfold arrEH at h0
      split at h0
      · cases h0
      · split at h0
        · cases h0
        · omega
    rw [this]
  · rw [if_neg h0, if_neg h0]
set_option maxHeartbeats 8000000 in
theorem puts_walk15 (w : World) (a : Option Addr) (m c : Nat) (rs : List ObR) (h : HIn w ⟨a, m, c⟩ rs) (y : ObR) (hy : WsIn w y.s y.ws) (t : List UInt8) (n : Int) (hn : fitI n) :
    Calls Try.prog 4 #[.slice a m c, .agg #[.string ⟨y.ty.toArray⟩, y.s.v], .string ⟨t.toArray⟩, .int .i64 n] w fun e w' => e = .returned (.bool true) ∧ Below w.heap.size w w' := by
  have hln := h.ls.1
  have hwl := hy.ls.1
  have hws := hy.small
  obtain ⟨ty, ⟨xa, xn, xc⟩, ws⟩ := y
  simp only [Sl.v] at hln hwl hws hy ⊢
  obtain ⟨w0, hw0⟩ : ∃ w0, w0 = w.alloc (.cells #[.string ⟨ty.toArray⟩, .slice xa xn xc] 29) := ⟨_, rfl⟩
  have f0 : Below w.heap.size w w0 := by rw [hw0]; exact (Below.refl _ _).alloc (Nat.le_refl _) _
  have KX : Hid (∀ W, Below w0.heap.size w0 W → W.cell? ⟨w.heap.size, 0, none⟩ = some (.string ⟨ty.toArray⟩) ∧ W.cell? ⟨w.heap.size, 1, none⟩ = some (.slice xa xn xc)) := by rw [hw0]; exact stands2 w _ _
  have KWS : Hid (∀ W, Below w0.heap.size w0 W → WsIn W ⟨xa, xn, xc⟩ ws) := fun W f => (hy.below f0).below f
  have KH : Hid (∀ W, Below w0.heap.size w0 W → HIn W ⟨a, m, c⟩ rs) := fun W f => (h.below f0).below f
  have KB : Hid (∀ {W W2}, Below w0.heap.size w0 W → Below W.heap.size W W2 → Below w0.heap.size w0 W2) := fun f g => f.trans (g.mono f.size)
  have HEND : Hid (∀ W, Below w0.heap.size w0 W → Below w.heap.size w W) := fun W f => f0.trans (f.mono f0.size)
  have HFN := hide hn
  have HL := hide (light_any w0 ⟨a, m, c⟩ rs (h.below f0))
  have HWE := hide hw0
  have hmin := arr_min t n
  obtain ⟨M, hM⟩ : ∃ M, min n 65537 = M := ⟨_, rfl⟩
  rw [hM] at hmin
  have hMf : fitI M := by
    unfold fitI at hn ⊢
    omega
  have HM := hide (And.intro hmin hMf)
  simp only [Sl.v] at HL
  clear h hy hw0 f0 hn hmin hMf
  generalize hst : (⟨ty.toArray⟩ : ByteArray) = st at *
  generalize hkt : (⟨t.toArray⟩ : ByteArray) = kt at *
  have HKT := hide hkt
  clear hkt
  go_enter Try.func4, Try.ntmps4
  go_wp2_with (rw [← unhide HWE])
  refine (unhide HL).mono ?_
  rintro e w1 ⟨rfl, f1⟩
  have H1 := hide f1
  obtain ⟨p0, p1⟩ := unhide KX _ f1
  clear f1 HL HWE
  cases hlb : lightB (rs.map ObR.o) with
  | false =>
    go_wp2
    go_ret
    exact ⟨rfl, unhide HEND _ (unhide H1)⟩
  | true =>
  by_cases h7 : 70000 < xn
  · have h71 : (70000 : Int) < (xn : Int) := by omega
    go_wp2
    go_ret
    exact ⟨rfl, unhide HEND _ (unhide H1)⟩
  have h71 : ¬ (70000 : Int) < (xn : Int) := by omega
  obtain ⟨hl1, hl2⟩ := light_in hlb
  rw [List.length_map] at hl1
  have HC := hide (copy_any w1 ⟨a, m, c⟩ rs (unhide KH _ (unhide H1)))
  simp only [Sl.v] at HC
  go_wp2_with fail
  clear p0 p1
  refine (unhide HC).mono ?_
  rintro e w2 ⟨g, c2, dn, rfl, hown, hd, f2⟩
  have H2 := hide (unhide KB (unhide H1) f2)
  have hdl : dn.length = rs.length := by simpa using congrArg List.length hd
  have hi2 : HIn w2 ⟨some ⟨g, 0, none⟩, m, c2⟩ dn := HOwn.hin (s := ⟨some ⟨g, 0, none⟩, m, c2⟩) hown (by omega) (by rw [hd]; omega)
  have KO : Hid (∀ W, Below w2.heap.size w2 W → HIn W ⟨some ⟨g, 0, none⟩, m, c2⟩ dn) := fun W f => hi2.below f
  have HD := hide hd
  have HP1 := hide (put_any w2 ⟨some ⟨g, 0, none⟩, m, c2⟩ dn hi2 ty ⟨xa, xn, xc⟩ ws (unhide KWS _ (unhide H2)))
  rw [hd] at HP1
  simp only [Sl.v, hst] at HP1
  obtain ⟨p0, p1⟩ := unhide KX _ (unhide H2)
  clear f2 hown hd hdl hi2 HC
  go_wp2_with fail
  clear p0 p1
  refine (unhide HP1).mono ?_
  rintro e w3 hp
  obtain ⟨f3, s3, rs3, hi3, hm3, rfl⟩ := hp.both
  obtain ⟨a3, n3, c3⟩ := s3
  obtain ⟨NR, hNR⟩ : ∃ NR, NR = putNr (rs.map ObR.o) ⟨ty, ws⟩ := ⟨_, rfl⟩
  obtain ⟨E1, hE1⟩ : ∃ E1, E1 = putEH (rs.map ObR.o) ⟨ty, ws⟩ := ⟨_, rfl⟩
  rw [← hNR, ← hE1]
  have HN := hide (And.intro hNR hE1)
  have H3 := hide (unhide KB (unhide H2) f3)
  have F23 := hide f3
  have KI3 : Hid (∀ W, Below w3.heap.size w3 W → HIn W ⟨a3, n3, c3⟩ rs3) := fun W f => hi3.below f
  have HM3 := hide hm3
  have HP2 := hide (rput_any w3 ⟨a, m, c⟩ rs (unhide KH _ (unhide H3)) ty ⟨xa, xn, xc⟩ ws (unhide KWS _ (unhide H3)))
  simp only [Sl.v, hst] at HP2 ⊢
  obtain ⟨p0, p1⟩ := unhide KX _ (unhide H3)
  clear f3 hp hi3 hm3 HP1 hNR hE1
  go_wp2_with fail
  clear p0 p1
  refine (unhide HP2).mono ?_
  rintro e w4 hp
  obtain ⟨f4, s4, rs4, hi4, hm4, rfl⟩ := hp.both
  obtain ⟨a4, n4, c4⟩ := s4
  rw [← (unhide HN).1, ← (unhide HN).2]
  have H4 := hide (unhide KB (unhide H3) f4)
  have F24 := hide ((unhide F23).trans (f4.mono (unhide F23).size))
  have F34 := hide f4
  have KI4 : Hid (∀ W, Below w4.heap.size w4 W → HIn W ⟨a4, n4, c4⟩ rs4) := fun W f => hi4.below f
  have HE34 := hide ((unhide HM3).trans hm4.symm)
  have HA1 := hide (array_any w4 t n (unhide HFN))
  rw [unhide HKT] at HA1
  simp only [Sl.v] at HA1 ⊢
  clear f4 hp hi4 hm4 HP2 F23 HM3
  go_wp2_with fail
  refine (unhide HA1).mono ?_
  rintro e w5 hp
  obtain ⟨f5, s5, hs5, rfl⟩ := hp.both
  obtain ⟨O, hO⟩ : ∃ O, O = arrOb t n := ⟨_, rfl⟩
  obtain ⟨E2, hE2⟩ : ∃ E2, E2 = arrEH t n := ⟨_, rfl⟩
  rw [← hO] at hs5 ⊢
  rw [← hE2]
  obtain ⟨oty, ows⟩ := O
  obtain ⟨ya, yn, yc⟩ := s5
  simp only [Sl.v] at hs5 ⊢
  generalize hot : (⟨oty.toArray⟩ : ByteArray) = ot at *
  obtain ⟨w5', hw5'⟩ : ∃ w5', w5' = w5.alloc (.cells #[.string ot, .slice ya yn yc] 29) := ⟨_, rfl⟩
  have f5' : Below w4.heap.size w4 w5' := by rw [hw5']; exact f5.trans (((Below.refl w5.heap.size w5).alloc (Nat.le_refl _) _).mono f5.size)
  have KY : Hid (∀ W, Below w5'.heap.size w5' W → W.cell? ⟨w5.heap.size, 0, none⟩ = some (.string ot) ∧ W.cell? ⟨w5.heap.size, 1, none⟩ = some (.slice ya yn yc)) := by rw [hw5']; exact stands2 w5 _ _
  have KWY : Hid (∀ W, Below w5'.heap.size w5' W → WsIn W ⟨ya, yn, yc⟩ ows) := by
    rw [hw5']
    exact fun W f => (hs5.below ((Below.refl _ _).alloc (Nat.le_refl _) _)).below f
  have H5 := hide (unhide KB (unhide H4) f5')
  have F25 := hide ((unhide F24).trans (f5'.mono (unhide F24).size))
  have F35 := hide ((unhide F34).trans (f5'.mono (unhide F34).size))
  have F45 := hide f5'
  have HA2 := hide (rarray_any w5' t M (unhide HM).2)
  rw [unhide HKT] at HA2
  have HWE := hide hw5'
  have HO := hide (And.intro hO hE2)
  clear f5 f5' hp hs5 hw5' HA1 hO hE2 F24 F34
  go_wp2_with (rw [← unhide HWE])
  refine (unhide HA2).mono ?_
  rintro e w6 hp
  obtain ⟨f6, s6, hs6, rfl⟩ := hp.both
  obtain ⟨hO, hE2⟩ := unhide HO
  rw [(unhide HM).1.2, ← hO] at hs6 ⊢
  rw [(unhide HM).1.1, ← hE2]
  obtain ⟨za, zn, zc⟩ := s6
  simp only [Sl.v, hot] at hs6 ⊢
  obtain ⟨w6', hw6'⟩ : ∃ w6', w6' = w6.alloc (.cells #[.string ot, .slice za zn zc] 29) := ⟨_, rfl⟩
  have f6' : Below w5'.heap.size w5' w6' := by rw [hw6']; exact f6.trans (((Below.refl w6.heap.size w6).alloc (Nat.le_refl _) _).mono f6.size)
  have KZ : Hid (∀ W, Below w6'.heap.size w6' W → W.cell? ⟨w6.heap.size, 0, none⟩ = some (.string ot) ∧ W.cell? ⟨w6.heap.size, 1, none⟩ = some (.slice za zn zc)) := by rw [hw6']; exact stands2 w6 _ _
  have KWZ : Hid (∀ W, Below w6'.heap.size w6' W → WsIn W ⟨za, zn, zc⟩ ows) := by
    rw [hw6']
    exact fun W f => (hs6.below ((Below.refl _ _).alloc (Nat.le_refl _) _)).below f
  have H6 := hide (unhide KB (unhide H5) f6')
  have F26 := hide ((unhide F25).trans (f6'.mono (unhide F25).size))
  have f36 := (unhide F35).trans (f6'.mono (unhide F35).size)
  have f46 := (unhide F45).trans (f6'.mono (unhide F45).size)
  have F56 := hide f6'
  have HQ1 := hide (SameObjects_same w6' ⟨a3, n3, c3⟩ ⟨a4, n4, c4⟩ rs3 rs4 (unhide KI3 _ f36) (unhide KI4 _ f46) (unhide HE34))
  simp only [Sl.v] at HQ1
  have HWE6 := hide hw6'
  clear f6 f6' hp hs6 hw6' HA2 f36 f46 F25 F35 F45 hO hE2 HO HWE
  go_wp2_with (rw [← unhide HWE6])
  refine (unhide HQ1).mono ?_
  rintro e w7 ⟨rfl, f7⟩
  have H7 := hide (unhide KB (unhide H6) f7)
  have F27 := hide ((unhide F26).trans (f7.mono (unhide F26).size))
  have f57 := (unhide F56).trans (f7.mono (unhide F56).size)
  have HA : HIn (w7.alloc (.cells #[.string ⟨oty.toArray⟩, .slice ya yn yc] 29)) ⟨some ⟨w7.heap.size, 0, none⟩, 1, 1⟩ [⟨oty, ⟨ya, yn, yc⟩, ows⟩] := hIn_one (s := ⟨ya, yn, yc⟩) (unhide KWY _ f57)
  have gA := (Below.refl w7.heap.size w7).alloc (Nat.le_refl _) (.cells #[.string ⟨oty.toArray⟩, .slice ya yn yc] 29)
  have HB := hIn_one (ty := oty) (unhide KWZ _ (f7.trans (gA.mono f7.size)))
  have hz : (w7.alloc (.cells #[.string ⟨oty.toArray⟩, .slice ya yn yc] 29)).heap.size = w7.heap.size + 1 := by simp
  have HSO := hide (SameObjects_same _ _ _ _ _ (HA.below ((Below.refl _ _).alloc (Nat.le_refl _) _)) HB rfl)
  rw [hz] at HSO
  simp only [Sl.v, hot] at HSO
  have g2 : Below w7.heap.size w7 ((w7.alloc (.cells #[.string ot, .slice ya yn yc] 29)).alloc (.cells #[.string ot, .slice za zn zc] 29)) := ((Below.refl _ _).alloc (Nat.le_refl _) _).alloc (by simp) _
  have H8 := hide (unhide KB (unhide H7) g2)
  have F28 := hide ((unhide F27).trans (g2.mono (unhide F27).size))
  obtain ⟨p0, p1⟩ := unhide KY _ f57
  obtain ⟨r0, r1⟩ := unhide KZ (w7.alloc (.cells #[.string ot, .slice ya yn yc] 29)) (f7.trans (((Below.refl _ _).alloc (Nat.le_refl _) _).mono f7.size))
  clear f7 f57 HA HB gA hz g2 HQ1 HWE6 F26 F56 F27
  go_wp2_with fail
  clear p0 p1 r0 r1
  refine (unhide HSO).mono ?_
  rintro e w9 ⟨rfl, f9⟩
  have H9 := hide (unhide KB (unhide H8) f9)
  have f29 := (unhide F28).trans (f9.mono (unhide F28).size)
  have HQ3 := hide (SameObjects_same w9 ⟨some ⟨g, 0, none⟩, m, c2⟩ ⟨a, m, c⟩ dn rs (unhide KO _ f29) (unhide KH _ (unhide H9)) (unhide HD))
  simp only [Sl.v] at HQ3
  clear f9 f29 HSO F28
  go_wp2_with fail
  refine (unhide HQ3).mono ?_
  rintro e w10 ⟨rfl, f10⟩
  have H10 := hide (unhide KB (unhide H9) f10)
  have HWK := hide (works15_any w10)
  clear f10 HQ3
  go_wp2_with fail
  refine (unhide HWK).mono ?_
  rintro e w11 ⟨rfl, f11⟩
  have H11 := hide (unhide HEND _ (unhide KB (unhide H10) f11))
  clear f11 HWK
  go_wp2
  go_ret
  exact ⟨rfl, unhide H11⟩
end Go.Proofs.Ytgiohebbmjgefaa
