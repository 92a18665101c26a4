/- Layer 16, the landed gc: Same. -/
import Derived.Test.YtnnanlniffjnkaaJUaL

namespace Go.Proofs.Ytnnanlniffjnkaa
open Go.RowKit
set_option linter.unusedVariables false
set_option maxRecDepth 100000

theorem check_fit {l : List Ob} (h : checkE l = 0) : l.length ≤ 4096 ∧ wordsH l ≤ 65536 := check_len (by
  unfold checkE at h
  by_cases hh : checkH l = true
  · exact hh
  · simp [hh] at h)
/-- A canon in memory, as a heap, and values, that came in. -/
theorem canon_in {W : World} {B : Nat} {v u : Value} {dn : List ObR} {l : List Ob} {vs : List Vl} (hc : checkE l = 0) (hv : vs.length * 16 ≤ 140737488351232) (h : HOwn W B v dn) (hs : dn.map ObR.o = canonO l vs) (k : Orw vlc 47 2 W B u (canonV l vs)) : ∃ s t : Sl, v = s.v ∧ u = t.v ∧ HIn W s dn ∧ WsIn W t (canonV l vs) := by
  obtain ⟨h1, h2⟩ := check_fit hc
  have e1 := canonO_len l vs
  have e2 := canonO_words l vs
  rw [← hs] at e1 e2
  rw [List.length_map] at e1
  obtain ⟨s, rfl, hs⟩ := small_own h (by omega) (by omega)
  obtain ⟨t, rfl, ht⟩ := small_vals k (by rw [canonV_len]; exact hv)
  exact ⟨s, t, rfl, rfl, hs, ht⟩
def sameE (l m : List Ob) : Int := if checkE l ≠ 0 then checkE l else checkE m
def SameP (l : List Ob) (a : List Vl) (m : List Ob) (b : List Vl) : Prop := sameE l m = 0 ∧ canonO l a = canonO m b ∧ canonV l a = canonV m b
theorem sameE_zero {l m : List Ob} (h : sameE l m = 0) : checkE l = 0 ∧ checkE m = 0 := by
  unfold sameE at h
  by_cases h1 : checkE l = 0
  · rw [if_neg (fun c => c h1)] at h
    exact ⟨h1, h⟩
  · rw [if_pos h1] at h
    exact absurd h h1
set_option maxHeartbeats 1600000 in
theorem Same_any (w : World) (s t s2 t2 : Sl) (rs : List ObR) (vs : List Vl) (rs2 : List ObR) (vs2 : List Vl) (h : HIn w s rs) (hv : WsIn w t vs) (hfr : ∀ r ∈ rs, VFit r.ws) (hfv : VFit vs) (h2 : HIn w s2 rs2) (hv2 : WsIn w t2 vs2) (hfr2 : ∀ r ∈ rs2, VFit r.ws) (hfv2 : VFit vs2) :
    Calls Try.prog 20 #[s.v, t.v, s2.v, t2.v] w fun e w' => (∃ b, e = .returned (.tuple #[.bool b, .int .i64 (sameE (rs.map ObR.o) (rs2.map ObR.o))]) ∧ (b = true ↔ SameP (rs.map ObR.o) vs (rs2.map ObR.o) vs2)) ∧ Below w.heap.size w w' := by
  have HC := hide (Canon_any w rs h t vs hv hfr hfv)
  have HC2 : Hid (∀ W, Below w.heap.size w W → Calls Try.prog 18 #[s2.v, t2.v] W fun e w' => Below W.heap.size W w' ∧ ((checkE (rs2.map ObR.o) ≠ 0 ∧ e = .returned (.tuple #[.slice none 0 0, .slice none 0 0, .int .i64 (checkE (rs2.map ObR.o))])) ∨
      (checkE (rs2.map ObR.o) = 0 ∧ ∃ v u dn, e = .returned (.tuple #[v, u, .int .i64 0]) ∧ HOwn w' W.heap.size v dn ∧ dn.map ObR.o = canonO (rs2.map ObR.o) vs2 ∧ Orw vlc 47 2 w' W.heap.size u (canonV (rs2.map ObR.o) vs2)))) := fun W f => Canon_any W rs2 (h2.below f) t2 vs2 (hv2.below f) hfr2 hfv2
  have hvl : vs.length * 16 ≤ 140737488351232 := by have := hv.ls.1; have := hv.small; omega
  have hvl2 : vs2.length * 16 ≤ 140737488351232 := by have := hv2.ls.1; have := hv2.small; omega
  obtain ⟨sa, sn, sc⟩ := s
  obtain ⟨ta, tn, tc⟩ := t
  obtain ⟨sa2, sn2, sc2⟩ := s2
  obtain ⟨ta2, tn2, tc2⟩ := t2
  simp only [Sl.v] at HC HC2 ⊢
  clear h hv h2 hv2 hfr hfv hfr2 hfv2
  obtain ⟨ce, hce⟩ : ∃ ce, ce = checkE (rs.map ObR.o) := ⟨_, rfl⟩
  obtain ⟨de, hde⟩ : ∃ de, de = checkE (rs2.map ObR.o) := ⟨_, rfl⟩
  have HCE := hide hce
  have HDE := hide hde
  rw [← hce] at HC
  rw [← hde] at HC2
  clear hce hde
  go_enter Try.func20, Try.ntmps20
  go_wp2_with fail
  refine (unhide HC).mono ?_
  rintro e w1 ⟨f1, ⟨h0, rfl⟩ | ⟨h0, v1, u1, dn1, rfl, o1, s1, k1⟩⟩
  · have F1 := hide f1
    have HS : Hid (sameE (rs.map ObR.o) (rs2.map ObR.o) = ce) := by
      unfold Hid sameE
      rw [← unhide HCE, if_pos h0]
    have HP : Hid (¬ SameP (rs.map ObR.o) vs (rs2.map ObR.o) vs2) := fun hp => h0 (by rw [← unhide HS]; exact hp.1)
    clear f1 HC HC2
    go_wp2
    go_ret2
    exact ⟨⟨false, by rw [unhide HS]; rfl, by simpa using unhide HP⟩, unhide F1⟩
  subst h0
  have F1 := hide f1
  have O1 := hide (And.intro o1 (And.intro s1 k1))
  have HC3 := hide (unhide HC2 w1 f1)
  clear f1 o1 s1 k1 HC HC2
  go_wp2_with fail
  refine (unhide HC3).mono ?_
  rintro e w2 ⟨f2, ⟨h0, rfl⟩ | ⟨h0, v2, u2, dn2, rfl, o2, s2, k2⟩⟩
  · have F2 := hide ((unhide F1).trans (f2.mono (unhide F1).size))
    have HS : Hid (sameE (rs.map ObR.o) (rs2.map ObR.o) = de) := by
      unfold Hid sameE
      rw [← unhide HCE, if_neg (by simp), unhide HDE]
    have HP : Hid (¬ SameP (rs.map ObR.o) vs (rs2.map ObR.o) vs2) := fun hp => h0 (by rw [← unhide HS]; exact hp.1)
    clear f2 HC3 O1
    go_wp2
    go_ret2
    exact ⟨⟨false, by rw [unhide HS]; rfl, by simpa using unhide HP⟩, unhide F2⟩
  subst h0
  have HS : Hid (sameE (rs.map ObR.o) (rs2.map ObR.o) = 0) := by
    unfold Hid sameE
    rw [← unhide HCE, if_neg (by simp), ← unhide HDE]
  have F2 := hide ((unhide F1).trans (f2.mono (unhide F1).size))
  obtain ⟨x1, y1, rfl, rfl, hx1, hy1⟩ := canon_in (unhide HCE).symm hvl ((unhide O1).1.below f2) (unhide O1).2.1 (orw_on (unhide O1).2.2 f2)
  obtain ⟨x2, y2, rfl, rfl, hx2, hy2⟩ := canon_in (unhide HDE).symm hvl2 o2 s2 k2
  have XT := hide (slEqualO_any w2 x1 x2 dn1 dn2 hx1 hx2)
  rw [(unhide O1).2.1, s2] at XT
  have YT : Hid (∀ W, Below w2.heap.size w2 W → Calls Try.prog 40 #[y1.v, y2.v] W fun e w' => (∃ b, e = .returned (.bool b) ∧ (b = true ↔ canonV (rs.map ObR.o) vs = canonV (rs2.map ObR.o) vs2)) ∧ Below W.heap.size W w') := fun W f => slEqualV_any W y1 y2 _ _ (hy1.below f) (hy2.below f)
  have HPP : Hid (SameP (rs.map ObR.o) vs (rs2.map ObR.o) vs2 ↔ (canonO (rs.map ObR.o) vs = canonO (rs2.map ObR.o) vs2 ∧ canonV (rs.map ObR.o) vs = canonV (rs2.map ObR.o) vs2)) := ⟨fun h => h.2, fun h => ⟨unhide HS, h⟩⟩
  clear f2 o2 s2 k2 HC3 O1 hx1 hy1 hx2 hy2
  obtain ⟨xa1, xn1, xc1⟩ := x1
  obtain ⟨xa2, xn2, xc2⟩ := x2
  obtain ⟨ya1, yn1, yc1⟩ := y1
  obtain ⟨ya2, yn2, yc2⟩ := y2
  simp only [Sl.v] at XT YT ⊢
  go_wp2_with fail
  refine (unhide XT).mono ?_
  rintro e w3 ⟨⟨b3, rfl, hb3⟩, f3⟩
  have HB3 := hide hb3
  have HY := hide (unhide YT w3 f3)
  have F3 := hide ((unhide F2).trans (f3.mono (unhide F2).size))
  clear f3 hb3 XT YT
  cases b3 with
  | false =>
    go_wp2
    go_ret2
    refine ⟨⟨false, by rw [unhide HS]; rfl, ?_⟩, unhide F3⟩
    rw [unhide HPP]
    have := unhide HB3
    simp at this ⊢
    exact fun h => absurd h this
  | true =>
    go_wp2_with fail
    refine (unhide HY).mono ?_
    rintro e w4 ⟨⟨b4, rfl, hb4⟩, f4⟩
    have HB4 := hide hb4
    have F4 := hide ((unhide F3).trans (f4.mono (unhide F3).size))
    clear f4 hb4 HY
    go_wp2
    go_ret2
    refine ⟨⟨b4, by rw [unhide HS]; rfl, ?_⟩, unhide F4⟩
    rw [unhide HPP]
    have h3 := (unhide HB3).1 trivial
    have h4 := unhide HB4
    exact ⟨fun h => ⟨h3, h4.1 h⟩, fun h => h4.2 h.2⟩
end Go.Proofs.Ytnnanlniffjnkaa
