/- The walk of FrameBack. -/
import Derived.Test.YtnkmcndbbapeoaaDoorFrSmall
namespace Go.Proofs.YtnkmcndbbapeoaaDoor
open Go.RowKit
set_option linter.unusedVariables false

theorem gSmall {w W : World} {a : Option Addr} {n cap : Nat} {rs : List Rec} (f : Below w.heap.size w W) (h : RArg w a n cap rs) :
    Calls Tryd.prog 22 #[.slice a n cap] W fun e w' => ∃ q : Bool, e = .returned (.bool q) ∧ (q = true → rising 0 rs ∧ (allL rs).length ≤ 8000) ∧ Below w.heap.size w w' ∧ Below W.heap.size W w' := by
  refine (small_any W a n cap rs (h.below f)).mono ?_
  rintro e w' ⟨rfl, rfl⟩
  exact ⟨smallB rs, rfl, fun h => of_decide_eq_true h, f, Below.refl _ _⟩
theorem scan_whole {rs : List Rec} (h : rising 0 rs) : scanL (allL rs) 0 = (rs, (allL rs).length) := by
  have := scan_all rs 0 [] h
  rw [List.append_nil, scan_nil] at this
  rw [this]
  simp
theorem rising_get {rs : List Rec} {last : Int} {m : Nat} {r : Rec} (h : rising last rs) (hm : rs[m]? = some r) : recOk r := by
  induction rs generalizing last m with
  | nil => simp at hm
  | cons x rs ih =>
    cases m with
    | zero => simp at hm; subst hm; exact h.1
    | succ m => exact ih h.2.2 (by simpa using hm)
theorem rs_take {w : World} {a : Option Addr} {n : Nat} {rs : List Rec} (h : Rs w a n rs) {m : Nat} (hm : m ≤ n) : Rs w a m (rs.take m) := by
  have hl := h.1
  refine ⟨by rw [List.length_take]; omega, ?_⟩
  by_cases h0 : m = 0
  · exact .inl h0
  · obtain ⟨b, o, rfl, hb⟩ := h.2.resolve_left (by omega)
    refine .inr ⟨b, o, rfl, fun ad e j u hu => hb ad e j u ?_⟩
    have e2 : rv rs = rv (rs.take m) ++ rv (rs.drop m) := by rw [← rv_append, List.take_append_drop]
    rw [e2, List.getElem?_append_left (List.getElem?_eq_some_iff.1 hu).1]
    exact hu
theorem arg_take {w : World} {a : Option Addr} {n cap : Nat} {l : List UInt8} (h : Arg w a n cap l) {k : Nat} (hk : k ≤ n) : Arg w a k cap (l.take k) := by
  have hl := h.bs.1
  refine ⟨⟨by rw [List.length_take]; omega, ?_⟩, by have := h.room; omega, h.most, fun e => ?_⟩
  · by_cases h0 : k = 0
    · exact .inl h0
    · obtain ⟨b, o, rfl, hb⟩ := h.bs.2.resolve_left (by omega)
      exact .inr ⟨b, o, rfl, bytes_take hb _⟩
  · have := h.nil e
    exact ⟨by omega, this.2⟩

set_option maxHeartbeats 800000 in
set_option maxRecDepth 100000 in
theorem back_walk {T : World → Prop} (F : Frames T) (w : World) (a : Option Addr) (n cap : Nat) (rs : List Rec) (cut : Int) (hT : T w) (hA : RArg w a n cap rs) :
    Calls Tryd.prog 5 #[.slice a n cap, .int .i64 cut] w fun e w' => e = .returned (.bool true) ∧ Below w.heap.size w w' := by
  have HT := hide hT
  have HA := hide hA
  have H0 := hide (gWorks3 F hT (Below.refl _ _))
  have hmost := hA.most
  have hln := hA.ok.1
  have hroom := hA.room
  have hlid := hA.lid
  clear hT hA
  go_enter Tryd.func5, Tryd.ntmps5
  go_wp2_with fail
  refine (unhide H0).mono ?_
  rintro e w1 ⟨rfl, f1, _⟩
  have H1 := hide (gSmall f1 (unhide HA))
  clear f1 H0
  go_wp2_with fail
  refine (unhide H1).mono ?_
  rintro e w2 ⟨q, rfl, hq, f2, _⟩
  clear H1
  cases q with
  | false =>
    have F2 := hide f2
    clear f2 hq
    go_wp2
    go_ret
    exact ⟨rfl, unhide F2⟩
  | true =>
    obtain ⟨hup, hsz⟩ := hq rfl
    have h12 := allL_len12 rs
    have H2 := gAll F (unhide HT) f2 ((unhide HA).below f2).ok (unhide HA).fit (cap := cap) (by omega)
    rw [rising_ok rs 0 hup, rising_allB hup] at H2
    have H2 := hide H2
    have hsw := scan_whole hup
    have HUP := hide hup
    clear f2 hq hup
    obtain ⟨L, hL⟩ : ∃ L, (allL rs).length = L := ⟨_, rfl⟩
    have hcutk : ∀ k, k ≤ L → ∃ m, m ≤ rs.length ∧ scanL ((allL rs).take k) 0 = (rs.take m, (allL (rs.take m)).length) ∧ (allL (rs.take m)).length ≤ k ∧ (m = rs.length ∨ ∃ r, rs[m]? = some r ∧ k < (allL (rs.take m)).length + (recL r).length) := fun k hk => scan_cut rs 0 k (unhide HUP) (by omega)
    have HCUT := hide hcutk
    rw [hL] at H2 hsz h12 hsw
    clear hcutk
    have hal : (allL rs).length = L := hL
    generalize allL rs = al at *
    go_wp2_with fail
    refine (unhide H2).mono ?_
    rintro e w3 ⟨a3, c3, rfl, A3, f3, _⟩
    have H3 := gScan F (unhide HT) f3 A3 (by omega)
    rw [hsw] at H3
    have H3 := hide H3
    have AA3 := hide A3
    clear A3 f3 H2
    go_wp2_with fail
    refine (unhide H3).mono ?_
    rintro e w4 ⟨a4, c4, rfl, R4, hl4, f4, b4⟩
    have H4 := SameRecords_same w4 a4 a rs.length c4 cap rs R4 (by rw [hln]; exact ((unhide HA).below f4).ok) (by omega)
    rw [hln] at H4
    have H4 := hide H4
    have AA4 := hide ((unhide AA3).below b4)
    have F4 := hide f4
    clear R4 hl4 f4 b4 H3 AA3
    rw [hln]
    go_wp2_with fail
    refine (unhide H4).mono ?_
    rintro e w5 ⟨rfl, f5⟩
    have f5w : Below w.heap.size w w5 := (unhide F4).trans (f5.mono (unhide F4).size)
    have AA5 := hide ((unhide AA4).below f5)
    obtain ⟨M, hM⟩ : ∃ M, L + 1 = M := ⟨_, rfl⟩
    have hM1 : (L : Int) + 1 = (M : Int) := by omega
    have hM2 : 1 ≤ M := by omega
    have hk := among_lt cut M hM2
    have H5 := hide (Among_any w5 cut M hM2 (by omega))
    generalize among cut M = k at *
    have hkL : k ≤ L := by omega
    have F5 := hide f5w
    clear f5 f5w AA4 H4 F4
    go_wp2_with fail
    refine (unhide H5).mono ?_
    rintro e w6 ⟨rfl, rfl⟩
    obtain ⟨m, hm1, hm2, hm3, hm4⟩ := unhide HCUT k hkL
    have hc3 := (unhide AA5).room
    have hc3m := (unhide AA5).most
    have H6 := gScan F (unhide HT) (unhide F5) (arg_take (unhide AA5) hkL) (by omega)
    rw [hm2] at H6
    have htl : (rs.take m).length = m := by rw [List.length_take]; omega
    rw [htl] at H6
    have H6 := hide H6
    clear H5 hm2
    have g1 : (k : Int) ≤ (c3 : Int) := by omega
    generalize hP : (allL (rs.take m)).length = P at *
    go_wp2_with fail
    refine (unhide H6).mono ?_
    rintro e w7 ⟨a7, c7, rfl, R7, hl7, f7, b7⟩
    have hmn : m ≤ n := by omega
    have H7 := hide (SameRecords_same w7 a7 a m c7 cap (rs.take m) R7 (rs_take ((unhide HA).below f7).ok hmn) (by omega))
    have F7 := hide f7
    have g2 : (m : Int) ≤ (n : Int) := by omega
    have g3 : (m : Int) ≤ (cap : Int) := by omega
    have g4 : (P : Int) ≤ (k : Int) := by omega
    clear R7 hl7 f7 b7 H6
    by_cases hmn2 : m = n
    · subst hmn2
      clear hm4
      go_wp2_with fail
      refine (unhide H7).mono ?_
      rintro e w8 ⟨rfl, f8⟩
      have F8 := hide ((unhide F7).trans (f8.mono (unhide F7).size))
      clear f8 H7 F7
      go_wp2
      go_ret
      exact ⟨rfl, unhide F8⟩
    · obtain ⟨r, hr, hrk⟩ := hm4.resolve_left (by omega)
      have g5 : ¬ (m : Int) = (n : Int) := by omega
      have g6 : (m : Int) < (n : Int) := by omega
      have hw := writeL_ok (writeE_ok.2 (rising_get (unhide HUP) hr))
      rw [← hw] at hrk
      obtain ⟨b, o, r', rfl, hr', hfit, _, _⟩ := (unhide HA).get (k := m) (by omega)
      rw [hr] at hr'
      injection hr' with e3
      subst e3
      have K : Hid (∀ W, Below w.heap.size w W → W.cell? ⟨b, o + m * 2, none⟩ = some (.int .i64 r.epoch) ∧ W.cell? ⟨b, o + m * 2 + 1, none⟩ = some (.string ⟨r.data.toArray⟩)) := fun W f => by
        obtain ⟨b', o', r', e', hr', _, q0, q1⟩ := ((unhide HA).below f).get (k := m) (by omega)
        injection e' with e'
        injection e' with e1 e2
        subst e1
        subst e2
        rw [hr] at hr'
        injection hr' with e3
        subst e3
        exact ⟨q0, q1⟩
      have hwl := writeL_len r
      have HRK := hide hrk
      clear hw hm4
      go_wp2_with fail
      refine (unhide H7).mono ?_
      rintro e w8 ⟨rfl, f8⟩
      have f8w : Below w.heap.size w w8 := (unhide F7).trans (f8.mono (unhide F7).size)
      have q0 := (unhide K w8 f8w).1
      have q1 := (unhide K w8 f8w).2
      have H8 := gSize F (unhide HT) f8w hfit
      unfold recV at H8
      have H8 := hide H8
      clear f8 f8w H7 F7 hfit hr hrk
      generalize (writeL r).length = sz at *
      have hrk := unhide HRK
      obtain ⟨Z, hZ⟩ : ∃ Z, P + sz = Z := ⟨_, rfl⟩
      have hZ1 : (P : Int) + (sz : Int) = (Z : Int) := by omega
      have hZ2 : (k : Int) < (Z : Int) := by omega
      clear hZ hrk HRK
      go_wp2_with fail
      refine (unhide H8).mono ?_
      rintro e w9 ⟨rfl, f9, _⟩
      have F9 := hide f9
      clear f9 H8 q0 q1
      go_wp2
      go_ret
      exact ⟨rfl, unhide F9⟩

end Go.Proofs.YtnkmcndbbapeoaaDoor
