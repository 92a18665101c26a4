/- The document's class: the number of a text, of a class. -/
import Derived.Test.YthhdfokcciibmaaGreatDoorJClA
import Derived.Test.YthhdfokcciibmaaGreatDoorJB
import Derived.Test.YthhdfokcciibmaaGreatDoorJA

namespace Go.Proofs.YthhdfokcciibmaaGreatDoor
open Go.RowKit
set_option linter.unusedVariables false

set_option maxHeartbeats 1600000 in
theorem gutf_any (w : World) (a : Option Addr) (n c : Nat) (l : List Ent) (h : Es w a n l) (s : List UInt8) (hn : n ≤ 140737488351232) :
    Calls Tryz.prog 69 #[.slice a n c, .string ⟨s.toArray⟩] w fun e w' => e = .returned (.int .i64 (utfN l s : Int)) ∧ Below w.heap.size w w' := by
  have hln := h.1
  have HE := hide h
  obtain ⟨x, hx⟩ : ∃ x, x = eUtf s := ⟨_, rfl⟩
  have HX := hide hx
  have hu : utfN l s = findE l x := by rw [hx]; rfl
  rw [hu]
  clear h hx hu
  go_enter Tryz.func69, Tryz.ntmps69
  go_wp2
  go_loopw [5] (fun i wr => ∃ k : Nat, 1 ≤ k ∧ (k ≤ n ∨ k = 1) ∧ i = .int .i64 k ∧ (∀ j, 1 ≤ j → j < k → l[j]? ≠ some x) ∧ Below w.heap.size w wr) (fun i _ => n - (intOf i).toNat)
  case atStart => exact ⟨1, by omega, .inr rfl, rfl, fun j h1 h2 => by omega, Below.refl _ _⟩
  case round =>
    obtain ⟨k, hk1, hk, rfl, hno, hB⟩ := hrel
    have HNO := hide hno
    have HBl := hide hB
    by_cases hlt : k < n
    · have hlt1 : (k : Int) < (n : Int) := by omega
      obtain ⟨b, o, rfl, hE⟩ := ((unhide HE).below hB).2.resolve_left (by omega)
      obtain ⟨y, hy⟩ : ∃ y, l[k]? = some y := ⟨_, List.getElem?_eq_getElem (by omega)⟩
      obtain ⟨c0, c1, c2, c3, c4⟩ := ents_get hE hy
      by_cases hyx : y = x
      · have hys : y = eUtf s := hyx.trans (unhide HX)
        have e7 : (.string ⟨y.text.toArray⟩ : Value) = .string ⟨s.toArray⟩ := by rw [hys]; rfl
        have q0 : y.tag = 1 := by rw [hys]; rfl
        have q2 : y.n = 0 := by rw [hys]; rfl
        have q3 : y.a = 0 := by rw [hys]; rfl
        have q4 : y.b = 0 := by rw [hys]; rfl
        rw [q0] at c0
        rw [e7] at c1
        rw [q2] at c2
        rw [q3] at c3
        rw [q4] at c4
        clear hys e7 q0 q2 q3 q4
        subst hyx
        have e1 : Hid (findE l y = k) := by
          show findE l y = k
          exact first_eq (p := fun i => decide (l[i]? = some y)) hk1 (by omega) (by simpa using hy) (fun j h1 h2 => by simpa using hno j h1 h2)
        clear hno hB hE hy
        go_wp2
        go_ret
        exact ⟨by rw [unhide e1]; rfl, unhide HBl⟩
      · have HCf : ∀ W, (binOp .eql 55 (.agg #[.int .i64 y.tag, .string ⟨y.text.toArray⟩, .int .i64 y.n, .int .i64 y.a, .int .i64 y.b]) (.agg #[.int .i64 1, .string ⟨s.toArray⟩, .int .i64 0, .int .i64 0, .int .i64 0])).run Tryz.prog W = .ok (.bool false) W := fun W => by
          have := ent_cmp W y (eUtf s)
          rw [decide_eq_false (by rw [← unhide HX]; exact hyx)] at this
          exact this
        clear hno hB hE
        have HN2 : Hid (∀ j, 1 ≤ j → j < k + 1 → l[j]? ≠ some x) := fun j h1 h2 => by
          by_cases hjk : j = k
          · subst hjk
            rw [hy]
            exact fun e => hyx (by injection e)
          · exact unhide HNO j h1 (by omega)
        clear hy hyx
        go_wp2
        go_roundw
        case rel => exact ⟨k + 1, by omega, by omega, by go_num, unhide HN2, unhide HBl⟩
        case measure => simp [intOf]; omega
    · have e1 : Hid (findE l x = 0) := by
        show findE l x = 0
        by_cases h0 : findE l x = 0
        · exact h0
        · obtain ⟨h1, h2, h3⟩ := findE_some h0
          exact absurd h3 (hno _ h1 (by omega))
      clear hno hB
      go_wp2
      go_ret
      exact ⟨by rw [unhide e1]; rfl, unhide HBl⟩

/-- A class of a right pool leads to a text. -/
theorem class_leads {l : List Ent} (hc : checkP l = true) {k : Nat} {y : Ent} (hy : l[k]? = some y) (h7 : y.tag = 7) : ∃ ka : Nat, y.a = ka ∧ ∃ z, l[ka]? = some z := by
  have hk := (List.getElem?_eq_some_iff.1 hy).1
  have h := ((checkP_all l).1 hc).2 k hk
  have ha : atE l (k : Int) = y := by rw [atE_nat, hy]; rfl
  have ho : okE l y = true := by
    unfold rightAt at h
    rw [ha] at h
    split at h
    · have h0 := of_decide_eq_true h
      rw [h0] at h7
      exact absurd h7 (by decide)
    · rw [Bool.and_eq_true] at h
      exact h.1
  unfold okE at ho
  simp only [h7] at ho
  simp at ho
  have hin := tagE_in (l := l) (i := y.a) (by rw [ho.1]; decide)
  exact ⟨y.a.toNat, by omega, _, List.getElem?_eq_getElem (by omega)⟩

set_option maxHeartbeats 1600000 in
theorem gclass_any (w : World) (a : Option Addr) (n c : Nat) (l : List Ent) (h : Es w a n l) (hc : checkP l = true) (s : List UInt8) (hn : n ≤ 140737488351232) :
    Calls Tryz.prog 68 #[.slice a n c, .string ⟨s.toArray⟩] w fun e w' => e = .returned (.int .i64 (clsN l s : Int)) ∧ Below w.heap.size w w' := by
  have hln := h.1
  have HE := hide h
  have HCK := hide hc
  obtain ⟨zs, hzs⟩ : ∃ zs : ByteArray, zs = ⟨s.toArray⟩ := ⟨_, rfl⟩
  rw [← hzs]
  have HZ := hide hzs
  clear h hc hzs
  go_enter Tryz.func68, Tryz.ntmps68
  go_wp2
  go_loopw [5] (fun i wr => ∃ k : Nat, 1 ≤ k ∧ (k ≤ n ∨ k = 1) ∧ i = .int .i64 k ∧ (∀ j, 1 ≤ j → j < k → ¬ ((atE l (j : Int)).tag = 7 ∧ (atE l (atE l (j : Int)).a).text = s)) ∧ Below w.heap.size w wr) (fun i _ => n - (intOf i).toNat)
  case atStart => exact ⟨1, by omega, .inr rfl, rfl, fun j h1 h2 => by omega, Below.refl _ _⟩
  case round =>
    obtain ⟨k, hk1, hk, rfl, hno, hB⟩ := hrel
    have HNO := hide hno
    have HBl := hide hB
    by_cases hlt : k < n
    · have hlt1 : (k : Int) < (n : Int) := by omega
      obtain ⟨b, o, rfl, hE⟩ := ((unhide HE).below hB).2.resolve_left (by omega)
      obtain ⟨y, hy⟩ : ∃ y, l[k]? = some y := ⟨_, List.getElem?_eq_getElem (by omega)⟩
      have ha : atE l (k : Int) = y := by rw [atE_nat, hy]; rfl
      obtain ⟨c0, c1, c2, c3, c4⟩ := ents_get hE hy
      have next : ¬ (y.tag = 7 ∧ (atE l y.a).text = s) → Hid (∀ j, 1 ≤ j → j < k + 1 → ¬ ((atE l (j : Int)).tag = 7 ∧ (atE l (atE l (j : Int)).a).text = s)) := fun hq j h1 h2 => by
        by_cases hjk : j = k
        · subst hjk
          rw [ha]
          exact hq
        · exact unhide HNO j h1 (by omega)
      have NX := hide next
      clear next
      by_cases h7 : y.tag = 7
      · obtain ⟨ka, hka, z, hz⟩ := class_leads (unhide HCK) hy h7
        have hkl := (List.getElem?_eq_some_iff.1 hz).1
        have haz : atE l y.a = z := by rw [hka, atE_nat, hz]; rfl
        obtain ⟨d0, d1, d2, d3, d4⟩ := ents_get hE hz
        rw [h7] at c0
        rw [hka] at c3
        have hka1 : (ka : Int) < (n : Int) := by omega
        obtain ⟨zt, hzt⟩ : ∃ zt : ByteArray, zt = ⟨z.text.toArray⟩ := ⟨_, rfl⟩
        rw [← hzt] at d1
        have i1 : zt.toList = zs.toList ↔ z.text = s := by rw [hzt, unhide HZ]; exact str_eq _ _
        have i2 : zt = zs ↔ z.text = s := by rw [hzt, unhide HZ]; simp
        have I1 := hide i1
        have I2 := hide i2
        by_cases hts : z.text = s
        · have e1 : Hid (clsN l s = k) := first_eq (p := fun (i : Nat) => decide ((atE l (i : Int)).tag = 7 ∧ (atE l (atE l (i : Int)).a).text = s)) hk1 (by omega) (by rw [ha, haz]; simp [h7, hts]) (fun j h1 h2 => by simpa using hno j h1 h2)
          have e2 : zt = zs := i2.2 hts
          clear hno hB hE hy ha NX I1 I2 i1 i2 hzt haz hz hka h7 d0 d2 d3 d4 c1 c2 c4 hts
          subst e2
          go_wp2
          go_ret
          exact ⟨by rw [unhide e1]; rfl, unhide HBl⟩
        · have HN2 := unhide NX (fun h => hts (by rw [← haz]; exact h.2))
          have hb : ¬ zt.toList = zs.toList := fun h => hts (i1.1 h)
          have hb2 : (zt.toList == zs.toList) = false := by simpa using hb
          clear hno hB hE hy ha NX I1 I2 i1 i2 hzt haz hz hka h7 d0 d2 d3 d4 c1 c2 c4 hts HNO
          go_wp2
          go_roundw
          case rel => exact ⟨k + 1, by omega, by omega, by go_num, unhide HN2, unhide HBl⟩
          case measure => simp [intOf]; omega
      · have HN2 := unhide NX (fun h => h7 h.1)
        have hb : (y.tag == 7) = false := by simpa using h7
        clear hno hB hE hy ha NX c1 c2 c3 c4 HNO
        go_wp2
        go_roundw
        case rel => exact ⟨k + 1, by omega, by omega, by go_num, unhide HN2, unhide HBl⟩
        case measure => simp [intOf]; omega
    · have e1 : Hid (clsN l s = 0) := by
        show clsN l s = 0
        by_cases h0 : clsN l s = 0
        · exact h0
        · obtain ⟨h1, h2, h3⟩ := clsN_some h0
          exact absurd h3 (hno _ h1 (by omega))
      clear hno hB
      go_wp2
      go_ret
      exact ⟨by rw [unhide e1]; rfl, unhide HBl⟩

end Go.Proofs.YthhdfokcciibmaaGreatDoor
