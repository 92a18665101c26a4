/- Layer 16: objects held against one another, whichever they are. -/
import Derived.Test.YtnnanlniffjnkaaJUaJ
import Derived.Test.YtnnanlniffjnkaaJY0

namespace Go.Proofs.Ytnnanlniffjnkaa
open Go.RowKit
set_option linter.unusedVariables false
set_option maxRecDepth 100000

theorem ty_ne {t u : List UInt8} (h : t ≠ u) : ¬ (⟨t.toArray⟩ : ByteArray).toList = (⟨u.toArray⟩ : ByteArray).toList ∧ ((⟨t.toArray⟩ : ByteArray).toList == (⟨u.toArray⟩ : ByteArray).toList) = false ∧ ¬ (⟨t.toArray⟩ : ByteArray) = ⟨u.toArray⟩ := by
  have e1 := ty_eq t u
  have e2 := ty_eq u t
  refine ⟨by rw [e1, e2]; exact h, by rw [e1, e2]; simpa using h, fun e => h ?_⟩
  rw [← e1, ← e2, e]
theorem bool_is {P : Prop} [Decidable P] {b : Bool} (h : b = true ↔ P) : b = decide P := by
  by_cases hp : P
  · rw [decide_eq_true hp]; exact h.2 hp
  · rw [decide_eq_false hp]
    cases b with
    | false => rfl
    | true => exact absurd (h.1 rfl) hp
set_option maxHeartbeats 1600000 in
theorem SameObjects_any (w : World) (s t : Sl) (l m : List ObR) (hA : HIn w s l) (hB : HIn w t m) :
    Calls Try.prog 16 #[s.v, t.v] w fun e w' => (∃ b, e = .returned (.bool b) ∧ (b = true ↔ l.map ObR.o = m.map ObR.o)) ∧ Below w.heap.size w w' := by
  obtain ⟨a, n, c⟩ := s
  obtain ⟨b, n2, d⟩ := t
  have hs := hA.small
  have hln := hA.ls.1
  have hlm := hB.ls.1
  simp only at hln hlm hs
  unfold Sl.v
  simp only
  by_cases hnn : n = n2
  case neg =>
    have hnm : ¬ (n : Int) = (n2 : Int) := by omega
    have HLF : Hid (¬ l.map ObR.o = m.map ObR.o) := fun e => hnn (by have := congrArg List.length e; simp at this; omega)
    clear hA hB
    go_enter Try.func16, Try.ntmps16
    go_wp2
    go_ret
    exact ⟨⟨_, rfl, by simpa using unhide HLF⟩, Below.refl _ _⟩
  subst hnn
  have hs1 : n ≤ 140737488351232 := by omega
  have HA := hide hA
  have HB := hide hB
  clear hA hB hs
  go_enter Try.func16, Try.ntmps16
  go_wp2
  go_loopw [5] (fun i wr => ∃ k : Nat, k ≤ n ∧ i = .int .i64 k ∧ Below w.heap.size w wr ∧ Hid ((l.map ObR.o).take k = (m.map ObR.o).take k)) (fun i _ => n - (intOf i).toNat)
  case atStart => exact ⟨0, by omega, rfl, Below.refl _ _, rfl⟩
  case round =>
    obtain ⟨k, hk, rfl, hR, HT⟩ := hrel
    by_cases hlt : k < n
    · have hlt1 : (k : Int) < (n : Int) := by omega
      have hk0 : (0 : Int) ≤ (k : Int) := by omega
      obtain ⟨x, hx⟩ : ∃ x, l[k]? = some x := ⟨_, List.getElem?_eq_getElem (by omega)⟩
      obtain ⟨y, hy⟩ : ∃ y, m[k]? = some y := ⟨_, List.getElem?_eq_getElem (by omega)⟩
      have HXO := hide (map_get (f := ObR.o) hx)
      have HYO := hide (map_get (f := ObR.o) hy)
      obtain ⟨b1, o1, h1a, h1⟩ := memb_row (unhide HA) hx
      obtain ⟨b2, o2, h2a, h2⟩ := memb_row (unhide HB) hy
      simp only at h1a h2a
      subst h1a h2a
      have hwx := (unhide HA).each _ (List.mem_of_getElem? hx)
      have hwy := (unhide HB).each _ (List.mem_of_getElem? hy)
      have KC : Hid (∀ W, Below w.heap.size w W → RowAt W b1 (o1 + k * 2) (obc x) ∧ RowAt W b2 (o2 + k * 2) (obc y)) := fun W f => ⟨h1 f, h2 f⟩
      obtain ⟨ty, ⟨xa, xn, xc⟩, ws⟩ := x
      obtain ⟨ty2, ⟨ya, yn, yc⟩, ws2⟩ := y
      have XT : Hid (∀ W, Below w.heap.size w W → Calls Try.prog 21 #[.slice xa xn xc, .slice ya yn yc] W fun e w' => e = .returned (.bool (decide (ws = ws2))) ∧ Below w.heap.size w w') := fun W f => Calls.mono (SameValues_any W ⟨xa, xn, xc⟩ ⟨ya, yn, yc⟩ ws ws2 (hwx.below f) (hwy.below f)) (by rintro e w' ⟨⟨b, rfl, hb⟩, f2⟩; exact ⟨by rw [bool_is hb], f.trans (f2.mono f.size)⟩)
      have KD : Hid (∀ W, Below w.heap.size w W → W.cell? ⟨b1, o1 + k * 2, none⟩ = some (.string ⟨ty.toArray⟩) ∧ W.cell? ⟨b1, o1 + k * 2 + 1, none⟩ = some (.slice xa xn xc) ∧ W.cell? ⟨b2, o2 + k * 2, none⟩ = some (.string ⟨ty2.toArray⟩) ∧ W.cell? ⟨b2, o2 + k * 2 + 1, none⟩ = some (.slice ya yn yc)) := fun W f => ⟨((unhide KC) W f).1.zero, ((unhide KC) W f).1 1 _ rfl, ((unhide KC) W f).2.zero, ((unhide KC) W f).2 1 _ rfl⟩
      have HR := hide hR
      have HNE : Hid (¬ (ty = ty2 ∧ ws = ws2) → ¬ l.map ObR.o = m.map ObR.o) := fun h e => h (by
        have h1 := unhide HXO
        rw [e, unhide HYO] at h1
        injection h1 with h1
        simp only [ObR.o, Ob.mk.injEq] at h1
        exact ⟨h1.1.symm, h1.2.symm⟩)
      clear h1 h2 hx hy hR hwx hwy KC
      by_cases hty : ty = ty2
      · subst hty
        generalize (⟨ty.toArray⟩ : ByteArray) = st at *
        by_cases hws : ws = ws2
        · have HT2 : Hid ((l.map ObR.o).take (k + 1) = (m.map ObR.o).take (k + 1)) := take_same (unhide HT) (unhide HXO) (unhide HYO) (by simp [ObR.o, hws])
          rw [decide_eq_true hws] at XT
          clear hws HXO HYO HNE
          go_wp2
          refine wp_region_seq (fun W => Below w.heap.size w W) (by kernel_rfl) (by kernel_rfl) ((unhide HR).drew) ?_
          repeat (first
            | (refine SeqDo.skips (by rfl) ?_; simp only [Act.put, List.setIfInBounds_toArray, List.set_cons_zero, List.set_cons_succ])
            | (refine SeqDo.yields (v := ?_) (by rfl) ?_ ?_; rotate_left; (focus ((intro W hSW; obtain ⟨c0, c1, d0, d1⟩ := unhide KD W hSW; go_simp) <;> with_reducible rfl)); simp only [Act.put, List.setIfInBounds_toArray, List.set_cons_zero, List.set_cons_succ])
            | (refine SeqDo.does (v := .bool true) (by rfl) (fun W hSW KK hKK => ?_) ?_; (focus (go_simp; go_wp2_with (go_at_call 21; refine (unhide XT _ hSW).mono ?_; rintro e W' ⟨rfl, fJ⟩); exact hKK.out _ fJ)); simp only [Act.put, List.setIfInBounds_toArray, List.set_cons_zero, List.set_cons_succ]))
          intro W hSW
          have HR2 := hide hSW
          clear hSW XT KD HR
          go_wp2
          go_roundw
          case rel => exact ⟨k + 1, by omega, by go_num, unhide HR2, HT2⟩
          case measure => simp [intOf]; omega
        · rw [decide_eq_false hws] at XT
          have HLF : Hid (¬ l.map ObR.o = m.map ObR.o) := unhide HNE (fun h => hws h.2)
          clear hws HXO HYO HNE
          go_wp2
          refine wp_region_seq (fun W => Below w.heap.size w W) (by kernel_rfl) (by kernel_rfl) ((unhide HR).drew) ?_
          repeat (first
            | (refine SeqDo.skips (by rfl) ?_; simp only [Act.put, List.setIfInBounds_toArray, List.set_cons_zero, List.set_cons_succ])
            | (refine SeqDo.yields (v := ?_) (by rfl) ?_ ?_; rotate_left; (focus ((intro W hSW; obtain ⟨c0, c1, d0, d1⟩ := unhide KD W hSW; go_simp) <;> with_reducible rfl)); simp only [Act.put, List.setIfInBounds_toArray, List.set_cons_zero, List.set_cons_succ])
            | (refine SeqDo.does (v := .bool false) (by rfl) (fun W hSW KK hKK => ?_) ?_; (focus (go_simp; go_wp2_with (go_at_call 21; refine (unhide XT _ hSW).mono ?_; rintro e W' ⟨rfl, fJ⟩); exact hKK.out _ fJ)); simp only [Act.put, List.setIfInBounds_toArray, List.set_cons_zero, List.set_cons_succ]))
          intro W hSW
          have HR2 := hide hSW
          clear hSW XT KD HR
          go_wp2
          go_ret
          exact ⟨⟨_, rfl, by simpa using unhide HLF⟩, unhide HR2⟩
      · obtain ⟨t1, t2, t3⟩ := ty_ne hty
        have HLF : Hid (¬ l.map ObR.o = m.map ObR.o) := unhide HNE (fun h => hty h.1)
        clear XT hty HXO HYO HNE
        generalize (⟨ty.toArray⟩ : ByteArray) = st at *
        generalize (⟨ty2.toArray⟩ : ByteArray) = st2 at *
        go_wp2
        refine wp_region_seq (fun W => Below w.heap.size w W) (by kernel_rfl) (by kernel_rfl) ((unhide HR).drew) ?_
        repeat (first
          | (refine SeqDo.skips (by rfl) ?_; simp only [Act.put, List.setIfInBounds_toArray, List.set_cons_zero, List.set_cons_succ])
          | (refine SeqDo.yields (v := ?_) (by rfl) ?_ ?_; rotate_left; (focus ((intro W hSW; obtain ⟨c0, c1, d0, d1⟩ := unhide KD W hSW; go_simp) <;> with_reducible rfl)); simp only [Act.put, List.setIfInBounds_toArray, List.set_cons_zero, List.set_cons_succ]))
        intro W hSW
        have HR2 := hide hSW
        clear hSW KD HR
        go_wp2
        go_ret
        exact ⟨⟨_, rfl, by simpa using unhide HLF⟩, unhide HR2⟩
    · obtain rfl : k = n := by omega
      have HR := hide hR
      have HE : Hid (l.map ObR.o = m.map ObR.o) := by
        have := unhide HT
        rwa [List.take_of_length_le (by rw [List.length_map]; omega), List.take_of_length_le (by rw [List.length_map]; omega)] at this
      clear hR
      go_wp2
      go_ret
      exact ⟨⟨_, rfl, by simpa using unhide HE⟩, unhide HR⟩
end Go.Proofs.Ytnnanlniffjnkaa
