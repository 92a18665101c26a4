/- The landed class: copied of methods. -/
import Derived.Test.YtjbodkedipnfoaaDoorJCkX

namespace Go.Proofs.YtjbodkedipnfoaaDoor
open Go.RowKit
set_option linter.unusedVariables false
set_option maxRecDepth 100000

set_option maxHeartbeats 1000000 in
theorem copiedM_any (w : World) (s : Sl) (rs : List MdR) (h : LIn 8 128 mdc (MdIn w) w s rs) :
    Calls Tryd.prog 16 #[s.v, .func (.func 17) #[] #[]] w fun e w' => ∃ v rs', e = .returned v ∧ Orw mdc 36 8 w' w.heap.size v rs' ∧ rs'.map MdR.m = rs.map MdR.m ∧ (∀ r ∈ rs', MdOwn w' w.heap.size r) ∧ Below w.heap.size w w' := by
  obtain ⟨a, n, c⟩ := s
  have hln := h.ls.1
  have hl0 : n ≤ 140737488355328 := by have := h.small; simp only at this; omega
  have HC := hide (slCloneM_any w ⟨a, n, c⟩ rs h.ls h.nil h.small)
  have HE : Hid (∀ x ∈ rs, MdIn w x) := hide h.each
  clear h
  unfold Sl.v at *
  simp only at HC hln ⊢
  go_enter Tryd.func16, Tryd.ntmps16
  go_wp2_with fail
  refine (unhide HC).mono ?_
  rintro e w1 ⟨v1, rfl, o1, f1⟩
  have CI := Cop.start (m := MdR.m) (own := MdOwn) f1 o1
  obtain ⟨a1, c1, rfl, g1⟩ := o1.form
  have HCI := hide CI
  have HG := hide g1
  clear CI o1 f1 HC g1
  go_wp2
  go_loopw [11] (fun i wr => ∃ k : Nat, k ≤ n ∧ i = .int .i64 k ∧ Cop mdc 36 8 MdR.m MdOwn w (.slice a1 rs.length c1) rs k wr) (fun i _ => n - (intOf i).toNat)
  case atStart => exact ⟨0, by omega, rfl, unhide HCI⟩
  case round =>
    obtain ⟨k, hk, rfl, hT⟩ := hrel
    by_cases hlt : k < n
    · have hlt1 : (k : Int) < (n : Int) := by omega
      have hk0 : (0 : Int) ≤ (k : Int) := by omega
      obtain ⟨x, hx1⟩ : ∃ x, rs[k]? = some x := ⟨_, List.getElem?_eq_getElem (by omega)⟩
      obtain ⟨g, cur, rfl, hg, hh, q⟩ := hT.row rkM hx1
      have hbel : Below w.heap.size w wr := by obtain ⟨_, _, _, _, _, hb⟩ := hT; exact hb
      obtain ⟨⟨acc, name, type, ⟨st, lo, by_, hds, mps⟩⟩, ⟨ba, bn, bc⟩, ⟨ha, hn, hc⟩, ⟨ma, mn, mcc⟩, rr⟩ := x
      have d0 := q.zero
      have d1 := q 1 _ rfl
      have d2 := q 2 _ rfl
      have d3 := q 3 _ rfl
      have d4 := q 4 _ rfl
      have d5 := q 5 _ rfl
      have d6 := q 6 _ rfl
      have d7 := q 7 _ rfl
      simp only [Sl.v] at d0 d1 d2 d3 d4 d5 d6 d7
      have HP := hide (copyM_any (wr.alloc (.cells #[.int .i64 acc, .string ⟨name.toArray⟩, .string ⟨type.toArray⟩, .int .i64 st, .int .i64 lo, .slice ba bn bc, .slice ha hn hc, .slice ma mn mcc] 36)) _ (((unhide HE _ (List.mem_of_getElem? hx1)).below hbel).below ((Below.refl _ _).alloc (Nat.le_refl _) _)))
      have HT := hide hT
      have HH := hide hh
      have HX := hide hx1
      simp only [Sl.v] at HP
      clear q hT hh hx1 hbel hg
      go_wp2_with fail
      clear d0 d1 d2 d3 d4 d5 d6 d7
      refine (unhide HP).mono ?_
      rintro e w4 ⟨y, hym, rfl, own4, f4⟩
      have f4' : Below wr.heap.size wr w4 := ((Below.refl _ _).alloc (Nat.le_refl _) _).trans (f4.mono (by simp))
      have hh4 := (f4'.block g (lt_of_heap (unhide HH))).trans (unhide HH)
      obtain ⟨_, _, e9, _, _, q⟩ := (unhide HT).row rkM (unhide HX)
      injection e9 with e9
      injection e9 with e9
      subst e9
      have q4 : RowAt w4 g (k * 8) (mdc _) := fun j u hu => (f4'.cell (p := ⟨g, k * 8 + j, none⟩) (lt_of_heap (unhide HH))).trans (q j u hu)
      have d0 := q4.zero
      have z0 := bx_thaw hh4 (k * 8)
      have d1 := q4 1 _ rfl
      have z1 := bx_thaw hh4 (k * 8 + 1)
      have d2 := q4 2 _ rfl
      have z2 := bx_thaw hh4 (k * 8 + 2)
      have d3 := q4 3 _ rfl
      have z3 := bx_thaw hh4 (k * 8 + 3)
      have d4 := q4 4 _ rfl
      have z4 := bx_thaw hh4 (k * 8 + 4)
      have d5 := q4 5 _ rfl
      have z5 := bx_thaw hh4 (k * 8 + 5)
      have d6 := q4 6 _ rfl
      have z6 := bx_thaw hh4 (k * 8 + 6)
      have d7 := q4 7 _ rfl
      have z7 := bx_thaw hh4 (k * 8 + 7)
      simp only [Sl.v] at d0 d1 d2 d3 d4 d5 d6 d7
      have HPUT := hide ((unhide HT).put rkM mdOwn_keeps (fun _ _ _ _ h hb => h.base hb) (unhide HX) f4' (own4.base (by simp)) hym)
      obtain ⟨ym, ⟨ba2, bn2, bc2⟩, ⟨ha2, hn2, hc2⟩, ⟨ma2, mn2, mc2⟩, rr2⟩ := y
      simp only at hym
      subst hym
      clear q q4 hh4 f4 f4' own4 HP HT HH HX
      simp only [Sl.v, mdc] at HPUT
      go_wp2
      go_roundw
      case rel => exact ⟨k + 1, by omega, by go_num, unhide HPUT⟩
      case measure => simp [intOf]; omega
    · obtain rfl : k = n := by omega
      have HT := hide hT
      clear hT
      go_wp2
      go_ret
      obtain ⟨dn, hd, hm, hown, hr, hb⟩ := unhide HT
      rw [List.take_of_length_le (by omega)] at hm
      rw [List.drop_eq_nil_of_le (by omega), List.append_nil, hln] at hr
      exact ⟨_, dn, rfl, hr, hm, hown, hb⟩

end Go.Proofs.YtjbodkedipnfoaaDoor
