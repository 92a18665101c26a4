/- The landed Elem, and the document's. -/
import Derived.Test.YtjhiflhmefhogaaJKdL
import Derived.Test.YtjhiflhmefhogaaJB

namespace Go.Proofs.Ytjhiflhmefhogaa
open Go.RowKit
set_option linter.unusedVariables false
set_option maxRecDepth 100000

/-- Two boxes: the parameter's, the answer's. -/
theorem two_boxes (w : World) (x y : Value) : ∃ w0, w0 = (w.alloc (.cells #[x, y] 23)).alloc (.cells #[.int .i64 0, .string ⟨#[]⟩] 23) ∧ Bx2c w0 w.heap.size x y ∧ Bx2c w0 (w.heap.size + 1) (.int .i64 0) (.string ⟨#[]⟩) ∧ Below w.heap.size w w0 :=
  ⟨_, rfl, (Bx2c.made _ _ _).keep (bA (Below.refl _ _) _), by
    have := Bx2c.made (w.alloc (.cells #[x, y] 23)) (.int .i64 0) (.string ⟨#[]⟩)
    rw [show (w.alloc (.cells #[x, y] 23)).heap.size = w.heap.size + 1 by simp] at this
    exact this, bA (bA (Below.refl _ _) _) _⟩
set_option maxHeartbeats 1600000 in
theorem yElem_any (w : World) (k : Int) (S : ByteArray) (s : List UInt8) (hS : Str S s) (hs : s.length ≤ 140737488351232) : Calls Try.prog 19 #[.agg #[.int .i64 k, .string S]] w fun e w' => e = .returned (.tuple #[tyV (elemP ⟨k, s⟩).1, .int .i64 (elemP ⟨k, s⟩).2]) ∧ Below w.heap.size w w' := by
  obtain ⟨w0, hw0, hB1, hB2, f0⟩ := two_boxes w (.int .i64 k) (.string S)
  obtain ⟨SS, hSS⟩ : ∃ SS : World → Prop, SS = fun W => Below w0.heap.size w0 W := ⟨_, rfl⟩
  have KI : Hid (∀ W, Below w0.heap.size w0 W → SS W) := fun W f => by rw [hSS]; exact f
  have KE : Hid (∀ W, SS W → Bx2c W w.heap.size (.int .i64 k) (.string S)) := fun W h => by rw [hSS] at h; exact hB1.keep h
  have KR : Hid (∀ W, SS W → Bx2c W (w.heap.size + 1) (.int .i64 0) (.string ⟨#[]⟩)) := fun W h => by rw [hSS] at h; exact hB2.keep h
  have KB : Hid (∀ W, SS W → Below w.heap.size w W) := fun W h => by rw [hSS] at h; exact f0.trans (h.mono f0.size)
  have HW0 := hide hw0
  clear hw0 hB1 hB2 f0 hSS
  have hz := hS.size
  have HA : Hid (∀ W, Calls Try.prog 41 #[.string S] W fun e w' => e = .returned (.bool (arrB s)) ∧ w' = W) := fun W => yarray_any W S s hS
  have HZ : Hid (∀ W, Calls Try.prog 31 #[.string S] W fun e w' => e = .returned (.int .i64 (sizeN s)) ∧ w' = W) := fun W => ysize_any W S s hS (by omega)
  have HS := hide hS
  clear hS
  by_cases h4 : k = 4
  case neg =>
    have h4' : (k == 4) = false := by simpa using h4
    have h4'' : (k != 4) = true := by simpa using h4
    have e : elemP ⟨k, s⟩ = (ty0, 100) := if_neg (fun h => h4 h.1)
    rw [e]
    show Calls _ _ _ _ fun e w' => e = .returned (.tuple #[.agg #[.int .i64 0, .string ⟨#[]⟩], .int .i64 100]) ∧ Below w.heap.size w w'
    clear e
    generalize arrB s = ba at *
    generalize sizeN s = zn at *
    generalize s.length = n at *
    go_enter Try.func19, Try.ntmps19
    go_wp2
    rw [← unhide HW0]
    refine wp_region_seq SS (by kernel_rfl) (by kernel_rfl) (unhide KI _ (Below.drew (Below.refl _ _))) ?_
    repeat (first
      | (refine SeqDo.skips (by rfl) ?_; simp only [Act.put, List.setIfInBounds_toArray, List.set_cons_zero, List.set_cons_succ])
      | (refine SeqDo.yields (v := ?_) (by rfl) ?_ ?_; rotate_left; (focus ((intro W hSW; obtain ⟨q0, q1, q2⟩ := (unhide KE W hSW).cells; go_simp) <;> with_reducible rfl)); simp only [Act.put, List.setIfInBounds_toArray, List.set_cons_zero, List.set_cons_succ])
      | (refine SeqDo.does (v := .bool ba) (by rfl) (fun W hSW KK hKK => ?_) ?_; (focus (go_simp; go_wp2_with (go_at_call 41; refine (unhide HA W).mono ?_; rintro e W' ⟨rfl, hw⟩; rw [hw]); exact hKK.out _ hSW)); simp only [Act.put, List.setIfInBounds_toArray, List.set_cons_zero, List.set_cons_succ])
      | (refine SeqDo.does (v := .int .i64 zn) (by rfl) (fun W hSW KK hKK => ?_) ?_; (focus (go_simp; go_wp2_with (go_at_call 31; refine (unhide HZ W).mono ?_; rintro e W' ⟨rfl, hw⟩; rw [hw]); exact hKK.out _ hSW)); simp only [Act.put, List.setIfInBounds_toArray, List.set_cons_zero, List.set_cons_succ]))
    intro W hSW
    have HBW := hide (unhide KR W hSW)
    have FW := hide (unhide KB W hSW)
    obtain ⟨k0, k1, k2⟩ := (unhide HBW).cells
    obtain ⟨p0, p1, p2⟩ := (unhide KE W hSW).cells
    go_wp2
    exact bodyPost_ret (ty_ret2 Try.results19 _ (w.heap.size + 1) _ _ (ty_set _ _ (unhide HBW).row) _ rfl) rfl ⟨rfl, ty_bel _ _ (unhide FW) (by omega)⟩
  subst h4
  cases ha : arrB s
  · have e : elemP ⟨4, s⟩ = (ty0, 100) := if_neg (fun h => by have := h.2.1; simp only at this; rw [ha] at this; cases this)
    rw [ha] at HA
    obtain ⟨ba, hba⟩ : ∃ ba, ba = false := ⟨_, rfl⟩
    rw [e]
    show Calls _ _ _ _ fun e w' => e = .returned (.tuple #[.agg #[.int .i64 0, .string ⟨#[]⟩], .int .i64 100]) ∧ Below w.heap.size w w'
    clear e
    generalize sizeN s = zn at *
    generalize s.length = n at *
    clear hba
    go_enter Try.func19, Try.ntmps19
    go_wp2
    rw [← unhide HW0]
    refine wp_region_seq SS (by kernel_rfl) (by kernel_rfl) (unhide KI _ (Below.drew (Below.refl _ _))) ?_
    repeat (first
      | (refine SeqDo.skips (by rfl) ?_; simp only [Act.put, List.setIfInBounds_toArray, List.set_cons_zero, List.set_cons_succ])
      | (refine SeqDo.yields (v := ?_) (by rfl) ?_ ?_; rotate_left; (focus ((intro W hSW; obtain ⟨q0, q1, q2⟩ := (unhide KE W hSW).cells; go_simp) <;> with_reducible rfl)); simp only [Act.put, List.setIfInBounds_toArray, List.set_cons_zero, List.set_cons_succ])
      | (refine SeqDo.does (v := .bool false) (by rfl) (fun W hSW KK hKK => ?_) ?_; (focus (go_simp; go_wp2_with (go_at_call 41; refine (unhide HA W).mono ?_; rintro e W' ⟨rfl, hw⟩; rw [hw]); exact hKK.out _ hSW)); simp only [Act.put, List.setIfInBounds_toArray, List.set_cons_zero, List.set_cons_succ])
      | (refine SeqDo.does (v := .int .i64 zn) (by rfl) (fun W hSW KK hKK => ?_) ?_; (focus (go_simp; go_wp2_with (go_at_call 31; refine (unhide HZ W).mono ?_; rintro e W' ⟨rfl, hw⟩; rw [hw]); exact hKK.out _ hSW)); simp only [Act.put, List.setIfInBounds_toArray, List.set_cons_zero, List.set_cons_succ]))
    intro W hSW
    have HBW := hide (unhide KR W hSW)
    have FW := hide (unhide KB W hSW)
    obtain ⟨k0, k1, k2⟩ := (unhide HBW).cells
    obtain ⟨p0, p1, p2⟩ := (unhide KE W hSW).cells
    go_wp2
    exact bodyPost_ret (ty_ret2 Try.results19 _ (w.heap.size + 1) _ _ (ty_set _ _ (unhide HBW).row) _ rfl) rfl ⟨rfl, ty_bel _ _ (unhide FW) (by omega)⟩
  · rw [ha] at HA
    by_cases hzn : sizeN s = s.length
    case neg =>
      have e : elemP ⟨4, s⟩ = (ty0, 100) := if_neg (fun h => hzn h.2.2)
      have z1 : ¬ ((sizeN s : Nat) : Int) = (s.length : Int) := by omega
      rw [e]
      show Calls _ _ _ _ fun e w' => e = .returned (.tuple #[.agg #[.int .i64 0, .string ⟨#[]⟩], .int .i64 100]) ∧ Below w.heap.size w w'
      clear e
      generalize sizeN s = zn at *
      generalize s.length = n at *
      have z2 : ((zn : Int) == (n : Int)) = false := by simp; omega
      have z3 : ((zn : Int) != (n : Int)) = true := by simp; omega
      go_enter Try.func19, Try.ntmps19
      go_wp2
      rw [← unhide HW0]
      refine wp_region_seq SS (by kernel_rfl) (by kernel_rfl) (unhide KI _ (Below.drew (Below.refl _ _))) ?_
      repeat (first
        | (refine SeqDo.skips (by rfl) ?_; simp only [Act.put, List.setIfInBounds_toArray, List.set_cons_zero, List.set_cons_succ])
        | (refine SeqDo.yields (v := ?_) (by rfl) ?_ ?_; rotate_left; (focus ((intro W hSW; obtain ⟨q0, q1, q2⟩ := (unhide KE W hSW).cells; go_simp) <;> with_reducible rfl)); simp only [Act.put, List.setIfInBounds_toArray, List.set_cons_zero, List.set_cons_succ])
        | (refine SeqDo.does (v := .bool true) (by rfl) (fun W hSW KK hKK => ?_) ?_; (focus (go_simp; go_wp2_with (go_at_call 41; refine (unhide HA W).mono ?_; rintro e W' ⟨rfl, hw⟩; rw [hw]); exact hKK.out _ hSW)); simp only [Act.put, List.setIfInBounds_toArray, List.set_cons_zero, List.set_cons_succ])
        | (refine SeqDo.does (v := .int .i64 zn) (by rfl) (fun W hSW KK hKK => ?_) ?_; (focus (go_simp; go_wp2_with (go_at_call 31; refine (unhide HZ W).mono ?_; rintro e W' ⟨rfl, hw⟩; rw [hw]); exact hKK.out _ hSW)); simp only [Act.put, List.setIfInBounds_toArray, List.set_cons_zero, List.set_cons_succ]))
      intro W hSW
      have HBW := hide (unhide KR W hSW)
      have FW := hide (unhide KB W hSW)
      obtain ⟨k0, k1, k2⟩ := (unhide HBW).cells
      obtain ⟨p0, p1, p2⟩ := (unhide KE W hSW).cells
      go_wp2
      exact bodyPost_ret (ty_ret2 Try.results19 _ (w.heap.size + 1) _ _ (ty_set _ _ (unhide HBW).row) _ rfl) rfl ⟨rfl, ty_bel _ _ (unhide FW) (by omega)⟩
    case pos =>
      obtain ⟨t, rfl⟩ := arr_cons ha
      have e : elemP ⟨4, 91 :: t⟩ = if t = [66] then (⟨1, []⟩, 0) else (typeP t, 0) := if_pos ⟨rfl, ha, hzn⟩
      rw [e]
      have HI : Hid (Str (S.extract 1 (91 :: t).length) t) := by
        have := (unhide HS).sub 1 (91 :: t).length
        rw [show ((91 :: t).drop 1).take ((91 :: t).length - 1) = t by simp] at this
        exact this
      by_cases hB : t = [66]
      · rw [if_pos hB]
        subst hB
        rw [hzn] at HZ
        show Calls _ _ _ _ fun e w' => e = .returned (.tuple #[.agg #[.int .i64 1, .string ⟨#[]⟩], .int .i64 0]) ∧ Below w.heap.size w w'
        have hSe : S.extract 1 2 = ⟨#[66]⟩ := (unhide HI).eq
        obtain ⟨zn, hzn2⟩ : ∃ zn : Nat, zn = 2 := ⟨_, rfl⟩
        have hz2 : S.size = 2 := hz
        clear e ha hzn HI hz HS
        replace HZ : Hid (∀ W, Calls Try.prog 31 #[.string S] W fun e w' => e = .returned (.int .i64 2) ∧ w' = W) := HZ
        go_enter Try.func19, Try.ntmps19
        go_wp2
        rw [← unhide HW0]
        refine wp_region_seq SS (by kernel_rfl) (by kernel_rfl) (unhide KI _ (Below.drew (Below.refl _ _))) ?_
        repeat (first
          | (refine SeqDo.skips (by rfl) ?_; simp only [Act.put, List.setIfInBounds_toArray, List.set_cons_zero, List.set_cons_succ])
          | (refine SeqDo.yields (v := ?_) (by rfl) ?_ ?_; rotate_left; (focus ((intro W hSW; obtain ⟨q0, q1, q2⟩ := (unhide KE W hSW).cells; go_simp) <;> with_reducible rfl)); simp only [Act.put, List.setIfInBounds_toArray, List.set_cons_zero, List.set_cons_succ])
          | (refine SeqDo.does (v := .bool true) (by rfl) (fun W hSW KK hKK => ?_) ?_; (focus (go_simp; go_wp2_with (go_at_call 41; refine (unhide HA W).mono ?_; rintro e W' ⟨rfl, hw⟩; rw [hw]); exact hKK.out _ hSW)); simp only [Act.put, List.setIfInBounds_toArray, List.set_cons_zero, List.set_cons_succ])
          | (refine SeqDo.does (v := .int .i64 2) (by rfl) (fun W hSW KK hKK => ?_) ?_; (focus (go_simp; go_wp2_with (go_at_call 31; refine (unhide HZ W).mono ?_; rintro e W' ⟨rfl, hw⟩; rw [hw]); exact hKK.out _ hSW)); simp only [Act.put, List.setIfInBounds_toArray, List.set_cons_zero, List.set_cons_succ]))
        intro W hSW
        have HBW := hide (unhide KR W hSW)
        have FW := hide (unhide KB W hSW)
        obtain ⟨k0, k1, k2⟩ := (unhide HBW).cells
        obtain ⟨p0, p1, p2⟩ := (unhide KE W hSW).cells
        go_wp2
        exact bodyPost_ret (ty_ret2 Try.results19 _ (w.heap.size + 1) _ _ (ty_set _ _ (unhide HBW).row) _ rfl) rfl ⟨rfl, ty_bel _ _ (unhide FW) (by omega)⟩
      · rw [if_neg hB]
        obtain ⟨g1, g2⟩ := arr_inner t hzn hB
        obtain ⟨I, hI⟩ : ∃ I, I = S.extract 1 (91 :: t).length := ⟨_, rfl⟩
        rw [← hI] at HI
        have HT : Hid (∀ W, Calls Try.prog 32 #[.string I] W fun e w' => e = .returned (tyV (typeP t)) ∧ Below W.heap.size W w') := fun W => ytypeOf_any W I t (unhide HI) (by simp at hs; omega) g2 (sizeN_L g1)
        have i1 : ¬ I.toList = [66] := by rw [(unhide HI).list]; exact hB
        have i2 : (I.toList == [66]) = false := by simpa using i1
        generalize typeP t = tp at *
        obtain ⟨tk, tn⟩ := tp
        unfold tyV at *
        simp only at HT ⊢
        generalize (⟨tn.toArray⟩ : ByteArray) = T at *
        rw [hzn] at HZ
        have hI2 := hI.symm
        have hl1 : 1 ≤ (91 :: t).length := by simp
        generalize (91 :: t).length = n at *
        have hl2 : (1 : Int) ≤ n := by omega
        clear e ha hzn hB HI HS hI
        go_enter Try.func19, Try.ntmps19
        go_wp2
        rw [← unhide HW0]
        refine wp_region_seq SS (by kernel_rfl) (by kernel_rfl) (unhide KI _ (Below.drew (Below.refl _ _))) ?_
        repeat (first
          | (refine SeqDo.skips (by rfl) ?_; simp only [Act.put, List.setIfInBounds_toArray, List.set_cons_zero, List.set_cons_succ])
          | (refine SeqDo.yields (v := ?_) (by rfl) ?_ ?_; rotate_left; (focus ((intro W hSW; obtain ⟨q0, q1, q2⟩ := (unhide KE W hSW).cells; go_simp) <;> with_reducible rfl)); simp only [Act.put, List.setIfInBounds_toArray, List.set_cons_zero, List.set_cons_succ])
          | (refine SeqDo.does (v := .bool true) (by rfl) (fun W hSW KK hKK => ?_) ?_; (focus (go_simp; go_wp2_with (go_at_call 41; refine (unhide HA W).mono ?_; rintro e W' ⟨rfl, hw⟩; rw [hw]); exact hKK.out _ hSW)); simp only [Act.put, List.setIfInBounds_toArray, List.set_cons_zero, List.set_cons_succ])
          | (refine SeqDo.does (v := .int .i64 n) (by rfl) (fun W hSW KK hKK => ?_) ?_; (focus (go_simp; go_wp2_with (go_at_call 31; refine (unhide HZ W).mono ?_; rintro e W' ⟨rfl, hw⟩; rw [hw]); exact hKK.out _ hSW)); simp only [Act.put, List.setIfInBounds_toArray, List.set_cons_zero, List.set_cons_succ]))
        intro W hSW
        have HBW := hide (unhide KR W hSW)
        have FW := hide (unhide KB W hSW)
        obtain ⟨k0, k1, k2⟩ := (unhide HBW).cells
        obtain ⟨p0, p1, p2⟩ := (unhide KE W hSW).cells
        go_wp2_with fail
        refine (unhide HT W).mono ?_
        rintro e w1 ⟨rfl, f1⟩
        have HB2 := hide ((unhide HBW).keep f1)
        have F2 := hide ((unhide FW).trans (f1.mono (unhide FW).size))
        clear k0 k1 k2 p0 p1 p2
        obtain ⟨k0, k1, k2⟩ := (unhide HB2).cells
        clear f1
        go_wp2
        exact bodyPost_ret (ty_ret2 Try.results19 _ (w.heap.size + 1) _ _ (ty_set _ _ (unhide HB2).row) _ rfl) rfl ⟨rfl, ty_bel _ _ (unhide F2) (by omega)⟩
end Go.Proofs.Ytjhiflhmefhogaa
