/- The landed mayRef, whole. -/
import Derived.Test.YtjhiflhmefhogaaJKsG
import Derived.Test.YtjhiflhmefhogaaJB

namespace Go.Proofs.Ytjhiflhmefhogaa
open Go.RowKit Go.Shelf
set_option linter.unusedVariables false
set_option maxRecDepth 100000

/-- The boxes of mayRef. -/
theorem ref_boxes (w : World) (kx ky : Int) (X Y : ByteArray) : ∃ w0, w0 = ((w.alloc (.cells #[.int .i64 kx, .string X] 23)).alloc (.cells #[.int .i64 ky, .string Y] 23)).alloc (.cells #[.bool false] 4) ∧ Bx2c w0 w.heap.size (.int .i64 kx) (.string X) ∧ Bx2c w0 (w.heap.size + 1) (.int .i64 ky) (.string Y) ∧ w0.heap[w.heap.size + 1 + 1]? = some (.cells #[.bool false] 4 (0, 0)) ∧ Below w.heap.size w w0 := by
  refine ⟨_, rfl, ((Bx2c.made _ _ _).keep (bA (Below.refl _ _) _)).keep (bA (Below.refl _ _) _), ?_, ?_, bA (bA (bA (Below.refl _ _) _) _) _⟩
  · have t := Bx2c.made (w.alloc (.cells #[.int .i64 kx, .string X] 23)) (.int .i64 ky) (.string Y)
    rw [show (w.alloc (.cells #[.int .i64 kx, .string X] 23)).heap.size = w.heap.size + 1 by simp] at t
    exact t.keep (bA (Below.refl _ _) _)
  · have t := heap_alloc_last ((w.alloc (.cells #[.int .i64 kx, .string X] 23)).alloc (.cells #[.int .i64 ky, .string Y] 23)) (.cells #[.bool false] 4)
    rw [show ((w.alloc (.cells #[.int .i64 kx, .string X] 23)).alloc (.cells #[.int .i64 ky, .string Y] 23)).heap.size = w.heap.size + 1 + 1 by simp] at t
    exact t
theorem refP_yes {l : List Nc} {f : Nat} {x y : Ty} (h : y.name = objN) : refP l f x y = true := if_pos h
theorem refP_no {l : List Nc} {f : Nat} {x y : Ty} (h : y.name ≠ objN) (ha : arrB x.name ≠ arrB y.name) : refP l f x y = false := by unfold refP; rw [if_neg h, if_pos ha]
theorem refP_arr {l : List Nc} {f : Nat} {x y : Ty} (h : y.name ≠ objN) (hx : arrB x.name = true) (hy : arrB y.name = true) : refP l f x y = arrP l f x y := by
  unfold refP
  rw [if_neg h, if_neg (by rw [hx, hy]; simp), if_pos hx]
  rfl
theorem refP_cls {l : List Nc} {f : Nat} {x y : Ty} (h : y.name ≠ objN) (hx : arrB x.name = false) (hy : arrB y.name = false) : refP l f x y = decide (y.name ∈ upL l x.name) := by
  unfold refP
  rw [if_neg h, if_neg (by rw [hx, hy]; simp), if_neg (by rw [hx]; decide)]
set_option maxHeartbeats 1600000 in
theorem mayRef_obj (w : World) (v : Value) (X : ByteArray) (kx ky : Int) :
    Calls Try.prog 44 #[v, .agg #[.int .i64 kx, .string X], .agg #[.int .i64 ky, .string ⟨objN.toArray⟩]] w fun e w' => e = .returned (.bool true) ∧ Below w.heap.size w w' := by
  show Calls Try.prog 44 #[v, .agg #[.int .i64 kx, .string X], .agg #[.int .i64 ky, .string ⟨#[79, 98, 106, 101, 99, 116]⟩]] w fun e w' => e = .returned (.bool true) ∧ Below w.heap.size w w'
  go_enter Try.func44, Try.ntmps44
  go_wp2
  have t := heap_alloc_last ((w.alloc (.cells #[.int .i64 kx, .string X] 23)).alloc (.cells #[.int .i64 ky, .string ⟨#[79, 98, 106, 101, 99, 116]⟩] 23)) (.cells #[.bool true] 4)
  rw [show ((w.alloc (.cells #[.int .i64 kx, .string X] 23)).alloc (.cells #[.int .i64 ky, .string ⟨#[79, 98, 106, 101, 99, 116]⟩] 23)).heap.size = w.heap.size + 1 + 1 by simp] at t
  exact bodyPost_ret (bool_ret Try.results44 _ (w.heap.size + 1 + 1) _ t _ rfl) rfl ⟨rfl, bA (bA (bA (Below.refl _ _) _) _) _⟩
set_option maxHeartbeats 3200000 in
theorem mayRef_arr (f : Nat) (hM : ∀ g, g < f → MayOk g) (w : World) (a : Option Addr) (n cap : Nat) (l : List Nc) (hL : Ls 5 ncc w a n l) (hn : n ≤ 40) (X Y : ByteArray) (x y : Ty) (hX : Str X x.name) (hY : Str Y y.name) (hf : x.name.length ≤ f) (hx : x.name.length ≤ 140737488351232) (hy : y.name.length ≤ 140737488351232) (hO : y.name ≠ objN) (hax : arrB x.name = true ∨ arrB y.name = true) :
    Calls Try.prog 44 #[.slice a n cap, .agg #[.int .i64 x.kind, .string X], .agg #[.int .i64 y.kind, .string Y]] w fun e w' => e = .returned (.bool (refP l f x y)) ∧ Below w.heap.size w w' := by
  have o1 : ¬ Y.toList = [79, 98, 106, 101, 99, 116] := by rw [hY.list]; exact hO
  have o2 : (Y.toList == [79, 98, 106, 101, 99, 116]) = false := by simpa using o1
  have HAX : Hid (∀ W, Calls Try.prog 41 #[.string X] W fun e w' => e = .returned (.bool (arrB x.name)) ∧ w' = W) := fun W => yarray_any W X x.name hX
  have HAY : Hid (∀ W, Calls Try.prog 41 #[.string Y] W fun e w' => e = .returned (.bool (arrB y.name)) ∧ w' = W) := fun W => yarray_any W Y y.name hY
  have HMA : Hid (arrB x.name = true → ∀ W, Below w.heap.size w W → Calls Try.prog 51 #[.slice a n cap, .agg #[.int .i64 x.kind, .string X], .agg #[.int .i64 y.kind, .string Y]] W fun e w' => e = .returned (.bool (arrP l f x y)) ∧ Below W.heap.size W w') := fun h W fW => mayArray_any f hM W a n cap l (hL.below fW) hn X Y x y hX hY hf hx hy (by obtain ⟨s, hs⟩ := arr_cons h; rw [hs]; simp)
  obtain ⟨w0, hw0, bx, by_, br, f0⟩ := ref_boxes w x.kind y.kind X Y
  obtain ⟨SS, hSS⟩ : ∃ SS : World → Prop, SS = fun W => Below w0.heap.size w0 W := ⟨_, rfl⟩
  have KI : Hid (∀ W, Below w0.heap.size w0 W → SS W) := fun W f => by rw [hSS]; exact f
  have KE : Hid (∀ W, SS W → Bx2c W w.heap.size (.int .i64 x.kind) (.string X) ∧ Bx2c W (w.heap.size + 1) (.int .i64 y.kind) (.string Y)) := fun W h => by rw [hSS] at h; exact ⟨bx.keep h, by_.keep h⟩
  have KB : Hid (∀ W, SS W → Below w.heap.size w W ∧ W.heap[w.heap.size + 1 + 1]? = some (.cells #[.bool false] 4 (0, 0))) := fun W h => by rw [hSS] at h; exact ⟨f0.trans (h.mono f0.size), (h.block _ (lt_of_heap br)).trans br⟩
  have HW0 := hide hw0
  have HRN : Hid (arrB x.name ≠ arrB y.name → refP l f x y = false) := fun h => refP_no hO h
  have HRA : Hid (arrB x.name = true → arrB y.name = true → refP l f x y = arrP l f x y) := fun h1 h2 => refP_arr hO h1 h2
  clear hw0 hSS bx by_ br f0 hL hX hY hM hO
  generalize refP l f x y = rv at *
  generalize arrP l f x y = av at *
  obtain ⟨xk, xn⟩ := x
  obtain ⟨yk, yn⟩ := y
  simp only at *
  generalize arrB xn = p1 at *
  generalize arrB yn = p2 at *
  go_enter Try.func44, Try.ntmps44
  go_wp2
  rw [← unhide HW0]
  refine wp_region_seq SS (by kernel_rfl) (by kernel_rfl) (unhide KI _ (Below.drew (Below.refl _ _))) ?_
  repeat (first
    | (refine SeqDo.yields (v := ?_) (by rfl) ?_ ?_; rotate_left; (focus ((intro W hSW; obtain ⟨⟨q0, q1, q2⟩, ⟨q3, q4, q5⟩⟩ := And.intro (unhide KE W hSW).1.cells (unhide KE W hSW).2.cells; go_simp) <;> with_reducible rfl)); simp only [Act.put, List.setIfInBounds_toArray, List.set_cons_zero, List.set_cons_succ])
    | (refine SeqDo.does (v := .bool p1) (by rfl) (fun W hSW KK hKK => ?_) ?_; (focus (go_simp; go_wp2_with (go_at_call 41; refine (unhide HAX W).mono ?_; rintro e W' ⟨rfl, hw⟩; rw [hw]); exact hKK.out _ hSW)); simp only [Act.put, List.setIfInBounds_toArray, List.set_cons_zero, List.set_cons_succ])
    | (refine SeqDo.does (v := .bool p2) (by rfl) (fun W hSW KK hKK => ?_) ?_; (focus (go_simp; go_wp2_with (go_at_call 41; refine (unhide HAY W).mono ?_; rintro e W' ⟨rfl, hw⟩; rw [hw]); exact hKK.out _ hSW)); simp only [Act.put, List.setIfInBounds_toArray, List.set_cons_zero, List.set_cons_succ]))
  intro W hSW
  obtain ⟨⟨q0, q1, q2⟩, ⟨q3, q4, q5⟩⟩ := And.intro (unhide KE W hSW).1.cells (unhide KE W hSW).2.cells
  obtain ⟨gW, rW⟩ := unhide KB W hSW
  have r0 : W.cell? ⟨w.heap.size + 1 + 1, 0, none⟩ = some (.bool false) := by rw [cell_of_row _ _ _ _ _ _ rW]; rfl
  have r1 : W.frozen? ⟨w.heap.size + 1 + 1, 0, none⟩ = false := frozen_of_row _ _ _ _ _ rW
  have GW := hide gW
  have RW := hide rW
  clear gW rW
  cases p1
  · cases p2
    · rcases hax with h | h <;> cases h
    · have hv := unhide HRN (by decide)
      have HV := hide hv
      clear hv
      go_wp2
      refine bodyPost_ret (bool_ret Try.results44 _ (w.heap.size + 1 + 1) _ (heap_setCell_same W _ 0 _ _ _ (unhide RW)) _ rfl) rfl ⟨by rw [unhide HV], (unhide GW).setCell (p := ⟨w.heap.size + 1 + 1, 0, none⟩) (by show w.heap.size ≤ w.heap.size + 1 + 1; omega) _⟩
  · cases p2
    · have hv := unhide HRN (by decide)
      have HV := hide hv
      clear hv
      go_wp2
      refine bodyPost_ret (bool_ret Try.results44 _ (w.heap.size + 1 + 1) _ (heap_setCell_same W _ 0 _ _ _ (unhide RW)) _ rfl) rfl ⟨by rw [unhide HV], (unhide GW).setCell (p := ⟨w.heap.size + 1 + 1, 0, none⟩) (by show w.heap.size ≤ w.heap.size + 1 + 1; omega) _⟩
    · have hv := unhide HRA rfl rfl
      have HV := hide hv
      clear hv
      have HMW := hide (unhide HMA rfl W (unhide GW))
      go_wp2_with (go_at_call 41; refine (unhide HAX W).mono ?_; rintro e W' ⟨rfl, hw⟩; rw [hw]; clear hw)
      refine (unhide HMW).mono ?_
      rintro e w3 ⟨rfl, f3⟩
      have R3 := hide ((f3.block _ (lt_of_heap (unhide RW))).trans (unhide RW))
      have G3 := hide ((unhide GW).trans (f3.mono (unhide GW).size))
      clear r0 r1 q0 q1 q2 q3 q4 q5
      have r0 : w3.cell? ⟨w.heap.size + 1 + 1, 0, none⟩ = some (.bool false) := by rw [cell_of_row _ _ _ _ _ _ (unhide R3)]; rfl
      have r1 : w3.frozen? ⟨w.heap.size + 1 + 1, 0, none⟩ = false := frozen_of_row _ _ _ _ _ (unhide R3)
      clear f3 HMW
      go_wp2
      refine bodyPost_ret (bool_ret Try.results44 _ (w.heap.size + 1 + 1) _ (heap_setCell_same w3 _ 0 _ _ _ (unhide R3)) _ rfl) rfl ⟨by rw [unhide HV], (unhide G3).setCell (p := ⟨w.heap.size + 1 + 1, 0, none⟩) (by show w.heap.size ≤ w.heap.size + 1 + 1; omega) _⟩
theorem mayRef_any (f : Nat) (hM : ∀ g, g < f → MayOk g) (w : World) (a : Option Addr) (n cap : Nat) (l : List Nc) (hL : Ls 5 ncc w a n l) (hn : n ≤ 40) (X Y : ByteArray) (x y : Ty) (hX : Str X x.name) (hY : Str Y y.name) (hf : x.name.length ≤ f) (hx : x.name.length ≤ 140737488351232) (hy : y.name.length ≤ 140737488351232) :
    Calls Try.prog 44 #[.slice a n cap, .agg #[.int .i64 x.kind, .string X], .agg #[.int .i64 y.kind, .string Y]] w fun e w' => e = .returned (.bool (refP l f x y)) ∧ Below w.heap.size w w' := by
  by_cases hO : y.name = objN
  · rw [refP_yes hO, hY.eq, hO]
    exact mayRef_obj w _ X x.kind y.kind
  · by_cases hax : arrB x.name = true ∨ arrB y.name = true
    · exact mayRef_arr f hM w a n cap l hL hn X Y x y hX hY hf hx hy hO hax
    · have h1 : arrB x.name = false := by cases h : arrB x.name; rfl; exact absurd (.inl h) hax
      have h2 : arrB y.name = false := by cases h : arrB y.name; rfl; exact absurd (.inr h) hax
      rw [refP_cls hO h1 h2]
      exact callsIn_wide.1 (mayRef_classes w a n cap l hL hn X Y x.name y.name hX hY x.kind y.kind hO h1 h2)
theorem mayP_is (l : List Nc) (f : Nat) (x y : Ty) : mayP l f x y = if y.kind = 0 ∨ x = y then true else if y.kind ≠ 4 then false else if x.kind ≠ 4 then decide (x.kind = 3) else refP l f x y := by
  unfold mayP refP
  cases f <;> rfl
end Go.Proofs.Ytjhiflhmefhogaa
