/- What may stand for what, as plain values; the landed mayRef. -/
import Derived.Test.YtjhiflhmefhogaaJKsE
import Derived.Test.YtjhiflhmefhogaaJB

namespace Go.Proofs.Ytjhiflhmefhogaa
open Go.RowKit Go.Shelf
set_option linter.unusedVariables false
set_option maxRecDepth 100000
attribute [local go_sem] Oper.semAt_some

def objN : List UInt8 := [79, 98, 106, 101, 99, 116]
/-- May x stand for y? -/
def mayP (l : List Nc) : Nat → Ty → Ty → Bool
  | f, x, y => if y.kind = 0 ∨ x = y then true else if y.kind ≠ 4 then false else if x.kind ≠ 4 then decide (x.kind = 3) else
    if y.name = objN then true else if arrB x.name ≠ arrB y.name then false else if arrB x.name = true then (match f with
      | 0 => false
      | f + 1 => decide ((elemP x).1.kind = 4) && decide ((elemP y).1.kind = 4) && mayP l f (elemP x).1 (elemP y).1)
    else decide (y.name ∈ upL l x.name)
def refP (l : List Nc) (f : Nat) (x y : Ty) : Bool := if y.name = objN then true else if arrB x.name ≠ arrB y.name then false else if arrB x.name = true then (match f with
      | 0 => false
      | f + 1 => decide ((elemP x).1.kind = 4) && decide ((elemP y).1.kind = 4) && mayP l f (elemP x).1 (elemP y).1)
    else decide (y.name ∈ upL l x.name)
def MI (W0 : World) (y : List UInt8) (pre : List (List UInt8)) (W : World) : Prop := Below W0.heap.size W0 W ∧ y ∉ pre
def MX (w : World) (Br : Nat) (y : List UInt8) (c : Code) (pre : List (List UInt8)) (W : World) : Prop := c = .ret ∧ W.heap[Br]? = some (.cells #[.bool true] 4 (0, 0)) ∧ Below w.heap.size w W ∧ y ∈ pre
theorem mi_stays (W0 : World) (y : List UInt8) : Stays W0.heap.size (GU W0.heap.size) (MI W0 y) :=
  ⟨fun s A C h g => ⟨h.1.trans g.1, h.2⟩, fun s A l o o' h hl hk ho => ⟨h.1.trans ((Below.refl _ A).grown (grownBy_putObj' A l o') h.1.size (fun k e => by cases e; omega)), h.2⟩, fun s A o h => ⟨h.1.alloc h.1.size o, h.2⟩⟩
theorem mx_stays (w W0 : World) (Br : Nat) (y : List UInt8) (c : Code) (hw : w.heap.size ≤ W0.heap.size) (hr : Br < W0.heap.size) : Stays W0.heap.size (GU W0.heap.size) (MX w Br y c) :=
  ⟨fun s A C h g => ⟨h.1, (g.1.block _ hr).trans h.2.1, h.2.2.1.trans (g.1.mono hw), h.2.2.2⟩, fun s A l o o' h hl hk ho => ⟨h.1, put_other hk ho h.2.1 rfl, h.2.2.1.trans ((Below.refl _ A).grown (grownBy_putObj' A l o') h.2.2.1.size (fun k e => by cases e; omega)), h.2.2.2⟩, fun s A o h => ⟨h.1, (heap_alloc_old _ _ (lt_of_heap h.2.1)).trans h.2.1, h.2.2.1.alloc h.2.2.1.size o, h.2.2.2⟩⟩
theorem bool_ret {fn : Func} {p : Tmp} (h : fn.results = #[.cell p 4]) (W : World) (r : Nat) (v : Value) (hb : W.heap[r]? = some (.cells #[v] 4 (0, 0))) (tmps : Array Value) (hp : tmps.getD p undef = .pointer (some ⟨r, 0, none⟩)) : (results fn tmps).run Try.prog W = .ok v W := by
  have hc : W.cell? ⟨r, 0, none⟩ = some v := by rw [cell_of_row _ _ _ _ _ _ hb]; rfl
  have hp' : tmps[p]?.getD undef = .pointer (some ⟨r, 0, none⟩) := by simpa using hp
  simp [results, h, hp', asAddr]
  go_simp
set_option maxHeartbeats 2000000 in
theorem mayRef_classes (w : World) (a : Option Addr) (n cap : Nat) (l : List Nc) (hL : Ls 5 ncc w a n l) (hn : n ≤ 40) (X Y : ByteArray) (x y : List UInt8) (hX : Str X x) (hY : Str Y y) (kx ky : Int) (hO : y ≠ objN) (hax : arrB x = false) (hay : arrB y = false) :
    CallsIn Fence.wide 5 Try.prog 44 #[.slice a n cap, .agg #[.int .i64 kx, .string X], .agg #[.int .i64 ky, .string Y]] w fun e w' => e = .returned (.bool (decide (y ∈ upL l x))) ∧ Below w.heap.size w w' := by
  refine callsIn_of_wp_marks Try.func44 rfl trivial ?_ rfl
  simp only [Try.ntmps44, List.size_toArray, List.length_cons, List.length_nil, Nat.reduceAdd, Nat.reduceSub, Array.replicate_succ, Array.replicate_zero, List.push_toArray, List.append_toArray, List.nil_append, List.cons_append]
  have o1 : ¬ Y.toList = [79, 98, 106, 101, 99, 116] := by rw [hY.list]; exact hO
  have o2 : (Y.toList == [79, 98, 106, 101, 99, 116]) = false := by simpa using o1
  have HAX : Hid (∀ W, CallsIn Fence.wide 4 Try.prog 41 #[.string X] W fun e w' => e = .returned (.bool false) ∧ w' = W) := fun W => callsIn_wide.2 (by have := yarray_any W X x hX; rw [hax] at this; exact this)
  have HAY : Hid (∀ W, CallsIn Fence.wide 4 Try.prog 41 #[.string Y] W fun e w' => e = .returned (.bool false) ∧ w' = W) := fun W => callsIn_wide.2 (by have := yarray_any W Y y hY; rw [hay] at this; exact this)
  obtain ⟨w0, hw0⟩ : ∃ w0, w0 = ((w.alloc (.cells #[.int .i64 kx, .string X] 23)).alloc (.cells #[.int .i64 ky, .string Y] 23)).alloc (.cells #[.bool false] 4) := ⟨_, rfl⟩
  have bx : Bx2c w0 w.heap.size (.int .i64 kx) (.string X) := by rw [hw0]; exact ((Bx2c.made _ _ _).keep (bA (Below.refl _ _) _)).keep (bA (Below.refl _ _) _)
  have by_ : Bx2c w0 (w.heap.size + 1) (.int .i64 ky) (.string Y) := by
    rw [hw0]
    have t := Bx2c.made (w.alloc (.cells #[.int .i64 kx, .string X] 23)) (.int .i64 ky) (.string Y)
    rw [show (w.alloc (.cells #[.int .i64 kx, .string X] 23)).heap.size = w.heap.size + 1 by simp] at t
    exact t.keep (bA (Below.refl _ _) _)
  have br : w0.heap[w.heap.size + 1 + 1]? = some (.cells #[.bool false] 4 (0, 0)) := by
    rw [hw0]
    have t := heap_alloc_last ((w.alloc (.cells #[.int .i64 kx, .string X] 23)).alloc (.cells #[.int .i64 ky, .string Y] 23)) (.cells #[.bool false] 4)
    rw [show ((w.alloc (.cells #[.int .i64 kx, .string X] 23)).alloc (.cells #[.int .i64 ky, .string Y] 23)).heap.size = w.heap.size + 1 + 1 by simp] at t
    exact t
  have f0 : Below w.heap.size w w0 := by rw [hw0]; exact bA (bA (bA (Below.refl _ _) _) _) _
  obtain ⟨SS, hSS⟩ : ∃ SS : World → Prop, SS = fun W => Below w0.heap.size w0 W := ⟨_, rfl⟩
  have KI : Hid (∀ W, Below w0.heap.size w0 W → SS W) := fun W f => by rw [hSS]; exact f
  have KE : Hid (∀ W, SS W → Bx2c W w.heap.size (.int .i64 kx) (.string X) ∧ Bx2c W (w.heap.size + 1) (.int .i64 ky) (.string Y)) := fun W h => by rw [hSS] at h; exact ⟨bx.keep h, by_.keep h⟩
  have KB : Hid (∀ W, SS W → Below w0.heap.size w0 W) := fun W h => by rw [hSS] at h; exact h
  have HW0 := hide hw0
  have BR := hide br
  have F0 := hide f0
  clear hw0 hSS bx by_ br f0
  gi_wp2_with fail
  rw [← unhide HW0]
  refine wpIn_wide.2 ?_
  refine wp_region_seq SS (by kernel_rfl) (by kernel_rfl) (unhide KI _ (Below.drew (Below.refl _ _))) ?_
  repeat (first
    | (refine SeqDo.yields (v := ?_) (by rfl) ?_ ?_; rotate_left; (focus ((intro W hSW; obtain ⟨⟨q0, q1, q2⟩, ⟨q3, q4, q5⟩⟩ := And.intro (unhide KE W hSW).1.cells (unhide KE W hSW).2.cells; go_simp) <;> with_reducible rfl)); simp only [Act.put, List.setIfInBounds_toArray, List.set_cons_zero, List.set_cons_succ])
    | (refine SeqDo.does (v := .bool false) (by rfl) (fun W hSW KK hKK => ?_) ?_; (focus (go_simp; go_wp2_with (go_at_call 41; first | (refine (callsIn_wide.1 (unhide HAX W)).mono ?_; rintro e W' ⟨rfl, hw⟩; rw [hw]) | (refine (callsIn_wide.1 (unhide HAY W)).mono ?_; rintro e W' ⟨rfl, hw⟩; rw [hw])); exact hKK.out _ hSW)); simp only [Act.put, List.setIfInBounds_toArray, List.set_cons_zero, List.set_cons_succ]))
  intro W hSW
  obtain ⟨⟨q0, q1, q2⟩, ⟨q3, q4, q5⟩⟩ := And.intro (unhide KE W hSW).1.cells (unhide KE W hSW).2.cells
  gi_wp2_with fail
  refine ⟨trivial, (unhide HAX W).mono ?_⟩
  rintro e W' ⟨rfl, hw⟩
  rw [hw]
  clear hw
  gi_wp2_with fail
  refine ⟨trivial, (callsIn_wide.2 (yupwards_any W a n cap X)).mono ?_⟩
  rintro e w1 ⟨rfl, hw1⟩
  have fW := unhide KB W hSW
  have gW := (unhide F0).trans (fW.mono (unhide F0).size)
  have b1 : Below W.heap.size W w1 := by rw [hw1]; exact bA (bA (Below.refl _ _) _) _
  have l1 : w1.heap[W.heap.size]? = some (.cells #[.slice a n cap] 40 (0, 0)) := by rw [hw1]; exact (heap_alloc_old _ _ (by simp)).trans (heap_alloc_last W _)
  have c1 : w1.cell? ⟨W.heap.size + 1, 0, none⟩ = some (.string X) := by
    rw [hw1]
    have t := heap_alloc_last (W.alloc (.cells #[.slice a n cap] 40)) (.cells #[.string X] 9)
    rw [show (W.alloc (.cells #[.slice a n cap] 40)).heap.size = W.heap.size + 1 by simp] at t
    rw [cell_of_row _ _ _ _ _ _ t]
    rfl
  have g1 := gW.trans (b1.mono gW.size)
  have br1 : w1.heap[w.heap.size + 1 + 1]? = some (.cells #[.bool false] 4 (0, 0)) := by
    have h1 := (fW.block _ (lt_of_heap (unhide BR))).trans (unhide BR)
    exact (b1.block _ (lt_of_heap h1)).trans h1
  have by1 := ((unhide KE W hSW).2).keep b1
  have hseq : Iter Fence.wide (5 - 1) Try.prog 49 #[.pointer (some ⟨W.heap.size, 0, none⟩), .pointer (some ⟨W.heap.size + 1, 0, none⟩)] encN (GU w1.heap.size) (KU w1.heap.size) (fun xs => xs = upL l x) (fun pre => ∃ rest, upL l x = pre ++ rest) (n + 1) w1 := fun lp J Jx V hV hJ _ hYY h0 =>
    upwards1_in 4 lp _ _ (by omega) w1 V a n cap l (hL.below g1) hn X x hX J Jx hYY hJ hV ((hV.block _ (lt_of_heap l1)).trans l1) ((hV.cell (World.block_lt_of_cell? w1 _ c1)).trans c1) h0
  have HW1 := hide hw1
  have BR1 := hide br1
  have BY1 := hide by1
  have G1 := hide g1
  have HYS := hide hY
  clear hw1 l1 c1 br1 by1 g1 b1 fW gW q0 q1 q2 q3 q4 q5 hSW hL hX
  gi_wp2
  have hbr := lt_of_heap (unhide BR1)
  refine range_over (α := List UInt8) (encs := encN) (G := GU w1.heap.size) (Kp := KU w1.heap.size) (S := fun xs => xs = upL l x) (Sp := fun pre => ∃ rest, upL l x = pre ++ rest) (N := n + 1) rfl (by omega) (gf := 49) (lb := #[.pointer (some ⟨W.heap.size, 0, none⟩), .pointer (some ⟨W.heap.size + 1, 0, none⟩)]) rfl trivial (enters_of Try.func49 (by kernel_rfl) rfl) (fun _ => rfl) gu_cells (fun h k => ku_t h k) (ku_b (n₀ := w1.heap.size) (w := w1) (Nat.le_refl _)) hseq (MI w1 y) (MX w (w.heap.size + 1 + 1) y) (mi_stays w1 y) (fun c => mx_stays w w1 _ y c (unhide G1).size hbr) ⟨Below.refl _ _, by simp⟩
    (fun z => { tmps := #[.slice a n cap, .agg #[.int .i64 kx, .string X], .agg #[.int .i64 ky, .string Y], undef, .pointer (some ⟨w.heap.size, 0, none⟩), .pointer (some ⟨w.heap.size + 1, 0, none⟩), .pointer (some ⟨w.heap.size + 1 + 1, 0, none⟩), .string ⟨z.toArray⟩, .bool false, .pointer (some ⟨w.heap.size + 1, 1, none⟩), .string Y, .bool false, .bool false, .pointer (some ⟨w.heap.size, 1, none⟩), .string X, .bool false, .pointer (some ⟨w.heap.size + 1, 1, none⟩), .string Y, .bool false, .bool false, .bool false, .pointer (some ⟨w.heap.size, 1, none⟩), .string X, .bool false, undef, undef, undef, undef, .slice a n cap, .pointer (some ⟨w.heap.size, 1, none⟩), .string X, .func (.func 49) #[] #[.pointer (some ⟨W.heap.size, 0, none⟩), .pointer (some ⟨W.heap.size + 1, 0, none⟩)], .string ⟨z.toArray⟩, undef, undef, undef, undef], defers := [] }) ?assign ?body ?done ?stop
  case assign =>
    intro lp z V K hK
    gi_wp2
    exact hK
  case body =>
    rintro lp pre z V ⟨hV, hpre⟩ hlt
    clear hseq
    have hy := (unhide BY1).keep hV
    obtain ⟨y0, y1, y2⟩ := hy.cells
    have hb := (hV.block _ hbr).trans (unhide BR1)
    have cb : V.cell? ⟨w.heap.size + 1 + 1, 0, none⟩ = some (.bool false) := by rw [cell_of_row _ _ _ _ _ _ hb]; rfl
    have fb : V.frozen? ⟨w.heap.size + 1 + 1, 0, none⟩ = false := frozen_of_row _ _ _ _ _ hb
    have HV := hide hV
    have HB := hide hb
    clear hy hV hb
    by_cases hz : z = y
    · have e : (⟨z.toArray⟩ : ByteArray) = Y := by rw [hz, (unhide HYS).eq]
      rw [e]
      clear e
      gi_wp2
      refine ⟨(KeepsOthers.setCell _ _ _).from _, rfl, ?_, ?_, by rw [hz]; simp⟩
      · rw [heap_setCell_same V (w.heap.size + 1 + 1) 0 _ _ (.bool true) (unhide HB)]
        rfl
      · exact ((unhide G1).trans ((unhide HV).mono (unhide G1).size)).setCell (p := ⟨w.heap.size + 1 + 1, 0, none⟩) (by show w.heap.size ≤ w.heap.size + 1 + 1; omega) _
    · obtain ⟨s1, s2, s3⟩ := str_ne (A := ⟨z.toArray⟩) (B := Y) ⟨rfl⟩ (unhide HYS) hz
      have HPN : Hid (y ∉ pre ++ [z]) := by
        intro h
        rcases List.mem_append.1 h with h | h
        · exact hpre h
        · exact hz (List.mem_singleton.1 h).symm
      generalize (⟨z.toArray⟩ : ByteArray) = Z at *
      clear hpre hz
      gi_wp2
      exact ⟨KeepsFrom.refl _ _, ⟨Below.refl _ _, fun k V' T fr _ hk => hk⟩, unhide HV, unhide HPN⟩
  case done =>
    rintro D xs V hD hS ⟨hV, hnin⟩ hK
    have hb := (hV.block _ hbr).trans (unhide BR1)
    have cb : V.cell? ⟨w.heap.size + 1 + 1, 0, none⟩ = some (.bool false) := by rw [cell_of_row _ _ _ _ _ _ hb]; rfl
    have fb : V.frozen? ⟨w.heap.size + 1 + 1, 0, none⟩ = false := frozen_of_row _ _ _ _ _ hb
    have HV := hide hV
    have HB := hide hb
    have HS : Hid (decide (y ∈ upL l x) = false) := by rw [show upL l x = xs from hS.symm]; exact decide_eq_false hnin
    clear hseq hV hb hS hnin
    gi_wp2
    have hb2 := heap_setCell_same V (w.heap.size + 1 + 1) 0 _ _ (.bool false) (unhide HB)
    have hD1 : ¬ D = w.heap.size + 1 + 1 := fun e => by omega
    have hK2 : (V.setCell ⟨w.heap.size + 1 + 1, 0, none⟩ (.bool false)).heap[D]? = some (.deferred (some [])) := (Below.heap_setCell _ _ _ _ hD1).trans hK
    refine ⟨by simp, .inl ⟨_, _, rfl, run_takeDeferred hK2, ?_⟩⟩
    refine ⟨_, bool_ret Try.results44 _ (w.heap.size + 1 + 1) _ (put_other hK2 rfl hb2 rfl) _ rfl, by rw [unhide HS], ?_⟩
    have f1 : Below w.heap.size w (V.setCell ⟨w.heap.size + 1 + 1, 0, none⟩ (.bool false)) := ((unhide G1).trans ((unhide HV).mono (unhide G1).size)).setCell (p := ⟨w.heap.size + 1 + 1, 0, none⟩) (by show w.heap.size ≤ w.heap.size + 1 + 1; omega) _
    exact f1.trans ((Below.refl _ _).grown (grownBy_putObj' _ D _) f1.size (fun k e => by cases e; have := (unhide G1).size; omega))
  case stop =>
    rintro D c pre V hD ⟨rest, hp⟩ ⟨rfl, hb, hB, hin⟩ hK
    have HS : Hid (decide (y ∈ upL l x) = true) := decide_eq_true (by rw [hp]; exact List.mem_append_left _ hin)
    clear hseq
    have HB := hide hb
    have HBL := hide hB
    clear hb hB
    gi_wp2
    refine ⟨by simp, .inl ⟨_, _, rfl, run_takeDeferred hK, ?_⟩⟩
    refine ⟨_, bool_ret Try.results44 _ (w.heap.size + 1 + 1) _ (put_other hK rfl (unhide HB) rfl) _ rfl, by rw [unhide HS], ?_⟩
    exact (unhide HBL).trans ((Below.refl _ _).grown (grownBy_putObj' _ D _) (unhide HBL).size (fun k e => by cases e; have := (unhide G1).size; omega))
end Go.Proofs.Ytjhiflhmefhogaa
