/- Joined: KsF KsG KsH KsI KsJ KdW. -/
import Derived.Test.YthenefjoidckkaaGreatDoorJK5
import Derived.Test.YthenefjoidckkaaGreatDoorJB
import Derived.Test.YthenefjoidckkaaGreatDoorJK4

/- What may stand for what, as plain values; the landed mayRef. -/
namespace Go.Proofs.YthenefjoidckkaaGreatDoor
open Go.RowKit Go.Shelf
set_option linter.unusedVariables false
set_option maxRecDepth 100000
attribute [local go_sem] Oper.semAt_some

def objN : List UInt8 := [79, 98, 106, 101, 99, 116]
/-- May x stand for y? -/
def mayP (l : List Nc) : Nat → Ty → Ty → Bool
  | f, x, y => if y.kind = 0 ∨ x = y then true else if y.kind ≠ 4 then false else if x.kind ≠ 4 then decide (x.kind = 3) else
    if y.name = objN then true else if arrB x.name ≠ arrB y.name then false else if arrB x.name = true then (match f with
      | 0 => false
      | f + 1 => decide ((elemP x).1.kind = 4) && decide ((elemP y).1.kind = 4) && mayP l f (elemP x).1 (elemP y).1)
    else decide (y.name ∈ upL l x.name)
def refP (l : List Nc) (f : Nat) (x y : Ty) : Bool := if y.name = objN then true else if arrB x.name ≠ arrB y.name then false else if arrB x.name = true then (match f with
      | 0 => false
      | f + 1 => decide ((elemP x).1.kind = 4) && decide ((elemP y).1.kind = 4) && mayP l f (elemP x).1 (elemP y).1)
    else decide (y.name ∈ upL l x.name)
def MI (W0 : World) (y : List UInt8) (pre : List (List UInt8)) (W : World) : Prop := Below W0.heap.size W0 W ∧ y ∉ pre
def MX (w : World) (Br : Nat) (y : List UInt8) (c : Code) (pre : List (List UInt8)) (W : World) : Prop := c = .ret ∧ W.heap[Br]? = some (.cells #[.bool true] 4 (0, 0)) ∧ Below w.heap.size w W ∧ y ∈ pre
theorem mi_stays (W0 : World) (y : List UInt8) : Stays W0.heap.size (GU W0.heap.size) (MI W0 y) :=
  ⟨fun s A C h g => ⟨h.1.trans g.1, h.2⟩, fun s A l o o' h hl hk ho => ⟨h.1.trans ((Below.refl _ A).grown (grownBy_putObj' A l o') h.1.size (fun k e => by cases e; omega)), h.2⟩, fun s A o h => ⟨h.1.alloc h.1.size o, h.2⟩⟩
theorem mx_stays (w W0 : World) (Br : Nat) (y : List UInt8) (c : Code) (hw : w.heap.size ≤ W0.heap.size) (hr : Br < W0.heap.size) : Stays W0.heap.size (GU W0.heap.size) (MX w Br y c) :=
  ⟨fun s A C h g => ⟨h.1, (g.1.block _ hr).trans h.2.1, h.2.2.1.trans (g.1.mono hw), h.2.2.2⟩, fun s A l o o' h hl hk ho => ⟨h.1, put_other hk ho h.2.1 rfl, h.2.2.1.trans ((Below.refl _ A).grown (grownBy_putObj' A l o') h.2.2.1.size (fun k e => by cases e; omega)), h.2.2.2⟩, fun s A o h => ⟨h.1, (heap_alloc_old _ _ (lt_of_heap h.2.1)).trans h.2.1, h.2.2.1.alloc h.2.2.1.size o, h.2.2.2⟩⟩
theorem bool_ret {fn : Func} {p : Tmp} (h : fn.results = #[.cell p 4]) (W : World) (r : Nat) (v : Value) (hb : W.heap[r]? = some (.cells #[v] 4 (0, 0))) (tmps : Array Value) (hp : tmps.getD p undef = .pointer (some ⟨r, 0, none⟩)) : (results fn tmps).run Tryz.prog W = .ok v W := by
  have hc : W.cell? ⟨r, 0, none⟩ = some v := by rw [cell_of_row _ _ _ _ _ _ hb]; rfl
  have hp' : tmps[p]?.getD undef = .pointer (some ⟨r, 0, none⟩) := by simpa using hp
  simp [results, h, hp', asAddr]
  go_simp
set_option maxHeartbeats 2000000 in
theorem mayRef_classes (w : World) (a : Option Addr) (n cap : Nat) (l : List Nc) (hL : Ls 5 ncc w a n l) (hn : n ≤ 40) (X Y : ByteArray) (x y : List UInt8) (hX : Str X x) (hY : Str Y y) (kx ky : Int) (hO : y ≠ objN) (hax : arrB x = false) (hay : arrB y = false) :
    CallsIn Fence.wide 5 Tryz.prog 46 #[.slice a n cap, .agg #[.int .i64 kx, .string X], .agg #[.int .i64 ky, .string Y]] w fun e w' => e = .returned (.bool (decide (y ∈ upL l x))) ∧ Below w.heap.size w w' := by
  refine callsIn_of_wp_marks Tryz.func46 rfl trivial ?_ rfl
  simp only [Tryz.ntmps46, List.size_toArray, List.length_cons, List.length_nil, Nat.reduceAdd, Nat.reduceSub, Array.replicate_succ, Array.replicate_zero, List.push_toArray, List.append_toArray, List.nil_append, List.cons_append]
  have o1 : ¬ Y.toList = [79, 98, 106, 101, 99, 116] := by rw [hY.list]; exact hO
  have o2 : (Y.toList == [79, 98, 106, 101, 99, 116]) = false := by simpa using o1
  have HAX : Hid (∀ W, CallsIn Fence.wide 4 Tryz.prog 63 #[.string X] W fun e w' => e = .returned (.bool false) ∧ w' = W) := fun W => callsIn_wide.2 (by have := yarray_any W X x hX; rw [hax] at this; exact this)
  have HAY : Hid (∀ W, CallsIn Fence.wide 4 Tryz.prog 63 #[.string Y] W fun e w' => e = .returned (.bool false) ∧ w' = W) := fun W => callsIn_wide.2 (by have := yarray_any W Y y hY; rw [hay] at this; exact this)
  obtain ⟨w0, hw0⟩ : ∃ w0, w0 = ((w.alloc (.cells #[.int .i64 kx, .string X] 52)).alloc (.cells #[.int .i64 ky, .string Y] 52)).alloc (.cells #[.bool false] 4) := ⟨_, rfl⟩
  have bx : Bx2c w0 w.heap.size (.int .i64 kx) (.string X) := by rw [hw0]; exact ((Bx2c.made _ _ _).keep (bA (Below.refl _ _) _)).keep (bA (Below.refl _ _) _)
  have by_ : Bx2c w0 (w.heap.size + 1) (.int .i64 ky) (.string Y) := by
    rw [hw0]
    have t := Bx2c.made (w.alloc (.cells #[.int .i64 kx, .string X] 52)) (.int .i64 ky) (.string Y)
    rw [show (w.alloc (.cells #[.int .i64 kx, .string X] 52)).heap.size = w.heap.size + 1 by simp] at t
    exact t.keep (bA (Below.refl _ _) _)
  have br : w0.heap[w.heap.size + 1 + 1]? = some (.cells #[.bool false] 4 (0, 0)) := by
    rw [hw0]
    have t := heap_alloc_last ((w.alloc (.cells #[.int .i64 kx, .string X] 52)).alloc (.cells #[.int .i64 ky, .string Y] 52)) (.cells #[.bool false] 4)
    rw [show ((w.alloc (.cells #[.int .i64 kx, .string X] 52)).alloc (.cells #[.int .i64 ky, .string Y] 52)).heap.size = w.heap.size + 1 + 1 by simp] at t
    exact t
  have f0 : Below w.heap.size w w0 := by rw [hw0]; exact bA (bA (bA (Below.refl _ _) _) _) _
  obtain ⟨SS, hSS⟩ : ∃ SS : World → Prop, SS = fun W => Below w0.heap.size w0 W := ⟨_, rfl⟩
  have KI : Hid (∀ W, Below w0.heap.size w0 W → SS W) := fun W f => by rw [hSS]; exact f
  have KE : Hid (∀ W, SS W → Bx2c W w.heap.size (.int .i64 kx) (.string X) ∧ Bx2c W (w.heap.size + 1) (.int .i64 ky) (.string Y)) := fun W h => by rw [hSS] at h; exact ⟨bx.keep h, by_.keep h⟩
  have KB : Hid (∀ W, SS W → Below w0.heap.size w0 W) := fun W h => by rw [hSS] at h; exact h
  have HW0 := hide hw0
  have BR := hide br
  have F0 := hide f0
  clear hw0 hSS bx by_ br f0
  gi_wp2_with fail
  rw [← unhide HW0]
  refine wpIn_wide.2 ?_
  refine wp_region_seq SS (by kernel_rfl) (by kernel_rfl) (unhide KI _ (Below.drew (Below.refl _ _))) ?_
  repeat (first
    | (refine SeqDo.yields (v := ?_) (by rfl) ?_ ?_; rotate_left; (focus ((intro W hSW; obtain ⟨⟨q0, q1, q2⟩, ⟨q3, q4, q5⟩⟩ := And.intro (unhide KE W hSW).1.cells (unhide KE W hSW).2.cells; go_simp) <;> with_reducible rfl)); simp only [Act.put, List.setIfInBounds_toArray, List.set_cons_zero, List.set_cons_succ])
    | (refine SeqDo.does (v := .bool false) (by rfl) (fun W hSW KK hKK => ?_) ?_; (focus (go_simp; go_wp2_with (go_at_call 63; first | (refine (callsIn_wide.1 (unhide HAX W)).mono ?_; rintro e W' ⟨rfl, hw⟩; rw [hw]) | (refine (callsIn_wide.1 (unhide HAY W)).mono ?_; rintro e W' ⟨rfl, hw⟩; rw [hw])); exact hKK.out _ hSW)); simp only [Act.put, List.setIfInBounds_toArray, List.set_cons_zero, List.set_cons_succ]))
  intro W hSW
  obtain ⟨⟨q0, q1, q2⟩, ⟨q3, q4, q5⟩⟩ := And.intro (unhide KE W hSW).1.cells (unhide KE W hSW).2.cells
  gi_wp2_with fail
  refine ⟨trivial, (unhide HAX W).mono ?_⟩
  rintro e W' ⟨rfl, hw⟩
  rw [hw]
  clear hw
  gi_wp2_with fail
  refine ⟨trivial, (callsIn_wide.2 (yupwards_any W a n cap X)).mono ?_⟩
  rintro e w1 ⟨rfl, hw1⟩
  have fW := unhide KB W hSW
  have gW := (unhide F0).trans (fW.mono (unhide F0).size)
  have b1 : Below W.heap.size W w1 := by rw [hw1]; exact bA (bA (Below.refl _ _) _) _
  have l1 : w1.heap[W.heap.size]? = some (.cells #[.slice a n cap] 42 (0, 0)) := by rw [hw1]; exact (heap_alloc_old _ _ (by simp)).trans (heap_alloc_last W _)
  have c1 : w1.cell? ⟨W.heap.size + 1, 0, none⟩ = some (.string X) := by
    rw [hw1]
    have t := heap_alloc_last (W.alloc (.cells #[.slice a n cap] 42)) (.cells #[.string X] 9)
    rw [show (W.alloc (.cells #[.slice a n cap] 42)).heap.size = W.heap.size + 1 by simp] at t
    rw [cell_of_row _ _ _ _ _ _ t]
    rfl
  have g1 := gW.trans (b1.mono gW.size)
  have br1 : w1.heap[w.heap.size + 1 + 1]? = some (.cells #[.bool false] 4 (0, 0)) := by
    have h1 := (fW.block _ (lt_of_heap (unhide BR))).trans (unhide BR)
    exact (b1.block _ (lt_of_heap h1)).trans h1
  have by1 := ((unhide KE W hSW).2).keep b1
  have hseq : Iter Fence.wide (5 - 1) Tryz.prog 115 #[.pointer (some ⟨W.heap.size, 0, none⟩), .pointer (some ⟨W.heap.size + 1, 0, none⟩)] encN (GU w1.heap.size) (KU w1.heap.size) (fun xs => xs = upL l x) (fun pre => ∃ rest, upL l x = pre ++ rest) (n + 1) w1 := fun lp J Jx V hV hJ _ hYY h0 =>
    upwards1_in 4 lp _ _ (by omega) w1 V a n cap l (hL.below g1) hn X x hX J Jx hYY hJ hV ((hV.block _ (lt_of_heap l1)).trans l1) ((hV.cell (World.block_lt_of_cell? w1 _ c1)).trans c1) h0
  have HW1 := hide hw1
  have BR1 := hide br1
  have BY1 := hide by1
  have G1 := hide g1
  have HYS := hide hY
  clear hw1 l1 c1 br1 by1 g1 b1 fW gW q0 q1 q2 q3 q4 q5 hSW hL hX
  gi_wp2
  have hbr := lt_of_heap (unhide BR1)
  refine range_over (α := List UInt8) (encs := encN) (G := GU w1.heap.size) (Kp := KU w1.heap.size) (S := fun xs => xs = upL l x) (Sp := fun pre => ∃ rest, upL l x = pre ++ rest) (N := n + 1) rfl (by omega) (gf := 115) (lb := #[.pointer (some ⟨W.heap.size, 0, none⟩), .pointer (some ⟨W.heap.size + 1, 0, none⟩)]) rfl trivial (enters_of Tryz.func115 (by kernel_rfl) rfl) (fun _ => rfl) gu_cells (fun h k => ku_t h k) (ku_b (n₀ := w1.heap.size) (w := w1) (Nat.le_refl _)) hseq (MI w1 y) (MX w (w.heap.size + 1 + 1) y) (mi_stays w1 y) (fun c => mx_stays w w1 _ y c (unhide G1).size hbr) ⟨Below.refl _ _, by simp⟩
    (fun z => { tmps := #[.slice a n cap, .agg #[.int .i64 kx, .string X], .agg #[.int .i64 ky, .string Y], undef, .pointer (some ⟨w.heap.size, 0, none⟩), .pointer (some ⟨w.heap.size + 1, 0, none⟩), .pointer (some ⟨w.heap.size + 1 + 1, 0, none⟩), .string ⟨z.toArray⟩, .bool false, .pointer (some ⟨w.heap.size + 1, 1, none⟩), .string Y, .bool false, .bool false, .pointer (some ⟨w.heap.size, 1, none⟩), .string X, .bool false, .pointer (some ⟨w.heap.size + 1, 1, none⟩), .string Y, .bool false, .bool false, .bool false, .pointer (some ⟨w.heap.size, 1, none⟩), .string X, .bool false, undef, undef, undef, undef, .slice a n cap, .pointer (some ⟨w.heap.size, 1, none⟩), .string X, .func (.func 115) #[] #[.pointer (some ⟨W.heap.size, 0, none⟩), .pointer (some ⟨W.heap.size + 1, 0, none⟩)], .string ⟨z.toArray⟩, undef, undef, undef, undef], defers := [] }) ?assign ?body ?done ?stop
  case assign =>
    intro lp z V K hK
    gi_wp2
    exact hK
  case body =>
    rintro lp pre z V ⟨hV, hpre⟩ hlt
    clear hseq
    have hy := (unhide BY1).keep hV
    obtain ⟨y0, y1, y2⟩ := hy.cells
    have hb := (hV.block _ hbr).trans (unhide BR1)
    have cb : V.cell? ⟨w.heap.size + 1 + 1, 0, none⟩ = some (.bool false) := by rw [cell_of_row _ _ _ _ _ _ hb]; rfl
    have fb : V.frozen? ⟨w.heap.size + 1 + 1, 0, none⟩ = false := frozen_of_row _ _ _ _ _ hb
    have HV := hide hV
    have HB := hide hb
    clear hy hV hb
    by_cases hz : z = y
    · have e : (⟨z.toArray⟩ : ByteArray) = Y := by rw [hz, (unhide HYS).eq]
      rw [e]
      clear e
      gi_wp2
      refine ⟨(KeepsOthers.setCell _ _ _).from _, rfl, ?_, ?_, by rw [hz]; simp⟩
      · rw [heap_setCell_same V (w.heap.size + 1 + 1) 0 _ _ (.bool true) (unhide HB)]
        rfl
      · exact ((unhide G1).trans ((unhide HV).mono (unhide G1).size)).setCell (p := ⟨w.heap.size + 1 + 1, 0, none⟩) (by show w.heap.size ≤ w.heap.size + 1 + 1; omega) _
    · obtain ⟨s1, s2, s3⟩ := str_ne (A := ⟨z.toArray⟩) (B := Y) ⟨rfl⟩ (unhide HYS) hz
      have HPN : Hid (y ∉ pre ++ [z]) := by
        intro h
        rcases List.mem_append.1 h with h | h
        · exact hpre h
        · exact hz (List.mem_singleton.1 h).symm
      generalize (⟨z.toArray⟩ : ByteArray) = Z at *
      clear hpre hz
      gi_wp2
      exact ⟨KeepsFrom.refl _ _, ⟨Below.refl _ _, fun k V' T fr _ hk => hk⟩, unhide HV, unhide HPN⟩
  case done =>
    rintro D xs V hD hS ⟨hV, hnin⟩ hK
    have hb := (hV.block _ hbr).trans (unhide BR1)
    have cb : V.cell? ⟨w.heap.size + 1 + 1, 0, none⟩ = some (.bool false) := by rw [cell_of_row _ _ _ _ _ _ hb]; rfl
    have fb : V.frozen? ⟨w.heap.size + 1 + 1, 0, none⟩ = false := frozen_of_row _ _ _ _ _ hb
    have HV := hide hV
    have HB := hide hb
    have HS : Hid (decide (y ∈ upL l x) = false) := by rw [show upL l x = xs from hS.symm]; exact decide_eq_false hnin
    clear hseq hV hb hS hnin
    gi_wp2
    have hb2 := heap_setCell_same V (w.heap.size + 1 + 1) 0 _ _ (.bool false) (unhide HB)
    have hD1 : ¬ D = w.heap.size + 1 + 1 := fun e => by omega
    have hK2 : (V.setCell ⟨w.heap.size + 1 + 1, 0, none⟩ (.bool false)).heap[D]? = some (.deferred (some [])) := (Below.heap_setCell _ _ _ _ hD1).trans hK
    refine ⟨by simp, .inl ⟨_, _, rfl, run_takeDeferred hK2, ?_⟩⟩
    refine ⟨_, bool_ret Tryz.results46 _ (w.heap.size + 1 + 1) _ (put_other hK2 rfl hb2 rfl) _ rfl, by rw [unhide HS], ?_⟩
    have f1 : Below w.heap.size w (V.setCell ⟨w.heap.size + 1 + 1, 0, none⟩ (.bool false)) := ((unhide G1).trans ((unhide HV).mono (unhide G1).size)).setCell (p := ⟨w.heap.size + 1 + 1, 0, none⟩) (by show w.heap.size ≤ w.heap.size + 1 + 1; omega) _
    exact f1.trans ((Below.refl _ _).grown (grownBy_putObj' _ D _) f1.size (fun k e => by cases e; have := (unhide G1).size; omega))
  case stop =>
    rintro D c pre V hD ⟨rest, hp⟩ ⟨rfl, hb, hB, hin⟩ hK
    have HS : Hid (decide (y ∈ upL l x) = true) := decide_eq_true (by rw [hp]; exact List.mem_append_left _ hin)
    clear hseq
    have HB := hide hb
    have HBL := hide hB
    clear hb hB
    gi_wp2
    refine ⟨by simp, .inl ⟨_, _, rfl, run_takeDeferred hK, ?_⟩⟩
    refine ⟨_, bool_ret Tryz.results46 _ (w.heap.size + 1 + 1) _ (put_other hK rfl (unhide HB) rfl) _ rfl, by rw [unhide HS], ?_⟩
    exact (unhide HBL).trans ((Below.refl _ _).grown (grownBy_putObj' _ D _) (unhide HBL).size (fun k e => by cases e; have := (unhide G1).size; omega))
end Go.Proofs.YthenefjoidckkaaGreatDoor

/- The landed May. -/
namespace Go.Proofs.YthenefjoidckkaaGreatDoor
open Go.RowKit Go.Shelf
set_option linter.unusedVariables false
set_option maxRecDepth 100000

/-- May, of x whose name has at most f bytes. -/
def MayOk (f : Nat) : Prop := ∀ (w : World) (a : Option Addr) (n cap : Nat) (l : List Nc), Ls 5 ncc w a n l → n ≤ 40 → ∀ (X Y : ByteArray) (x y : Ty), Str X x.name → Str Y y.name → x.name.length ≤ f → x.name.length ≤ 140737488351232 → y.name.length ≤ 140737488351232 →
  Calls Tryz.prog 31 #[.slice a n cap, .agg #[.int .i64 x.kind, .string X], .agg #[.int .i64 y.kind, .string Y]] w fun e w' => e = .returned (.bool (mayP l f x y)) ∧ Below w.heap.size w w'
theorem elem_len (t : Ty) : (elemP t).1.name.length ≤ t.name.length - 1 := by
  unfold elemP
  repeat' split
  · simp
  · have := typeP_len (t.name.drop 1)
    simpa using this
  · simp [ty0]
def arrP (l : List Nc) (f : Nat) (x y : Ty) : Bool := match f with
  | 0 => false
  | f + 1 => decide ((elemP x).1.kind = 4) && decide ((elemP y).1.kind = 4) && mayP l f (elemP x).1 (elemP y).1
set_option maxHeartbeats 1600000 in
theorem mayArray_any (f : Nat) (hM : ∀ g, g < f → MayOk g) (w : World) (a : Option Addr) (n cap : Nat) (l : List Nc) (hL : Ls 5 ncc w a n l) (hn : n ≤ 40) (X Y : ByteArray) (x y : Ty) (hX : Str X x.name) (hY : Str Y y.name) (hf : x.name.length ≤ f) (hx : x.name.length ≤ 140737488351232) (hy : y.name.length ≤ 140737488351232) (h0 : 0 < x.name.length) :
    Calls Tryz.prog 64 #[.slice a n cap, .agg #[.int .i64 x.kind, .string X], .agg #[.int .i64 y.kind, .string Y]] w fun e w' => e = .returned (.bool (arrP l f x y)) ∧ Below w.heap.size w w' := by
  obtain ⟨g, rfl⟩ : ∃ g, f = g + 1 := ⟨f - 1, by omega⟩
  obtain ⟨xk, xn⟩ := x
  obtain ⟨yk, yn⟩ := y
  simp only at hX hY hf hx hy h0
  have HE1 : Hid (∀ W, Calls Tryz.prog 114 #[.agg #[.int .i64 xk, .string X]] W fun e w' => e = .returned (.tuple #[tyV (elemP ⟨xk, xn⟩).1, .int .i64 (elemP ⟨xk, xn⟩).2]) ∧ Below W.heap.size W w') := fun W => yElem_any W xk X xn hX hx
  have HE2 : Hid (∀ W, Calls Tryz.prog 114 #[.agg #[.int .i64 yk, .string Y]] W fun e w' => e = .returned (.tuple #[tyV (elemP ⟨yk, yn⟩).1, .int .i64 (elemP ⟨yk, yn⟩).2]) ∧ Below W.heap.size W w') := fun W => yElem_any W yk Y yn hY hy
  have e1 := elem_len ⟨xk, xn⟩
  have e2 := elem_len ⟨yk, yn⟩
  simp only at e1 e2
  show Calls _ _ _ _ fun e w' => e = .returned (.bool (decide ((elemP ⟨xk, xn⟩).1.kind = 4) && decide ((elemP ⟨yk, yn⟩).1.kind = 4) && mayP l g (elemP ⟨xk, xn⟩).1 (elemP ⟨yk, yn⟩).1)) ∧ Below w.heap.size w w'
  generalize elemP ⟨xk, xn⟩ = ex at *
  generalize elemP ⟨yk, yn⟩ = ey at *
  obtain ⟨⟨ak, an⟩, ae⟩ := ex
  obtain ⟨⟨bk, bn⟩, be⟩ := ey
  unfold tyV at HE1 HE2
  simp only at HE1 HE2 e1 e2 ⊢
  obtain ⟨A, hA⟩ := Str.of an
  obtain ⟨B, hB⟩ := Str.of bn
  rw [← hA.eq] at HE1
  rw [← hB.eq] at HE2
  have HMY : Hid (∀ W, Below w.heap.size w W → Calls Tryz.prog 31 #[.slice a n cap, .agg #[.int .i64 ak, .string A], .agg #[.int .i64 bk, .string B]] W fun e w' => e = .returned (.bool (mayP l g ⟨ak, an⟩ ⟨bk, bn⟩)) ∧ Below W.heap.size W w') := fun W fW => hM g (by omega) W a n cap l (hL.below fW) hn A B ⟨ak, an⟩ ⟨bk, bn⟩ hA hB (by simp only; omega) (by simp only; omega) (by simp only; omega)
  clear hM hL hX hY hA hB
  obtain ⟨w0, hw0, hB1, hB2, f0⟩ : ∃ w0, w0 = (w.alloc (.cells #[.int .i64 xk, .string X] 52)).alloc (.cells #[.int .i64 yk, .string Y] 52) ∧ Bx2c w0 w.heap.size (.int .i64 xk) (.string X) ∧ Bx2c w0 (w.heap.size + 1) (.int .i64 yk) (.string Y) ∧ Below w.heap.size w w0 :=
    ⟨_, rfl, (Bx2c.made _ _ _).keep (bA (Below.refl _ _) _), by
      have := Bx2c.made (w.alloc (.cells #[.int .i64 xk, .string X] 52)) (.int .i64 yk) (.string Y)
      rw [show (w.alloc (.cells #[.int .i64 xk, .string X] 52)).heap.size = w.heap.size + 1 by simp] at this
      exact this, bA (bA (Below.refl _ _) _) _⟩
  have HW0 := hide hw0
  have BY := hide hB2
  have F0 := hide f0
  obtain ⟨x0, x1, x2⟩ := hB1.cells
  obtain ⟨z0, z1, z2⟩ := hB2.cells
  clear hw0 hB1 hB2 f0
  by_cases ha : ak = 4
  case neg =>
    have ha1 : (ak == 4) = false := by simpa using ha
    rw [decide_eq_false ha, Bool.false_and, Bool.false_and]
    go_enter Tryz.func64, Tryz.ntmps64
    go_wp2_with fail
    rw [← unhide HW0]
    refine (unhide HE1 w0).mono ?_
    rintro e w1 ⟨rfl, f1⟩
    have b1 : Bx2c (w1.alloc (.cells #[.int .i64 ak, .string A] 52)) (w.heap.size + 1) (.int .i64 yk) (.string Y) := ((unhide BY).keep f1).keep (bA (Below.refl _ _) _)
    have g1 : Below w.heap.size w (w1.alloc (.cells #[.int .i64 ak, .string A] 52)) := bA ((unhide F0).trans (f1.mono (unhide F0).size)) _
    have ba : Bx2c (w1.alloc (.cells #[.int .i64 ak, .string A] 52)) w1.heap.size (.int .i64 ak) (.string A) := Bx2c.made _ _ _
    obtain ⟨y0, y1, y2⟩ := b1.cells
    have BA := hide ba
    have G1 := hide g1
    clear f1 b1 g1 ba x0 x1 x2 z0 z1 z2
    go_wp2_with fail
    refine (unhide HE2 _).mono ?_
    rintro e w2 ⟨rfl, f2⟩
    have ba2 : Bx2c (w2.alloc (.cells #[.int .i64 bk, .string B] 52)) w1.heap.size (.int .i64 ak) (.string A) := ((unhide BA).keep f2).keep (bA (Below.refl _ _) _)
    have bb2 : Bx2c (w2.alloc (.cells #[.int .i64 bk, .string B] 52)) w2.heap.size (.int .i64 bk) (.string B) := Bx2c.made _ _ _
    have g2 : Below w.heap.size w (w2.alloc (.cells #[.int .i64 bk, .string B] 52)) := bA ((unhide G1).trans (f2.mono (unhide G1).size)) _
    clear y0 y1 y2
    obtain ⟨a0, a1, a2⟩ := ba2.cells
    obtain ⟨b0, b1, b2⟩ := bb2.cells
    have G2 := hide g2
    clear f2 ba2 bb2 g2
    go_wp2
    go_ret
    exact ⟨rfl, unhide G2⟩
  subst ha
  by_cases hb : bk = 4
  case neg =>
    have hb1 : (bk == 4) = false := by simpa using hb
    rw [decide_eq_false hb, Bool.and_false, Bool.false_and]
    go_enter Tryz.func64, Tryz.ntmps64
    go_wp2_with fail
    rw [← unhide HW0]
    refine (unhide HE1 w0).mono ?_
    rintro e w1 ⟨rfl, f1⟩
    have b1 : Bx2c (w1.alloc (.cells #[.int .i64 4, .string A] 52)) (w.heap.size + 1) (.int .i64 yk) (.string Y) := ((unhide BY).keep f1).keep (bA (Below.refl _ _) _)
    have g1 : Below w.heap.size w (w1.alloc (.cells #[.int .i64 4, .string A] 52)) := bA ((unhide F0).trans (f1.mono (unhide F0).size)) _
    have ba : Bx2c (w1.alloc (.cells #[.int .i64 4, .string A] 52)) w1.heap.size (.int .i64 4) (.string A) := Bx2c.made _ _ _
    obtain ⟨y0, y1, y2⟩ := b1.cells
    have BA := hide ba
    have G1 := hide g1
    clear f1 b1 g1 ba x0 x1 x2 z0 z1 z2
    go_wp2_with fail
    refine (unhide HE2 _).mono ?_
    rintro e w2 ⟨rfl, f2⟩
    have ba2 : Bx2c (w2.alloc (.cells #[.int .i64 bk, .string B] 52)) w1.heap.size (.int .i64 4) (.string A) := ((unhide BA).keep f2).keep (bA (Below.refl _ _) _)
    have bb2 : Bx2c (w2.alloc (.cells #[.int .i64 bk, .string B] 52)) w2.heap.size (.int .i64 bk) (.string B) := Bx2c.made _ _ _
    have g2 : Below w.heap.size w (w2.alloc (.cells #[.int .i64 bk, .string B] 52)) := bA ((unhide G1).trans (f2.mono (unhide G1).size)) _
    clear y0 y1 y2
    obtain ⟨a0, a1, a2⟩ := ba2.cells
    obtain ⟨b0, b1, b2⟩ := bb2.cells
    have G2 := hide g2
    clear f2 ba2 bb2 g2
    go_wp2
    go_ret
    exact ⟨rfl, unhide G2⟩
  subst hb
  rw [show (decide ((4 : Int) = 4) && decide ((4 : Int) = 4) && mayP l g ⟨4, an⟩ ⟨4, bn⟩) = mayP l g ⟨4, an⟩ ⟨4, bn⟩ by simp]
  generalize mayP l g ⟨4, an⟩ ⟨4, bn⟩ = mv at *
  go_enter Tryz.func64, Tryz.ntmps64
  go_wp2_with fail
  rw [← unhide HW0]
  refine (unhide HE1 w0).mono ?_
  rintro e w1 ⟨rfl, f1⟩
  have b1 : Bx2c (w1.alloc (.cells #[.int .i64 4, .string A] 52)) (w.heap.size + 1) (.int .i64 yk) (.string Y) := ((unhide BY).keep f1).keep (bA (Below.refl _ _) _)
  have g1 : Below w.heap.size w (w1.alloc (.cells #[.int .i64 4, .string A] 52)) := bA ((unhide F0).trans (f1.mono (unhide F0).size)) _
  have ba : Bx2c (w1.alloc (.cells #[.int .i64 4, .string A] 52)) w1.heap.size (.int .i64 4) (.string A) := Bx2c.made _ _ _
  obtain ⟨y0, y1, y2⟩ := b1.cells
  have BA := hide ba
  have G1 := hide g1
  clear f1 b1 g1 ba x0 x1 x2 z0 z1 z2
  go_wp2_with fail
  refine (unhide HE2 _).mono ?_
  rintro e w2 ⟨rfl, f2⟩
  have ba2 : Bx2c (w2.alloc (.cells #[.int .i64 4, .string B] 52)) w1.heap.size (.int .i64 4) (.string A) := ((unhide BA).keep f2).keep (bA (Below.refl _ _) _)
  have bb2 : Bx2c (w2.alloc (.cells #[.int .i64 4, .string B] 52)) w2.heap.size (.int .i64 4) (.string B) := Bx2c.made _ _ _
  have g2 : Below w.heap.size w (w2.alloc (.cells #[.int .i64 4, .string B] 52)) := bA ((unhide G1).trans (f2.mono (unhide G1).size)) _
  clear y0 y1 y2
  obtain ⟨a0, a1, a2⟩ := ba2.cells
  obtain ⟨b0, b1, b2⟩ := bb2.cells
  have G2 := hide g2
  clear f2 ba2 bb2 g2
  have HM2 := hide (unhide HMY _ (unhide G2))
  go_wp2_with fail
  refine (unhide HM2).mono ?_
  rintro e w3 ⟨rfl, f3⟩
  have G3 := hide ((unhide G2).trans (f3.mono (unhide G2).size))
  clear f3 HM2
  go_wp2
  go_ret
  exact ⟨by simp, unhide G3⟩
end Go.Proofs.YthenefjoidckkaaGreatDoor

/- The landed mayRef, whole. -/
namespace Go.Proofs.YthenefjoidckkaaGreatDoor
open Go.RowKit Go.Shelf
set_option linter.unusedVariables false
set_option maxRecDepth 100000

/-- The boxes of mayRef. -/
theorem ref_boxes (w : World) (kx ky : Int) (X Y : ByteArray) : ∃ w0, w0 = ((w.alloc (.cells #[.int .i64 kx, .string X] 52)).alloc (.cells #[.int .i64 ky, .string Y] 52)).alloc (.cells #[.bool false] 4) ∧ Bx2c w0 w.heap.size (.int .i64 kx) (.string X) ∧ Bx2c w0 (w.heap.size + 1) (.int .i64 ky) (.string Y) ∧ w0.heap[w.heap.size + 1 + 1]? = some (.cells #[.bool false] 4 (0, 0)) ∧ Below w.heap.size w w0 := by
  refine ⟨_, rfl, ((Bx2c.made _ _ _).keep (bA (Below.refl _ _) _)).keep (bA (Below.refl _ _) _), ?_, ?_, bA (bA (bA (Below.refl _ _) _) _) _⟩
  · have t := Bx2c.made (w.alloc (.cells #[.int .i64 kx, .string X] 52)) (.int .i64 ky) (.string Y)
    rw [show (w.alloc (.cells #[.int .i64 kx, .string X] 52)).heap.size = w.heap.size + 1 by simp] at t
    exact t.keep (bA (Below.refl _ _) _)
  · have t := heap_alloc_last ((w.alloc (.cells #[.int .i64 kx, .string X] 52)).alloc (.cells #[.int .i64 ky, .string Y] 52)) (.cells #[.bool false] 4)
    rw [show ((w.alloc (.cells #[.int .i64 kx, .string X] 52)).alloc (.cells #[.int .i64 ky, .string Y] 52)).heap.size = w.heap.size + 1 + 1 by simp] at t
    exact t
theorem refP_yes {l : List Nc} {f : Nat} {x y : Ty} (h : y.name = objN) : refP l f x y = true := if_pos h
theorem refP_no {l : List Nc} {f : Nat} {x y : Ty} (h : y.name ≠ objN) (ha : arrB x.name ≠ arrB y.name) : refP l f x y = false := by unfold refP; rw [if_neg h, if_pos ha]
theorem refP_arr {l : List Nc} {f : Nat} {x y : Ty} (h : y.name ≠ objN) (hx : arrB x.name = true) (hy : arrB y.name = true) : refP l f x y = arrP l f x y := by
  unfold refP
  rw [if_neg h, if_neg (by rw [hx, hy]; simp), if_pos hx]
  rfl
theorem refP_cls {l : List Nc} {f : Nat} {x y : Ty} (h : y.name ≠ objN) (hx : arrB x.name = false) (hy : arrB y.name = false) : refP l f x y = decide (y.name ∈ upL l x.name) := by
  unfold refP
  rw [if_neg h, if_neg (by rw [hx, hy]; simp), if_neg (by rw [hx]; decide)]
set_option maxHeartbeats 1600000 in
theorem mayRef_obj (w : World) (v : Value) (X : ByteArray) (kx ky : Int) :
    Calls Tryz.prog 46 #[v, .agg #[.int .i64 kx, .string X], .agg #[.int .i64 ky, .string ⟨objN.toArray⟩]] w fun e w' => e = .returned (.bool true) ∧ Below w.heap.size w w' := by
  show Calls Tryz.prog 46 #[v, .agg #[.int .i64 kx, .string X], .agg #[.int .i64 ky, .string ⟨#[79, 98, 106, 101, 99, 116]⟩]] w fun e w' => e = .returned (.bool true) ∧ Below w.heap.size w w'
  go_enter Tryz.func46, Tryz.ntmps46
  go_wp2
  have t := heap_alloc_last ((w.alloc (.cells #[.int .i64 kx, .string X] 52)).alloc (.cells #[.int .i64 ky, .string ⟨#[79, 98, 106, 101, 99, 116]⟩] 52)) (.cells #[.bool true] 4)
  rw [show ((w.alloc (.cells #[.int .i64 kx, .string X] 52)).alloc (.cells #[.int .i64 ky, .string ⟨#[79, 98, 106, 101, 99, 116]⟩] 52)).heap.size = w.heap.size + 1 + 1 by simp] at t
  exact bodyPost_ret (bool_ret Tryz.results46 _ (w.heap.size + 1 + 1) _ t _ rfl) rfl ⟨rfl, bA (bA (bA (Below.refl _ _) _) _) _⟩
set_option maxHeartbeats 3200000 in
theorem mayRef_arr (f : Nat) (hM : ∀ g, g < f → MayOk g) (w : World) (a : Option Addr) (n cap : Nat) (l : List Nc) (hL : Ls 5 ncc w a n l) (hn : n ≤ 40) (X Y : ByteArray) (x y : Ty) (hX : Str X x.name) (hY : Str Y y.name) (hf : x.name.length ≤ f) (hx : x.name.length ≤ 140737488351232) (hy : y.name.length ≤ 140737488351232) (hO : y.name ≠ objN) (hax : arrB x.name = true ∨ arrB y.name = true) :
    Calls Tryz.prog 46 #[.slice a n cap, .agg #[.int .i64 x.kind, .string X], .agg #[.int .i64 y.kind, .string Y]] w fun e w' => e = .returned (.bool (refP l f x y)) ∧ Below w.heap.size w w' := by
  have o1 : ¬ Y.toList = [79, 98, 106, 101, 99, 116] := by rw [hY.list]; exact hO
  have o2 : (Y.toList == [79, 98, 106, 101, 99, 116]) = false := by simpa using o1
  have HAX : Hid (∀ W, Calls Tryz.prog 63 #[.string X] W fun e w' => e = .returned (.bool (arrB x.name)) ∧ w' = W) := fun W => yarray_any W X x.name hX
  have HAY : Hid (∀ W, Calls Tryz.prog 63 #[.string Y] W fun e w' => e = .returned (.bool (arrB y.name)) ∧ w' = W) := fun W => yarray_any W Y y.name hY
  have HMA : Hid (arrB x.name = true → ∀ W, Below w.heap.size w W → Calls Tryz.prog 64 #[.slice a n cap, .agg #[.int .i64 x.kind, .string X], .agg #[.int .i64 y.kind, .string Y]] W fun e w' => e = .returned (.bool (arrP l f x y)) ∧ Below W.heap.size W w') := fun h W fW => mayArray_any f hM W a n cap l (hL.below fW) hn X Y x y hX hY hf hx hy (by obtain ⟨s, hs⟩ := arr_cons h; rw [hs]; simp)
  obtain ⟨w0, hw0, bx, by_, br, f0⟩ := ref_boxes w x.kind y.kind X Y
  obtain ⟨SS, hSS⟩ : ∃ SS : World → Prop, SS = fun W => Below w0.heap.size w0 W := ⟨_, rfl⟩
  have KI : Hid (∀ W, Below w0.heap.size w0 W → SS W) := fun W f => by rw [hSS]; exact f
  have KE : Hid (∀ W, SS W → Bx2c W w.heap.size (.int .i64 x.kind) (.string X) ∧ Bx2c W (w.heap.size + 1) (.int .i64 y.kind) (.string Y)) := fun W h => by rw [hSS] at h; exact ⟨bx.keep h, by_.keep h⟩
  have KB : Hid (∀ W, SS W → Below w.heap.size w W ∧ W.heap[w.heap.size + 1 + 1]? = some (.cells #[.bool false] 4 (0, 0))) := fun W h => by rw [hSS] at h; exact ⟨f0.trans (h.mono f0.size), (h.block _ (lt_of_heap br)).trans br⟩
  have HW0 := hide hw0
  have HRN : Hid (arrB x.name ≠ arrB y.name → refP l f x y = false) := fun h => refP_no hO h
  have HRA : Hid (arrB x.name = true → arrB y.name = true → refP l f x y = arrP l f x y) := fun h1 h2 => refP_arr hO h1 h2
  clear hw0 hSS bx by_ br f0 hL hX hY hM hO
  generalize refP l f x y = rv at *
  generalize arrP l f x y = av at *
  obtain ⟨xk, xn⟩ := x
  obtain ⟨yk, yn⟩ := y
  simp only at *
  generalize arrB xn = p1 at *
  generalize arrB yn = p2 at *
  go_enter Tryz.func46, Tryz.ntmps46
  go_wp2
  rw [← unhide HW0]
  refine wp_region_seq SS (by kernel_rfl) (by kernel_rfl) (unhide KI _ (Below.drew (Below.refl _ _))) ?_
  repeat (first
    | (refine SeqDo.yields (v := ?_) (by rfl) ?_ ?_; rotate_left; (focus ((intro W hSW; obtain ⟨⟨q0, q1, q2⟩, ⟨q3, q4, q5⟩⟩ := And.intro (unhide KE W hSW).1.cells (unhide KE W hSW).2.cells; go_simp) <;> with_reducible rfl)); simp only [Act.put, List.setIfInBounds_toArray, List.set_cons_zero, List.set_cons_succ])
    | (refine SeqDo.does (v := .bool p1) (by rfl) (fun W hSW KK hKK => ?_) ?_; (focus (go_simp; go_wp2_with (go_at_call 63; refine (unhide HAX W).mono ?_; rintro e W' ⟨rfl, hw⟩; rw [hw]); exact hKK.out _ hSW)); simp only [Act.put, List.setIfInBounds_toArray, List.set_cons_zero, List.set_cons_succ])
    | (refine SeqDo.does (v := .bool p2) (by rfl) (fun W hSW KK hKK => ?_) ?_; (focus (go_simp; go_wp2_with (go_at_call 63; refine (unhide HAY W).mono ?_; rintro e W' ⟨rfl, hw⟩; rw [hw]); exact hKK.out _ hSW)); simp only [Act.put, List.setIfInBounds_toArray, List.set_cons_zero, List.set_cons_succ]))
  intro W hSW
  obtain ⟨⟨q0, q1, q2⟩, ⟨q3, q4, q5⟩⟩ := And.intro (unhide KE W hSW).1.cells (unhide KE W hSW).2.cells
  obtain ⟨gW, rW⟩ := unhide KB W hSW
  have r0 : W.cell? ⟨w.heap.size + 1 + 1, 0, none⟩ = some (.bool false) := by rw [cell_of_row _ _ _ _ _ _ rW]; rfl
  have r1 : W.frozen? ⟨w.heap.size + 1 + 1, 0, none⟩ = false := frozen_of_row _ _ _ _ _ rW
  have GW := hide gW
  have RW := hide rW
  clear gW rW
  cases p1
  · cases p2
    · rcases hax with h | h <;> cases h
    · have hv := unhide HRN (by decide)
      have HV := hide hv
      clear hv
      go_wp2
      refine bodyPost_ret (bool_ret Tryz.results46 _ (w.heap.size + 1 + 1) _ (heap_setCell_same W _ 0 _ _ _ (unhide RW)) _ rfl) rfl ⟨by rw [unhide HV], (unhide GW).setCell (p := ⟨w.heap.size + 1 + 1, 0, none⟩) (by show w.heap.size ≤ w.heap.size + 1 + 1; omega) _⟩
  · cases p2
    · have hv := unhide HRN (by decide)
      have HV := hide hv
      clear hv
      go_wp2
      refine bodyPost_ret (bool_ret Tryz.results46 _ (w.heap.size + 1 + 1) _ (heap_setCell_same W _ 0 _ _ _ (unhide RW)) _ rfl) rfl ⟨by rw [unhide HV], (unhide GW).setCell (p := ⟨w.heap.size + 1 + 1, 0, none⟩) (by show w.heap.size ≤ w.heap.size + 1 + 1; omega) _⟩
    · have hv := unhide HRA rfl rfl
      have HV := hide hv
      clear hv
      have HMW := hide (unhide HMA rfl W (unhide GW))
      go_wp2_with (go_at_call 63; refine (unhide HAX W).mono ?_; rintro e W' ⟨rfl, hw⟩; rw [hw]; clear hw)
      refine (unhide HMW).mono ?_
      rintro e w3 ⟨rfl, f3⟩
      have R3 := hide ((f3.block _ (lt_of_heap (unhide RW))).trans (unhide RW))
      have G3 := hide ((unhide GW).trans (f3.mono (unhide GW).size))
      clear r0 r1 q0 q1 q2 q3 q4 q5
      have r0 : w3.cell? ⟨w.heap.size + 1 + 1, 0, none⟩ = some (.bool false) := by rw [cell_of_row _ _ _ _ _ _ (unhide R3)]; rfl
      have r1 : w3.frozen? ⟨w.heap.size + 1 + 1, 0, none⟩ = false := frozen_of_row _ _ _ _ _ (unhide R3)
      clear f3 HMW
      go_wp2
      refine bodyPost_ret (bool_ret Tryz.results46 _ (w.heap.size + 1 + 1) _ (heap_setCell_same w3 _ 0 _ _ _ (unhide R3)) _ rfl) rfl ⟨by rw [unhide HV], (unhide G3).setCell (p := ⟨w.heap.size + 1 + 1, 0, none⟩) (by show w.heap.size ≤ w.heap.size + 1 + 1; omega) _⟩
theorem mayRef_any (f : Nat) (hM : ∀ g, g < f → MayOk g) (w : World) (a : Option Addr) (n cap : Nat) (l : List Nc) (hL : Ls 5 ncc w a n l) (hn : n ≤ 40) (X Y : ByteArray) (x y : Ty) (hX : Str X x.name) (hY : Str Y y.name) (hf : x.name.length ≤ f) (hx : x.name.length ≤ 140737488351232) (hy : y.name.length ≤ 140737488351232) :
    Calls Tryz.prog 46 #[.slice a n cap, .agg #[.int .i64 x.kind, .string X], .agg #[.int .i64 y.kind, .string Y]] w fun e w' => e = .returned (.bool (refP l f x y)) ∧ Below w.heap.size w w' := by
  by_cases hO : y.name = objN
  · rw [refP_yes hO, hY.eq, hO]
    exact mayRef_obj w _ X x.kind y.kind
  · by_cases hax : arrB x.name = true ∨ arrB y.name = true
    · exact mayRef_arr f hM w a n cap l hL hn X Y x y hX hY hf hx hy hO hax
    · have h1 : arrB x.name = false := by cases h : arrB x.name; rfl; exact absurd (.inl h) hax
      have h2 : arrB y.name = false := by cases h : arrB y.name; rfl; exact absurd (.inr h) hax
      rw [refP_cls hO h1 h2]
      exact callsIn_wide.1 (mayRef_classes w a n cap l hL hn X Y x.name y.name hX hY x.kind y.kind hO h1 h2)
theorem mayP_is (l : List Nc) (f : Nat) (x y : Ty) : mayP l f x y = if y.kind = 0 ∨ x = y then true else if y.kind ≠ 4 then false else if x.kind ≠ 4 then decide (x.kind = 3) else refP l f x y := by
  unfold mayP refP
  cases f <;> rfl
end Go.Proofs.YthenefjoidckkaaGreatDoor

/- The landed May, whole. -/
namespace Go.Proofs.YthenefjoidckkaaGreatDoor
open Go.RowKit Go.Shelf
set_option linter.unusedVariables false
set_option maxRecDepth 100000

set_option maxHeartbeats 1600000 in
theorem may_step (f : Nat) (hM : ∀ g, g < f → MayOk g) : MayOk f := by
  intro w a n cap l hL hn X Y x y hX hY hf hx hy
  rw [mayP_is]
  have HR : Hid (∀ W, Below w.heap.size w W → Calls Tryz.prog 46 #[.slice a n cap, .agg #[.int .i64 x.kind, .string X], .agg #[.int .i64 y.kind, .string Y]] W fun e w' => e = .returned (.bool (refP l f x y)) ∧ Below W.heap.size W w') := fun W fW => mayRef_any f hM W a n cap l (hL.below fW) hn X Y x y hX hY hf hx hy
  have hEq : x = y ↔ x.kind = y.kind ∧ X = Y := by
    rw [hX.eq, hY.eq]
    obtain ⟨xk, xn⟩ := x
    obtain ⟨yk, yn⟩ := y
    simp
  generalize refP l f x y = rv at *
  have JE : ∀ W, (binOp .eql 52 (.agg #[.int .i64 x.kind, .string X]) (.agg #[.int .i64 y.kind, .string Y])).run Tryz.prog W = .ok (.bool (decide (x = y))) W := fun W => by
    rw [ty_cmp]
    congr 2
    rw [decide_eq_decide]
    exact hEq.symm
  clear hM hL hX hY hEq
  have f0 : Below w.heap.size w ((w.alloc (.cells #[.int .i64 x.kind, .string X] 52)).alloc (.cells #[.int .i64 y.kind, .string Y] 52)) := bA (bA (Below.refl _ _) _) _
  have F0 := hide f0
  have HR0 := hide (unhide HR _ f0)
  clear f0 HR
  generalize hde : decide (x = y) = de at *
  have hd : x = y ↔ de = true := by rw [← hde]; simp
  obtain ⟨xk, xn⟩ := x
  obtain ⟨yk, yn⟩ := y
  simp only at *
  by_cases y0 : yk = 0
  · subst y0
    rw [if_pos (.inl rfl)]
    go_enter Tryz.func31, Tryz.ntmps31
    go_wp2
    go_ret
    exact ⟨rfl, unhide F0⟩
  have y0' : (yk == 0) = false := by simpa using y0
  cases de
  case true =>
    rw [if_pos (.inr (hd.2 rfl))]
    clear hd hde
    go_enter Tryz.func31, Tryz.ntmps31
    go_wp2
    go_ret
    exact ⟨rfl, unhide F0⟩
  rw [if_neg (fun h => h.elim y0 (fun h => by have := hd.1 h; cases this))]
  clear hd hde
  by_cases y4 : yk = 4
  case neg =>
    have y4' : (yk == 4) = false := by simpa using y4
    have y4'' : (yk != 4) = true := by simpa using y4
    rw [if_pos y4]
    go_enter Tryz.func31, Tryz.ntmps31
    go_wp2
    go_ret
    exact ⟨rfl, unhide F0⟩
  subst y4
  rw [if_neg (by simp)]
  by_cases x4 : xk = 4
  case pos =>
    subst x4
    rw [if_neg (by simp)]
    go_enter Tryz.func31, Tryz.ntmps31
    go_wp2_with fail
    refine (unhide HR0).mono ?_
    rintro e w1 ⟨rfl, f1⟩
    have F1 := hide ((unhide F0).trans (f1.mono (unhide F0).size))
    clear f1
    go_wp2
    go_ret
    exact ⟨rfl, unhide F1⟩
  case neg =>
    have x4' : (xk == 4) = false := by simpa using x4
    rw [if_pos x4]
    go_enter Tryz.func31, Tryz.ntmps31
    go_wp2
    go_ret
    exact ⟨ret_iff (by simp), unhide F0⟩
theorem yMay_any (f : Nat) : MayOk f := Nat.strongRecOn f may_step
end Go.Proofs.YthenefjoidckkaaGreatDoor

/- What may stand for what is an order, as plain values. -/
namespace Go.Proofs.YthenefjoidckkaaGreatDoor
open Go.RowKit
set_option linter.unusedVariables false

/-- The name above. -/
def nxt (l : List Nc) (nm : List UInt8) : Option (List UInt8) := match fstN l nm with
  | none => none
  | some p => if supAt l p = [] then none else some (supAt l p)
end Go.Proofs.YthenefjoidckkaaGreatDoor

/- The walk of KindTells. -/
namespace Go.Proofs.YthenefjoidckkaaGreatDoor
open Go.RowKit
set_option linter.unusedVariables false
set_option maxRecDepth 100000

end Go.Proofs.YthenefjoidckkaaGreatDoor
