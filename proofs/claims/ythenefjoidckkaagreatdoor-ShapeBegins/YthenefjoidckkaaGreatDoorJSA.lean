/- Joined: ShX ShY ShZ Sh1a Sh2. -/
import Derived.Test.YthenefjoidckkaaGreatDoorJShW
import Derived.Test.YthenefjoidckkaaGreatDoorJL6
import Derived.Test.YthenefjoidckkaaGreatDoorJW1
import Derived.Test.YthenefjoidckkaaGreatDoorJK7

/- Layer 11: the chapter's examples work. -/
namespace Go.Proofs.YthenefjoidckkaaGreatDoor
open Go.RowKit
set_option linter.unusedVariables false
set_option maxRecDepth 100000

theorem may_I : mayT [] tyI tyI = true := by decide
theorem may_JI : mayT [] tyJ tyI = false := by decide
theorem st133 : stepT ⟨[], [], ty0, (plainOA 133 0).1, (plainOA 133 0).2⟩ 4 [] [tyI] = some ([], [tyJ]) := by
  rw [show plainOA 133 0 = (133, 0) by decide]
  unfold stepT tabP
  simp [doD, popD, takeD, pushD, may_I, wideN, tyJ]
theorem st96 : stepT ⟨[], [], ty0, (plainOA 96 0).1, (plainOA 96 0).2⟩ 4 [] [tyI, tyI] = some ([], [tyI]) := by
  rw [show plainOA 96 0 = (96, 0) by decide]
  unfold stepT tabP
  simp [doD, popD, takeD, pushD, may_I]
  simp [wideN, tyI]
theorem st96n : stepT ⟨[], [], ty0, (plainOA 96 0).1, (plainOA 96 0).2⟩ 4 [] [tyI, tyJ] = none := by
  rw [show plainOA 96 0 = (96, 0) by decide]
  unfold stepT tabP
  simp [doD, popD, takeD, pushD, may_JI]
/-- A Step of a law's own, with nothing around it. -/
theorem step_bare (w : World) (hT : Tab9s w) (op : Int) (p n : Nat) (v : List Ty) (hv : Ls 2 tyc w (some ⟨p, 0, none⟩) n v) (hn : n ≤ 2) (hok : ∀ t ∈ v, t = tyI ∨ t = tyJ) :
    Calls Tryz.prog 20 #[.slice none 0 0, .agg #[.slice none 0 0, .string ⟨#[]⟩, .string ⟨#[]⟩, .slice none 0 0, .slice none 0 0], .agg #[.int .i64 0, .string ⟨#[]⟩], .agg #[.int .i64 0, .int .i64 op, .int .i64 0, .int .i64 0, .slice none 0 0], .agg #[.slice none 0 0, .slice (some ⟨p, 0, none⟩) n n], .int .i64 4] w fun e w' => step_post w (stepT ⟨[], [], ty0, (plainOA op 0).1, (plainOA op 0).2⟩ 4 [] v) e w' :=
  p11Step_any w none 0 0 none 0 0 ⟨none, 0, 0⟩ ⟨none, 0, 0⟩ ⟨some ⟨p, 0, none⟩, n, n⟩ [] [] ty0 0 op 0 0 [] [] v _ _ _ _ 4
    ⟨⟨rfl, .inl rfl⟩, by omega, ⟨rfl, .inl rfl⟩, by omega, ⟨by simp, by simp⟩, by unfold nmOk ty0; simp, by omega, ⟨rfl, .inl rfl⟩, fun _ => ⟨rfl, rfl⟩, by simp, hT, ⟨⟨rfl, .inl rfl⟩, hv, by simp, fun t ht => by rcases hok t ht with rfl | rfl <;> (unfold nmOk; simp [tyI, tyJ]), by simp, by simp only; omega⟩, fun _ => ⟨rfl, rfl⟩, (fun e => by cases e), by simp, by simp only; omega⟩
theorem tys_lit2 (w : World) (x y : Ty) : Ls 2 tyc (w.alloc (.cells #[.int .i64 x.kind, .string ⟨x.name.toArray⟩, .int .i64 y.kind, .string ⟨y.name.toArray⟩] 52)) (some ⟨w.heap.size, 0, none⟩) 2 [x, y] := by
  have hrow := heap_alloc_last w (.cells #[.int .i64 x.kind, .string ⟨x.name.toArray⟩, .int .i64 y.kind, .string ⟨y.name.toArray⟩] 52)
  have ho : Orw tyc 52 2 (w.alloc (.cells #[.int .i64 x.kind, .string ⟨x.name.toArray⟩, .int .i64 y.kind, .string ⟨y.name.toArray⟩] 52)) w.heap.size (.slice (some ⟨w.heap.size, 0, none⟩) 2 2) [x, y] := ⟨rfl, .inr ⟨_, 2, _, rfl, Nat.le_refl _, hrow, by simp, by unfold maxLen; omega, rfl, rfl⟩⟩
  exact ho.ls rkT
theorem lin_of {w : World} {base : Nat} {a : Option Addr} {n c : Nat} {l : List Ty} (h : Orw tyc 52 2 w base (.slice a n c) l) (hs : n ≤ 1000) (hk : ∀ t ∈ l, TyFit t) : LIn 2 24 tyc TyFit w ⟨a, n, c⟩ l := by
  obtain ⟨a', c', e', h1, h2, h3⟩ := h.form
  injection e' with e1 e2 e3
  exact ⟨h.ls rkT, by simp only; omega, by simp only; omega, fun e => by simp only at e ⊢; rw [e2, e3]; exact h1 (e1 ▸ e), by simp only; omega, hk⟩
theorem lin_lit (w : World) (x : Ty) (hx : TyFit x) : LIn 2 24 tyc TyFit (w.alloc (.cells #[.int .i64 x.kind, .string ⟨x.name.toArray⟩] 52)) ⟨some ⟨w.heap.size, 0, none⟩, 1, 1⟩ [x] :=
  ⟨ls_one (cs := tyc) (sz := 2) w _ _ x rfl, Nat.le_refl _, by simp, (fun e => by cases e), by simp, fun y hy => by rw [List.mem_singleton.1 hy]; exact hx⟩
theorem fitIJ : TyFit tyI ∧ TyFit tyJ := by unfold TyFit fitI fitS tyI tyJ; simp
theorem cell_alloc11 {W : World} {p : Addr} {v : Value} (h : W.cell? p = some v) (Z : Obj) : (W.alloc Z).cell? p = some v := ((bA (Below.refl _ _) Z : Below W.heap.size W _).cell (World.block_lt_of_cell? W _ h)).trans h
set_option maxHeartbeats 2000000 in
theorem works11_any (w : World) (hT : Tab9s w) : Calls Tryz.prog 17 #[] w fun e w' => e = .returned (.bool true) ∧ Below w.heap.size w w' := by
  obtain ⟨w2, hw2⟩ : ∃ w2, w2 = (w.alloc (.cells #[.int .i64 1, .string ⟨#[]⟩] 52)).alloc (.cells #[.int .i64 2, .string ⟨#[]⟩] 52) := ⟨_, rfl⟩
  have f2 : Below w.heap.size w w2 := by rw [hw2]; exact bA (bA (Below.refl _ _) _) _
  have z2 : w2.heap.size = w.heap.size + 1 + 1 := by rw [hw2]; simp
  have bI : Bx2c w2 w.heap.size (.int .i64 1) (.string ⟨#[]⟩) := by rw [hw2]; exact (Bx2c.made _ _ _).keep (bA (Below.refl _ _) _)
  have bJ : Bx2c w2 (w.heap.size + 1) (.int .i64 2) (.string ⟨#[]⟩) := by
    rw [hw2]
    have t := Bx2c.made (w.alloc (.cells #[.int .i64 1, .string ⟨#[]⟩] 52)) (.int .i64 2) (.string ⟨#[]⟩)
    rw [show (w.alloc (.cells #[.int .i64 1, .string ⟨#[]⟩] 52)).heap.size = w.heap.size + 1 by simp] at t
    exact t
  have g1 : Below w2.heap.size w2 (w2.alloc (.cells #[.int .i64 1, .string ⟨#[]⟩] 52)) := bA (Below.refl _ _) _
  have S1 := step_bare (w2.alloc (.cells #[.int .i64 1, .string ⟨#[]⟩] 52)) (hT.below (f2.trans (g1.mono f2.size))) 133 w2.heap.size 1 [tyI] (ls_one (cs := tyc) (sz := 2) w2 _ _ tyI rfl) (by omega) (by simp)
  rw [st133, z2] at S1
  unfold step_post Sl.v at S1
  have HS1 := hide S1
  have HW2 := hide hw2
  have X2 := hide (And.intro f2 (And.intro bI (And.intro bJ hT)))
  clear hw2 f2 z2 bI bJ g1 S1 hT
  go_enter Tryz.func17, Tryz.ntmps17
  go_wp2_with fail
  rw [← unhide HW2]
  refine (unhide HS1).mono ?_
  rintro e w3 ⟨f3, ⟨la, ln, lc⟩, ⟨sa, sn, sc⟩, rfl, _, o3, _, _⟩
  obtain ⟨f2, bI, bJ, hT⟩ := unhide X2
  have g3 : Below w2.heap.size w2 w3 := (bA (Below.refl _ w2) _).trans (f3.mono (by simp))
  obtain ⟨w4, hw4⟩ : ∃ w4, w4 = w3.alloc (.cells #[.slice la ln lc, .slice sa sn sc] 32) := ⟨_, rfl⟩
  have g4 : Below w2.heap.size w2 w4 := by rw [hw4]; exact bA g3 _
  have z4 : w4.heap.size = w3.heap.size + 1 := by rw [hw4]; simp
  have f34 : Below w3.heap.size w3 w4 := by rw [hw4]; exact bA (Below.refl _ _) _
  have ba : w4.heap[w3.heap.size]? = some (.cells #[.slice la ln lc, .slice sa sn sc] 32 (0, 0)) := by rw [hw4]; exact heap_alloc_last _ _
  have bI4 := bI.keep g4
  have bJ4 := bJ.keep g4
  have ow4 := o3.below (w' := w4) fun j hj => f34.block j (o3.lt j hj).2
  have i0 := cell_alloc11 (bI.keep g3).cells.1
  have i1 := cell_alloc11 (bI.keep g3).cells.2.1
  have f4 := f2.trans (g4.mono f2.size)
  have g5 : Below w4.heap.size w4 (w4.alloc (.cells #[.int .i64 1, .string ⟨#[]⟩, .int .i64 1, .string ⟨#[]⟩] 52)) := bA (Below.refl _ _) _
  have S2 := step_bare (w4.alloc (.cells #[.int .i64 1, .string ⟨#[]⟩, .int .i64 1, .string ⟨#[]⟩] 52)) (hT.below (f4.trans (g5.mono f4.size))) 96 w4.heap.size 2 [tyI, tyI] (tys_lit2 w4 tyI tyI) (by omega) (by simp)
  rw [st96, z4] at S2
  unfold step_post Sl.v at S2
  have HS2 := hide S2
  have HW4 := hide hw4
  have X4 := hide (And.intro f4 (And.intro bI4 (And.intro bJ4 (And.intro hT (And.intro ba ow4)))))
  clear f2 bI bJ hT g3 g4 z4 f34 ba bI4 bJ4 ow4 f4 g5 S2 hw4 f3 o3 X2 HS1 HW2
  simp only
  go_wp2_with fail
  rw [← unhide HW4]
  refine (unhide HS2).mono ?_
  rintro e w5 ⟨f5, ⟨la2, ln2, lc2⟩, ⟨sa2, sn2, sc2⟩, rfl, _, o5, _, _⟩
  obtain ⟨f4, bI4, bJ4, hT, ba, ow4⟩ := unhide X4
  have g5 : Below w4.heap.size w4 w5 := (bA (Below.refl _ w4) _).trans (f5.mono (by simp))
  obtain ⟨w6, hw6⟩ : ∃ w6, w6 = w5.alloc (.cells #[.slice la2 ln2 lc2, .slice sa2 sn2 sc2] 32) := ⟨_, rfl⟩
  have g6 : Below w4.heap.size w4 w6 := by rw [hw6]; exact bA g5 _
  have z6 : w6.heap.size = w5.heap.size + 1 := by rw [hw6]; simp
  have f56 : Below w5.heap.size w5 w6 := by rw [hw6]; exact bA (Below.refl _ _) _
  have bb : w6.heap[w5.heap.size]? = some (.cells #[.slice la2 ln2 lc2, .slice sa2 sn2 sc2] 32 (0, 0)) := by rw [hw6]; exact heap_alloc_last _ _
  have ba6 := (g6.block _ (lt_of_heap ba)).trans ba
  have bI6 := bI4.keep g6
  have bJ6 := bJ4.keep g6
  have o46 := ow4.below (w' := w6) fun j hj => g6.block j (ow4.lt j hj).2
  have o6 := o5.below (w' := w6) fun j hj => f56.block j (o5.lt j hj).2
  have i0' := cell_alloc11 (bI4.keep g5).cells.1
  have i1' := cell_alloc11 (bI4.keep g5).cells.2.1
  have j0' := cell_alloc11 (bJ4.keep g5).cells.1
  have j1' := cell_alloc11 (bJ4.keep g5).cells.2.1
  have f6 := f4.trans (g6.mono f4.size)
  have g7 : Below w6.heap.size w6 (w6.alloc (.cells #[.int .i64 1, .string ⟨#[]⟩, .int .i64 2, .string ⟨#[]⟩] 52)) := bA (Below.refl _ _) _
  have S3 := step_bare (w6.alloc (.cells #[.int .i64 1, .string ⟨#[]⟩, .int .i64 2, .string ⟨#[]⟩] 52)) (hT.below (f6.trans (g7.mono f6.size))) 96 w6.heap.size 2 [tyI, tyJ] (tys_lit2 w6 tyI tyJ) (by omega) (by simp)
  rw [st96n, z6] at S3
  unfold step_post at S3
  have HS3 := hide S3
  have HW6 := hide hw6
  have X6 := hide (And.intro f6 (And.intro bI6 (And.intro bJ6 (And.intro ba6 (And.intro o46 (And.intro bb o6))))))
  clear f4 bI4 bJ4 hT ba ow4 g5 g6 z6 f56 bb ba6 bI6 bJ6 o46 o6 f6 g7 S3 hw6 f5 o5 X4 HS2 HW4 i0 i1
  simp only
  go_wp2_with fail
  rw [← unhide HW6]
  refine (unhide HS3).mono ?_
  rintro e w7 ⟨f7, rfl⟩
  obtain ⟨f6, bI6, bJ6, ba6, o46, bb, o6⟩ := unhide X6
  have g7 : Below w6.heap.size w6 w7 := (bA (Below.refl _ w6) _).trans (f7.mono (by simp))
  obtain ⟨w8, hw8⟩ : ∃ w8, w8 = w7.alloc (.cells #[.slice none 0 0, .slice none 0 0] 32) := ⟨_, rfl⟩
  have g8 : Below w6.heap.size w6 w8 := by rw [hw8]; exact bA g7 _
  have z8 : w8.heap.size = w7.heap.size + 1 := by rw [hw8]; simp
  have ba8 := (g8.block _ (lt_of_heap ba6)).trans ba6
  have bb8 := (g8.block _ (lt_of_heap bb)).trans bb
  have bI8 := bI6.keep g8
  have bJ8 := bJ6.keep g8
  have j0 := cell_alloc11 (bJ6.keep g7).cells.1
  have j1 := cell_alloc11 (bJ6.keep g7).cells.2.1
  have a1 := cell_alloc11 (bx_cell ((g7.block _ (lt_of_heap ba6)).trans ba6) 1 _ rfl)
  have f8 := f6.trans (g8.mono f6.size)
  have o48 := o46.below (w' := w8) fun j hj => g8.block j (o46.lt j hj).2
  have o68 := o6.below (w' := w8) fun j hj => g8.block j (o6.lt j hj).2
  have e48 : sn = 1 := by obtain ⟨_, _, e', _⟩ := o48.form; injection e' with _ e2 _
  have e68 : sn2 = 1 := by obtain ⟨_, _, e', _⟩ := o68.form; injection e' with _ e2 _
  subst e48 e68
  have g9 : Below w8.heap.size w8 (w8.alloc (.cells #[.int .i64 2, .string ⟨#[]⟩] 52)) := bA (Below.refl _ _) _
  have T1 := SameTypes_same (w8.alloc (.cells #[.int .i64 2, .string ⟨#[]⟩] 52)) ⟨sa, 1, sc⟩ ⟨some ⟨w8.heap.size, 0, none⟩, 1, 1⟩ [tyJ] (lin_of (o48.below fun j hj => g9.block j (o48.lt j hj).2) (by omega) (by simp [fitIJ.2])) (lin_lit w8 tyJ fitIJ.2)
  rw [z8] at T1
  unfold Sl.v at T1
  have HT1 := hide T1
  have HW8 := hide hw8
  have X8 := hide (And.intro f8 (And.intro bI8 (And.intro o68 bb8)))
  clear f6 bI6 bJ6 ba6 o46 bb o6 g7 g8 z8 ba8 bb8 bI8 bJ8 f8 o48 o68 g9 T1 hw8 f7 X6 HS3 HW6 i0' i1' j0' j1'
  go_wp2_with fail
  rw [← unhide HW8]
  refine (unhide HT1).mono ?_
  rintro e w9 ⟨rfl, f9⟩
  obtain ⟨f8, bI8, o68, bb8⟩ := unhide X8
  have g9 : Below w8.heap.size w8 w9 := (bA (Below.refl _ w8) _).trans (f9.mono (by simp))
  have bb9 := (g9.block _ (lt_of_heap bb8)).trans bb8
  have bI9 := bI8.keep g9
  obtain ⟨k0, k1, _⟩ := bI9.cells
  have a2 := bx_cell bb9 1 _ rfl
  have f9' := f8.trans (g9.mono f8.size)
  have o9 := o68.below (w' := w9) fun j hj => g9.block j (o68.lt j hj).2
  have g10 : Below w9.heap.size w9 (w9.alloc (.cells #[.int .i64 1, .string ⟨#[]⟩] 52)) := bA (Below.refl _ _) _
  have T2 := SameTypes_same (w9.alloc (.cells #[.int .i64 1, .string ⟨#[]⟩] 52)) ⟨sa2, 1, sc2⟩ ⟨some ⟨w9.heap.size, 0, none⟩, 1, 1⟩ [tyI] (lin_of (o9.below fun j hj => g10.block j (o9.lt j hj).2) (by omega) (by simp [fitIJ.1])) (lin_lit w9 tyI fitIJ.1)
  unfold Sl.v at T2
  have HT2 := hide T2
  have F9 := hide (bA f9' (.cells #[.int .i64 1, .string ⟨#[]⟩] 52))
  clear f8 bI8 o68 bb8 g9 bb9 bI9 f9' o9 g10 T2 f9 X8 HT1 HW8 a1 j0 j1
  go_wp2_with fail
  refine (unhide HT2).mono ?_
  rintro e w10 ⟨rfl, f10⟩
  have F10 := hide ((unhide F9).trans (f10.mono (unhide F9).size))
  clear f10 F9 HT2
  go_wp2
  go_ret
  exact ⟨rfl, unhide F10⟩
end Go.Proofs.YthenefjoidckkaaGreatDoor

/- Layer 11: the laws' own helpers: light, classes, own; the table as laid; frames that came in. -/
namespace Go.Proofs.YthenefjoidckkaaGreatDoor
open Go.ChangeShapes Go.WideShapes Go.ChangeAt Go.RowKit
set_option linter.unusedVariables false
set_option maxRecDepth 100000

abbrev laid11 : List (String × DataW Unit) := [("larch/code.shortForms", Rows.laid_larch_code_shortForms)]
theorem tab11_of_laid {W : World} (h : laidMetH Tryz.prog laid11 W) : Tab9s W := by
  have h' : laidMet Tryz.prog laid11 W := h
  obtain ⟨ps, ⟨g2, t2, cs2, fuel2, p2, q2, hg2, ht2, hvar2, hd2, _, _⟩, _⟩ := h'
  obtain rfl := Option.some.inj (gTab9s.symm.trans hg2)
  obtain rfl := Option.some.inj (tTab9s.symm.trans ht2)
  rw [tab9s_said] at hd2
  obtain ⟨xs, m, _, hx, hlc, hl, hel⟩ := DataW.trod_array Tryz.underlying102 hd2
  injection hx with hx _
  injection hx with hx
  have key : cs2.toList = (shortL.map fun r => [Value.int .i64 r.1, .int .i64 r.2.1, .int .i64 r.2.2.1, .int .i64 r.2.2.2]).flatten := by
    refine chunks9 _ _ 4 (by rw [hlc, cells9SS]; rfl) (fun i r hr => ?_)
    rw [List.getElem?_map] at hr
    obtain ⟨f, hf, rfl⟩ := Option.map_eq_some_iff.1 hr
    have hi : i < 8 := (List.getElem?_eq_some_iff.1 hf).1
    have e := hel i hi
    rw [cells9S, List.getElem?_eq_getElem (by omega)] at e
    refine sf_cells e ?_
    have h1 : (xs.map (·.1))[i]? = some xs[i].1 := by rw [List.getElem?_map, List.getElem?_eq_getElem (by omega)]; rfl
    rw [← hx, List.getElem?_map, hf] at h1
    exact (Option.some.inj h1).symm
  have hcs : cs2 = shortCells := by
    apply Array.toList_inj.1
    rw [key]
    rfl
  obtain ⟨t, fr, hb⟩ := var_block9 gTab9s hvar2
  exact ⟨t, fr, by rw [hb, hcs]⟩
theorem door_met11 (os : Os) (args : Array Value) : laidMetH Tryz.prog laid11 ((World.doorLaid Tryz.prog 600 os).forCall (fun _ _ => 0) ⟨#[], args, []⟩).memory :=
  laidMetH_of_parts3 (fuel := 8) (laidMet_of_run' 8 (by kernel_rfl) (by kernel_rfl)) (by kernel_rfl) (by kernel_rfl)
set_option maxHeartbeats 400000 in
theorem l11light_any (w : World) (la sa : Option Addr) (ln lc sn sc : Nat) : Calls Tryz.prog 7 #[.agg #[.slice la ln lc, .slice sa sn sc]] w fun e w' => e = .returned (.bool (decide (ln ≤ 100) && decide (sn ≤ 100))) ∧ Below w.heap.size w w' := by
  have F := hide (bA (Below.refl _ w) (.cells #[.slice la ln lc, .slice sa sn sc] 32))
  by_cases h1 : ln ≤ 100
  · have h1' : (ln : Int) ≤ 100 := by omega
    rw [decide_eq_true h1, Bool.true_and]
    by_cases h2 : sn ≤ 100
    · have h2' : (sn : Int) ≤ 100 := by omega
      rw [decide_eq_true h2]
      clear h1 h2
      go_enter Tryz.func7, Tryz.ntmps7
      go_wp2
      go_ret
      exact ⟨by simp, unhide F⟩
    · have h2' : ¬ (sn : Int) ≤ 100 := by omega
      rw [decide_eq_false h2]
      clear h1 h2
      go_enter Tryz.func7, Tryz.ntmps7
      go_wp2
      go_ret
      exact ⟨by simp, unhide F⟩
  · have h1' : ¬ (ln : Int) ≤ 100 := by omega
    rw [decide_eq_false h1, Bool.false_and]
    clear h1
    go_enter Tryz.func7, Tryz.ntmps7
    go_wp2
    go_ret
    exact ⟨by simp, unhide F⟩
set_option maxHeartbeats 1600000 in
theorem l11classes_any (w : World) (a : Option Addr) (n c : Nat) (l : List Nc) (h : Ls 2 nc2 w a n l) (hn : n ≤ 140737488351232) :
    Calls Tryz.prog 10 #[.slice a n c] w fun e w' => ∃ v, e = .returned v ∧ Orw ncc 38 5 w' w.heap.size v (l.take 30) ∧ Below w.heap.size w w' := by
  have hln := h.1
  have HL := hide h
  clear h
  go_enter Tryz.func10, Tryz.ntmps10
  go_wp2
  have O0 : Hid (Orw ncc 38 5 (w.alloc (.cells #[] 38)) w.heap.size (.slice (some ⟨w.heap.size, 0, none⟩) 0 0) ([] : List Nc)) := Orw.made _ _ _ _ _ (Nat.le_refl _)
  have F0 : Hid (Below w.heap.size w (w.alloc (.cells #[] 38))) := bA (Below.refl _ _) _
  generalize w.alloc (.cells #[] 38) = w0 at *
  go_loopw [3, 4] (fun v i wr => ∃ k : Nat, k ≤ n ∧ k ≤ 30 ∧ i = .int .i64 k ∧ Hid (Orw ncc 38 5 wr w.heap.size v (l.take k)) ∧ Hid (Below w.heap.size w wr)) (fun _ i _ => n - (intOf i).toNat)
  case atStart => exact ⟨0, by omega, by omega, rfl, O0, F0⟩
  case round =>
    obtain ⟨k, hk, hk30, rfl, HO, HF⟩ := hrel
    by_cases hlt : k < n
    case neg =>
      obtain rfl : k = n := by omega
      have he : l.take 30 = l.take k := by rw [List.take_of_length_le (by omega), List.take_of_length_le (by omega)]
      have HE := hide he
      clear he
      go_wp2
      go_ret
      exact ⟨_, rfl, by rw [unhide HE]; exact unhide HO, unhide HF⟩
    have hlt1 : (k : Int) < (n : Int) := by omega
    by_cases h30 : k < 30
    case neg =>
      obtain rfl : k = 30 := by omega
      go_wp2
      go_ret
      exact ⟨_, rfl, unhide HO, unhide HF⟩
    have h30' : (k : Int) < 30 := by omega
    obtain ⟨b1, o1, h1a, h1⟩ := Ls.row (unhide HL) (w' := w) (by omega)
    subst h1a
    obtain ⟨r, hr⟩ : ∃ r, l[k]? = some r := ⟨_, List.getElem?_eq_getElem (by omega)⟩
    have HRow : Hid (∀ W, Below w.heap.size w W → W.cell? ⟨b1, o1 + k * 2, none⟩ = some (.string ⟨r.name.toArray⟩) ∧ W.cell? ⟨b1, o1 + k * 2 + 1, none⟩ = some (.string ⟨r.sup.toArray⟩)) := fun W f => ⟨(h1 f k r hr).zero, (h1 f k r hr) 1 _ rfl⟩
    have hst : l.take (k + 1) = l.take k ++ [r] := by
      rw [List.take_succ_eq_append_getElem (by omega), (List.getElem?_eq_some_iff.1 hr).2]
    have HST := hide hst
    have hlk : (l.take k).length = k := by rw [List.length_take]; omega
    have HLK := hide hlk
    have hlen2 : ((l.take k).length + 1) * 104 ≤ 140737488355328 := by omega
    have hlen3 : (l.take k).length + 1 ≤ 140737488355328 := by omega
    have HL2 := hide hlen2
    have HL3 := hide hlen3
    obtain ⟨e0, e1⟩ := unhide HRow wr (unhide HF)
    clear hst hr h1 hlk hlen2 hlen3
    go_wp2
    go_region_held_law (fun W => W.cell? ⟨b1, o1 + k * 2, none⟩ = some (.string ⟨r.name.toArray⟩) ∧ W.cell? ⟨b1, o1 + k * 2 + 1, none⟩ = some (.string ⟨r.sup.toArray⟩)) (go_keep)
      (first | (refine stepN_append rfl (.tmp 16) (.tmp 28) rfl w.heap.size u3 (l.take k) (by rfl) (by repeat (first | exact unhide HO | refine orw_drew ?_ | refine orw_alloc ?_ _)) (some ⟨wr.heap.size, 0, none⟩) 1 1 [r] (by rfl) (by first | exact ls_one (cs := ncc) (sz := 5) _ _ _ r rfl | exact ls_drew (ls_one (cs := ncc) (sz := 5) _ _ _ r rfl)) (fun e => by cases e) (unhide HL2) (unhide HL3) (by first | exact (unhide HF).size | exact Nat.le_trans (unhide HF).size (by simp)) ?_; intro v7 w7 o7 g7; have F7 : Hid (Below w.heap.size w w7) := (by repeat (first | exact unhide HF | refine Below.drew ?_ | refine bA ?_ _) : Below w.heap.size w _).grown g7 (by first | exact (unhide HF).size | exact Nat.le_trans (unhide HF).size (by simp)) (fun k hk => ((unhide HO).lt k hk).1); have r0 := (unhide HRow w7 (unhide F7)).1; have r1 := (unhide HRow w7 (unhide F7)).2; have O7 := hide o7; clear o7 g7))
    all_goals
      have HO7 : Hid (Orw ncc 38 5 w7 w.heap.size v7 (l.take (k + 1))) := by rw [unhide HST]; exact unhide O7
      clear r0 r1
      go_wp2
      go_roundw
      case rel => exact ⟨k + 1, by omega, by omega, by go_num, HO7, F7⟩
      case measure => simp [intOf]; omega
end Go.Proofs.YthenefjoidckkaaGreatDoor

/- Layer 11: how great what comes of a frame is, as plain values (written by mk/mkshz.py). -/
namespace Go.Proofs.YthenefjoidckkaaGreatDoor
open Go.RowKit
set_option linter.unusedVariables false
set_option maxRecDepth 100000

def Ng (d : Deed) : Prop := ∀ x x', d x = some x' → x'.lo.length = x.lo.length ∧ wideN x'.st ≤ wideN x.st
def P1 (d : Deed) : Prop := ∀ x x', d x = some x' → x'.lo.length = x.lo.length ∧ wideN x'.st ≤ wideN x.st + 2
theorem wideN_append (a b : List Ty) : wideN (a ++ b) = wideN a + wideN b := by unfold wideN; rw [List.length_append, List.countP_append]; omega
theorem Ng.p1 {d : Deed} (h : Ng d) : P1 d := fun x x' e => ⟨(h x x' e).1, by have := (h x x' e).2; omega⟩
end Go.Proofs.YthenefjoidckkaaGreatDoor

/- Layer 11: blocks side by side, what comes of a step (written by mk/mksh1.py). -/
namespace Go.Proofs.YthenefjoidckkaaGreatDoor
open Go.RowKit
set_option linter.unusedVariables false
set_option maxRecDepth 100000

theorem three_blocks (w : World) (A B C : Array Value) (tA tB tC : TypeId) : ∃ w3, w3 = ((w.alloc (.cells A tA)).alloc (.cells B tB)).alloc (.cells C tC) ∧ Below w.heap.size w w3 ∧ w3.heap.size = w.heap.size + 3 ∧ w3.heap[w.heap.size]? = some (.cells A tA (0, 0)) ∧ w3.heap[w.heap.size + 1]? = some (.cells B tB (0, 0)) ∧ w3.heap[w.heap.size + 1 + 1]? = some (.cells C tC (0, 0)) := by
  have z1 : (w.alloc (.cells A tA)).heap.size = w.heap.size + 1 := by simp
  have z2 : ((w.alloc (.cells A tA)).alloc (.cells B tB)).heap.size = w.heap.size + 1 + 1 := by simp
  refine ⟨_, rfl, bA (bA (bA (Below.refl _ _) _) _) _, by simp, ?_, ?_, ?_⟩
  · exact (heap_alloc_old _ _ (by simp <;> omega)).trans ((heap_alloc_old _ _ (by simp)).trans (heap_alloc_last _ _))
  · have t := heap_alloc_last (w.alloc (.cells A tA)) (.cells B tB)
    rw [z1] at t
    exact (heap_alloc_old _ _ (by simp)).trans t
  · have t := heap_alloc_last ((w.alloc (.cells A tA)).alloc (.cells B tB)) (.cells C tC)
    rw [z2] at t
    exact t
/-- What comes of Step, as a value. -/
def StV (base : Nat) (r : Option (List Ty × List Ty)) (W : World) (l s : Sl) : Prop := match r with
  | none => l = ⟨none, 0, 0⟩ ∧ s = ⟨none, 0, 0⟩
  | some y => Orw tyc 52 2 W base l.v y.1 ∧ Orw tyc 52 2 W base s.v y.2
def erV (r : Option (List Ty × List Ty)) : Int := match r with
  | none => 110
  | some _ => 0
theorem StV.below {base : Nat} {r : Option (List Ty × List Ty)} {W W' : World} {l s : Sl} (h : StV base r W l s) (f : Below W.heap.size W W') : StV base r W' l s := by
  cases r with
  | none => exact h
  | some y => exact ⟨h.1.below fun j hj => f.block j (h.1.lt j hj).2, h.2.below fun j hj => f.block j (h.2.lt j hj).2⟩
end Go.Proofs.YthenefjoidckkaaGreatDoor

/- Layer 11: what the laws are handed, opened. -/
namespace Go.Proofs.YthenefjoidckkaaGreatDoor
open Go.ChangeShapes Go.WideShapes Go.ChangeAt Go.RowKit
set_option linter.unusedVariables false
set_option maxRecDepth 100000

theorem nc_cells11 {H : Type} {enc : TypeId × Value → H} {w : World} {base : Nat} (n : Nat) (cs : List Value) (x : DataW H × List MemPlace)
    (h : DataW.trod enc Tryz.prog w base (fun _ => true) true n 71 cs = some x) (hw : ∀ m ∈ x.1.weights Tryz.prog 71, m ≤ reachBytes) :
    ∃ y : Nc, cs = nc2 y ∧ True := by
  have hl : cs.length = 2 := st_len9 Tryz.underlying71 (by kernel_rfl) h
  obtain ⟨_, y0, g0, w0⟩ := st_field Tryz.underlying71 h hw (i := 0) rfl
  obtain ⟨v0, c0, f0⟩ := str_leaf10 (o := 0) g0 w0
  obtain ⟨_, y1, g1, w1⟩ := st_field Tryz.underlying71 h hw (i := 1) rfl
  obtain ⟨v1, c1, f1⟩ := str_leaf10 (o := 1) g1 w1
  refine ⟨⟨v0, v1⟩, ?_, trivial⟩
  apply List.ext_getElem?
  intro i
  match i with
  | 0 => rw [c0]; rfl
  | 1 => rw [c1]; rfl
  | k + 2 => rw [List.getElem?_eq_none (by omega)]; rfl
/-- A frame that came in, its names' lengths known. -/
theorem frame_arg11 {H : Type} {enc : TypeId × Value → H} {W : World} {base b2 : Nat} {v : Value} {d : DataW H} {p : List MemPlace} (hv : Value.okWide Tryz.prog W .any b2 32 v)
    (h0 : DataW.Trod enc Tryz.prog W base (fun _ => true) true 32 v d p) (hw : ∀ m ∈ d.weights Tryz.prog 32, m ≤ reachBytes) :
    ∃ (l s : Sl) (u v' : List Ty), v = .agg #[l.v, s.v] ∧ (TysIn W l u ∧ ∀ t ∈ u, nmOk t) ∧ TysIn W s v' ∧ ∀ t ∈ v', nmOk t := by
  obtain ⟨fuel, h⟩ := h0
  simp only [Value.okWide, Tryz.underlying32] at hv
  obtain ⟨cs0, rfl, _⟩ := hv
  have hl : (Value.agg cs0).cells.toList.length = 2 := st_len9 Tryz.underlying32 (by kernel_rfl) h
  have wk : ∀ {q : Sl} {u : List Ty}, LIn 2 24 tyc TyIn W q u → TysIn W q u ∧ ∀ t ∈ u, nmOk t := fun {q u} h => ⟨⟨h.ls, h.room, h.most, h.nil, h.small, fun t ht => ⟨(h.each t ht).kind, by have := (h.each t ht).name; unfold nmFit at this; unfold fitS; omega⟩⟩, fun t ht => (h.each t ht).name⟩
  obtain ⟨_, y0, g0, w0⟩ := st_field Tryz.underlying32 h hw (i := 0) rfl
  obtain ⟨v0, c0, t0⟩ := sl_leaf (o := 0) Tryz.underlying30 (by kernel_rfl) g0
  obtain ⟨l0, h0⟩ := lin_open (size := 2) (by_ := 24) (ok := TyIn) (val := tyc) Tryz.underlying30 (by kernel_rfl) (by kernel_rfl) (by decide) (fun _ => rfl) (fun _ => ⟨_, rfl⟩) (fun n cs x h hw => ty_cells10 n cs x h hw) t0 w0
  obtain ⟨_, y1, g1, w1⟩ := st_field Tryz.underlying32 h hw (i := 1) rfl
  obtain ⟨v1, c1, t1⟩ := sl_leaf (o := 1) Tryz.underlying30 (by kernel_rfl) g1
  obtain ⟨l1, h1⟩ := lin_open (size := 2) (by_ := 24) (ok := TyIn) (val := tyc) Tryz.underlying30 (by kernel_rfl) (by kernel_rfl) (by decide) (fun _ => rfl) (fun _ => ⟨_, rfl⟩) (fun n cs x h hw => ty_cells10 n cs x h hw) t1 w1
  refine ⟨v0, v1, l0, l1, ?_, wk h0, wk h1⟩
  congr 1
  apply Array.toList_inj.1
  have hcs : (Value.agg cs0).cells.toList = cs0.toList := by simp [Value.cells]
  rw [hcs] at c0 c1 hl
  apply List.ext_getElem?
  intro i
  match i with
  | 0 => rw [c0]; rfl
  | 1 => rw [c1]; rfl
  | k + 2 => rw [List.getElem?_eq_none (by omega)]; rfl
end Go.Proofs.YthenefjoidckkaaGreatDoor
