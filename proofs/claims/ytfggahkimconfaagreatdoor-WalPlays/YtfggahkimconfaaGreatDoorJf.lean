/- Joined: WlP4 WlP5 WlP6 WlP7. -/
import Derived.Test.YtfggahkimconfaaGreatDoorJe

/- The landed log: what a sector holds: headOf, pieceOf. -/
namespace Go.Proofs.YtfggahkimconfaaGreatDoor
open Go.RowKit
set_option linter.unusedVariables false

theorem two_set {W : World} {A : Nat} {T : TypeId} {a0 a1 : Value} (c0 c1 : Value) (h : W.heap[A]? = some (.cells #[a0, a1] T (0, 0))) :
    ((W.setCell ⟨A, 0, none⟩ c0).setCell ⟨A, 1, none⟩ c1).cell? ⟨A, 0, none⟩ = some c0 ∧ ((W.setCell ⟨A, 0, none⟩ c0).setCell ⟨A, 1, none⟩ c1).cell? ⟨A, 1, none⟩ = some c1 := by
  have h1 := heap_setCell_same W A 0 _ _ c0 h
  have h2 := heap_setCell_same _ A 1 _ _ c1 h1
  exact ⟨by rw [cell_of_row _ _ _ _ _ _ h2]; rfl, by rw [cell_of_row _ _ _ _ _ _ h2]; rfl⟩

set_option maxRecDepth 100000 in
set_option maxHeartbeats 1600000 in
theorem lheadOf_yes (w : World) (b o cap : Nat) (l : List UInt8) (r : Rec) (hT : Tab w) (h1 : 1 ≤ w.heap.size) (hl : l.length = 256) (hc : 256 ≤ cap) (hcap : cap ≤ 9223372036854775807) (h : BytesAt w (some ⟨b, o, none⟩) l) (hr : readS l = some r) (h4 : r.data.length = 4) :
    Calls Tryz.prog 73 #[.slice (some ⟨b, o, none⟩) 256 cap] w fun e w' => e = .returned (.tuple #[.agg #[.int .i64 r.epoch, .int .i64 (num r.data : Int)], .bool true]) ∧ Below w.heap.size w w' := by
  have hA := heap_alloc_last w (.cells #[.int .i64 0, .int .i64 0] 75)
  have fb : Below w.heap.size w (w.alloc (.cells #[.int .i64 0, .int .i64 0] 75)) := (Below.refl _ _).alloc (Nat.le_refl _) _
  generalize hwb : w.alloc (.cells #[.int .i64 0, .int .i64 0] 75) = wb at *
  have hws : wb.heap.size = w.heap.size + 1 := by rw [← hwb]; simp
  have H1 := hide (lunsealed_any wb b o cap l (tab_below hT fb h1) (by omega) hl hc hcap (h.below fb))
  rw [hr] at H1
  have H1' : Hid (Calls Tryz.prog 88 #[.slice (some ⟨b, o, none⟩) 256 cap] wb fun e w' => e = .returned (.tuple #[.agg #[.int .i64 r.epoch, str r.data], .bool true]) ∧ Below wb.heap.size wb w') := H1
  have H2 : Hid (∀ W, Calls Tryz.prog 89 #[str r.data] W fun e w' => e = .returned (.int .i64 (num r.data : Int)) ∧ w' = W) := fun W => lnumbered_any W r.data h4
  have hsz : (⟨r.data.toArray⟩ : ByteArray).size = 4 := by simp [ByteArray.size, h4]
  have FB := hide fb
  have HW := hide hwb
  have HA := hide hA
  clear fb hA hwb h H1 hr h4 hT
  unfold str at *
  generalize num r.data = fro at *
  generalize r.epoch = ep at *
  generalize (⟨r.data.toArray⟩ : ByteArray) = st at *
  go_enter Tryz.func73, Tryz.ntmps73
  go_upto_region 1 with fail
  rw [unhide HW]
  go_wp2_with fail
  refine (unhide H1').mono ?_
  rintro e w1 ⟨rfl, f1⟩
  have hA1 := (f1.block w.heap.size (by omega)).trans (unhide HA)
  have f1' : Below w.heap.size w w1 := (unhide FB).trans (f1.mono (by omega))
  have hq1 := f1.size
  clear f1 H1'
  go_upto_region 2 with fail
  have hA2 := (heap_alloc_old w1 (.cells #[.int .i64 ep, .string st] 85) (lt_of_heap hA1)).trans hA1
  have hB2 := heap_alloc_last w1 (.cells #[.int .i64 ep, .string st] 85)
  have f2 : Below w.heap.size w (w1.alloc (.cells #[.int .i64 ep, .string st] 85)) := f1'.alloc f1'.size _
  have hs2 : w1.heap.size < (w1.alloc (.cells #[.int .i64 ep, .string st] 85)).heap.size := by simp
  generalize w1.alloc (.cells #[.int .i64 ep, .string st] 85) = w2 at *
  have c0 : w2.cell? ⟨w1.heap.size, 0, none⟩ = some (.int .i64 ep) := by rw [cell_of_row _ _ _ _ _ _ hB2]; rfl
  have c1 : w2.cell? ⟨w1.heap.size, 1, none⟩ = some (.string st) := by rw [cell_of_row _ _ _ _ _ _ hB2]; rfl
  have d0 : w2.cell? ⟨w.heap.size, 0, none⟩ = some (.int .i64 0) := by rw [cell_of_row _ _ _ _ _ _ hA2]; rfl
  have d1 : w2.cell? ⟨w.heap.size, 1, none⟩ = some (.int .i64 0) := by rw [cell_of_row _ _ _ _ _ _ hA2]; rfl
  have hf0 : w2.frozen? ⟨w.heap.size, 0, none⟩ = false := frozen_of_row _ _ _ _ _ hA2
  have hf1 : w2.frozen? ⟨w.heap.size, 1, none⟩ = false := frozen_of_row _ _ _ _ _ hA2
  have hne : w.heap.size ≠ w1.heap.size := by omega
  have hne2 : w1.heap.size ≠ w.heap.size := by omega
  have F2 := hide f2
  have HA2 := hide hA2
  clear f1' hA1 hA2 hB2 f2
  go_upto_region 4 with fail
  go_region_held_law (fun W => W.cell? ⟨w1.heap.size, 0, none⟩ = some (.int .i64 ep) ∧ W.cell? ⟨w1.heap.size, 1, none⟩ = some (.string st)) (go_keep)
    (first
      | (go_at_call 89; refine (unhide H2 _).mono ?_; rintro e w3 ⟨rfl, rfl⟩))
  all_goals
    go_wp2
    refine bodyPost_ret (row_res2 Tryz.results73 _ w.heap.size (.int .i64 ep) (.int .i64 (fro : Int)) (.inl rfl) ?_ ?_ rfl rfl _ rfl) rfl ⟨rfl, ?_⟩
    · exact (two_set _ _ (unhide HA2)).1
    · exact (two_set _ _ (unhide HA2)).2
    · exact (rec_below _ _ (unhide F2) (Nat.le_refl _)).drew

set_option maxRecDepth 100000 in
set_option maxHeartbeats 1600000 in
theorem lheadOf_no (w : World) (b o cap : Nat) (l : List UInt8) (hT : Tab w) (h1 : 1 ≤ w.heap.size) (hl : l.length = 256) (hc : 256 ≤ cap) (hcap : cap ≤ 9223372036854775807) (h : BytesAt w (some ⟨b, o, none⟩) l) (hr : ∀ r, readS l = some r → r.data.length ≠ 4) :
    Calls Tryz.prog 73 #[.slice (some ⟨b, o, none⟩) 256 cap] w fun e w' => e = .returned (.tuple #[.agg #[.int .i64 0, .int .i64 0], .bool false]) ∧ Below w.heap.size w w' := by
  have hA := heap_alloc_last w (.cells #[.int .i64 0, .int .i64 0] 75)
  have fb : Below w.heap.size w (w.alloc (.cells #[.int .i64 0, .int .i64 0] 75)) := (Below.refl _ _).alloc (Nat.le_refl _) _
  generalize hwb : w.alloc (.cells #[.int .i64 0, .int .i64 0] 75) = wb at *
  have hws : wb.heap.size = w.heap.size + 1 := by rw [← hwb]; simp
  have H1 := hide (lunsealed_any wb b o cap l (tab_below hT fb h1) (by omega) hl hc hcap (h.below fb))
  have hx : ∃ ep st ok, Hid (Calls Tryz.prog 88 #[.slice (some ⟨b, o, none⟩) 256 cap] wb fun e w' => e = .returned (.tuple #[.agg #[.int .i64 ep, .string st], .bool ok]) ∧ Below wb.heap.size wb w') ∧ (ok = false ∨ (ok = true ∧ ((st.size : Int) != 4) = true)) := by
    cases hrr : readS l with
    | none =>
      rw [hrr] at H1
      exact ⟨0, ⟨#[]⟩, false, H1, .inl rfl⟩
    | some r =>
      rw [hrr] at H1
      have h4 := hr r hrr
      refine ⟨r.epoch, ⟨r.data.toArray⟩, true, H1, .inr ⟨rfl, ?_⟩⟩
      have : (⟨r.data.toArray⟩ : ByteArray).size = r.data.length := by simp [ByteArray.size]
      rw [this]
      simp
      omega
  clear H1
  obtain ⟨ep, st, ok, H1, hok⟩ := hx
  have FB := hide fb
  have HW := hide hwb
  have HA := hide hA
  clear fb hA hwb h hr hT
  rcases hok with rfl | ⟨rfl, hn4⟩
  all_goals
    go_enter Tryz.func73, Tryz.ntmps73
    go_upto_region 1 with fail
    rw [unhide HW]
    go_wp2_with fail
    refine (unhide H1).mono ?_
    rintro e w1 ⟨rfl, f1⟩
    have hA1 := (f1.block w.heap.size (by omega)).trans (unhide HA)
    have f1' : Below w.heap.size w w1 := (unhide FB).trans (f1.mono (by omega))
    have hq1 := f1.size
    clear f1 H1
    go_upto_region 2 with fail
    have hA2 := (heap_alloc_old w1 (.cells #[.int .i64 ep, .string st] 85) (lt_of_heap hA1)).trans hA1
    have hB2 := heap_alloc_last w1 (.cells #[.int .i64 ep, .string st] 85)
    have f2 : Below w.heap.size w (w1.alloc (.cells #[.int .i64 ep, .string st] 85)) := f1'.alloc f1'.size _
    generalize w1.alloc (.cells #[.int .i64 ep, .string st] 85) = w2 at *
    have c0 : w2.cell? ⟨w1.heap.size, 0, none⟩ = some (.int .i64 ep) := by rw [cell_of_row _ _ _ _ _ _ hB2]; rfl
    have c1 : w2.cell? ⟨w1.heap.size, 1, none⟩ = some (.string st) := by rw [cell_of_row _ _ _ _ _ _ hB2]; rfl
    have d0 : w2.cell? ⟨w.heap.size, 0, none⟩ = some (.int .i64 0) := by rw [cell_of_row _ _ _ _ _ _ hA2]; rfl
    have d1 : w2.cell? ⟨w.heap.size, 1, none⟩ = some (.int .i64 0) := by rw [cell_of_row _ _ _ _ _ _ hA2]; rfl
    have hf0 : w2.frozen? ⟨w.heap.size, 0, none⟩ = false := frozen_of_row _ _ _ _ _ hA2
    have hf1 : w2.frozen? ⟨w.heap.size, 1, none⟩ = false := frozen_of_row _ _ _ _ _ hA2
    have F2 := hide f2
    have HA2 := hide hA2
    clear f1' hA1 hA2 hB2 f2
    go_wp2
    refine bodyPost_ret (row_res2 Tryz.results73 _ w.heap.size (.int .i64 0) (.int .i64 0) (.inl rfl) ?_ ?_ rfl rfl _ rfl) rfl ⟨rfl, ?_⟩
    · exact (two_set _ _ (unhide HA2)).1
    · exact (two_set _ _ (unhide HA2)).2
    · exact rec_below _ _ (unhide F2) (Nat.le_refl _)

end Go.Proofs.YtfggahkimconfaaGreatDoor

/- The landed log: what a sector for records holds: pieceOf. -/
namespace Go.Proofs.YtfggahkimconfaaGreatDoor
open Go.RowKit
set_option linter.unusedVariables false

theorem four_set {W : World} {A : Nat} {T : TypeId} {a0 a1 a2 a3 : Value} (c0 c1 c2 c3 : Value) (h : W.heap[A]? = some (.cells #[a0, a1, a2, a3] T (0, 0))) :
    ((((W.setCell ⟨A, 0, none⟩ c0).setCell ⟨A, 1, none⟩ c1).setCell ⟨A, 2, none⟩ c2).setCell ⟨A, 3, none⟩ c3).heap[A]? = some (.cells #[c0, c1, c2, c3] T (0, 0)) := by
  have h1 := heap_setCell_same W A 0 _ _ c0 h
  have h2 := heap_setCell_same _ A 1 _ _ c1 h1
  have h3 := heap_setCell_same _ A 2 _ _ c2 h2
  exact heap_setCell_same _ A 3 _ _ c3 h3
theorem four_below {B A : Nat} {w W : World} (c0 c1 c2 c3 : Value) (h : Below B w W) (hA : B ≤ A) : Below B w ((((W.setCell ⟨A, 0, none⟩ c0).setCell ⟨A, 1, none⟩ c1).setCell ⟨A, 2, none⟩ c2).setCell ⟨A, 3, none⟩ c3) :=
  (((h.setCell (p := ⟨A, 0, none⟩) hA _).setCell (p := ⟨A, 1, none⟩) hA _).setCell (p := ⟨A, 2, none⟩) hA _).setCell (p := ⟨A, 3, none⟩) hA _
theorem row_res4' {fn : Func} {p u : Tmp} (h : fn.results = #[.cell p 113, .tmp u]) (w : World) (A : Nat) (c0 c1 c2 c3 : Value) (hb : w.heap[A]? = some (.cells #[c0, c1, c2, c3] 113 (0, 0))) (o0 : c0.oneCell' = true) (o1 : c1.oneCell' = true) (o2 : c2.oneCell' = true) (o3 : c3.oneCell' = true) (tmps : Array Value) (hp : tmps.getD p undef = .pointer (some ⟨A, 0, none⟩)) :
    (results fn tmps).run Tryz.prog w = .ok (.tuple #[.agg #[c0, c1, c2, c3], tmps.getD u undef]) w :=
  row_res4 h w A c0 c1 c2 c3 (by rw [cell_of_row _ _ _ _ _ _ hb]; rfl) (by rw [cell_of_row _ _ _ _ _ _ hb]; rfl) (by rw [cell_of_row _ _ _ _ _ _ hb]; rfl) (by rw [cell_of_row _ _ _ _ _ _ hb]; rfl) o0 o1 o2 o3 tmps hp

theorem bit_eq (bt : Nat) : ((bt : Int) == 1) = decide (bt = 1) := by
  by_cases h : bt = 1
  · subst h; rfl
  · rw [decide_eq_false h]
    simp
    omega
def okPc (n : Nat) (r : Rec) : Prop := 5 ≤ r.data.length ∧ r.data.length ≤ 236 ∧ num r.data = n ∧ (r.data.getD 4 0).toNat ≤ 1
instance (n : Nat) (r : Rec) : Decidable (okPc n r) := by unfold okPc; infer_instance

set_option maxRecDepth 100000 in
set_option maxHeartbeats 3200000 in
theorem lpieceOf_no (w : World) (b o cap n : Nat) (l : List UInt8) (hT : Tab w) (h1 : 1 ≤ w.heap.size) (hl : l.length = 256) (hc : 256 ≤ cap) (hcap : cap ≤ 9223372036854775807) (h : BytesAt w (some ⟨b, o, none⟩) l) (hr : ∀ r, readS l = some r → ¬ okPc n r) :
    Calls Tryz.prog 90 #[.slice (some ⟨b, o, none⟩) 256 cap, .int .i64 (n : Int)] w fun e w' => e = .returned (.tuple #[.agg #[.int .i64 0, .int .i64 0, .bool false, .string ⟨#[]⟩], .bool false]) ∧ Below w.heap.size w w' := by
  have hA := heap_alloc_last w (.cells #[.int .i64 0, .int .i64 0, .bool false, .string ⟨#[]⟩] 113)
  have fb : Below w.heap.size w (w.alloc (.cells #[.int .i64 0, .int .i64 0, .bool false, .string ⟨#[]⟩] 113)) := (Below.refl _ _).alloc (Nat.le_refl _) _
  generalize hwb : w.alloc (.cells #[.int .i64 0, .int .i64 0, .bool false, .string ⟨#[]⟩] 113) = wb at *
  have hws : wb.heap.size = w.heap.size + 1 := by rw [← hwb]; simp
  have H1 := hide (lunsealed_any wb b o cap l (tab_below hT fb h1) (by omega) hl hc hcap (h.below fb))
  have hx : ∃ ep st ok, Hid (Calls Tryz.prog 88 #[.slice (some ⟨b, o, none⟩) 256 cap] wb fun e w' => e = .returned (.tuple #[.agg #[.int .i64 ep, .string st], .bool ok]) ∧ Below wb.heap.size wb w') ∧
      (ok = false ∨ (ok = true ∧ (st.size : Int) < 5) ∨ (ok = true ∧ ¬ (st.size : Int) < 5 ∧ 236 < (st.size : Int)) ∨ (ok = true ∧ 5 ≤ st.size ∧ st.size ≤ 236 ∧ ∃ nn : Nat, ∃ bt : Nat, ∃ s4 : ByteArray, bt < 256 ∧ Hid (∀ W, (Instr.index 9 (.string st) (.int .i64 4)).run Tryz.prog W = .ok (.int .u8 (bt : Int)) W) ∧ st.extract 0 4 = s4 ∧
        Hid (∀ W, Calls Tryz.prog 89 #[.string s4] W fun e w' => e = .returned (.int .i64 (nn : Int)) ∧ w' = W) ∧ (((nn : Int) != (n : Int)) = true ∨ (((nn : Int) != (n : Int)) = false ∧ 1 < (bt : Int))))) := by
    cases hrr : readS l with
    | none =>
      rw [hrr] at H1
      exact ⟨0, ⟨#[]⟩, false, H1, .inl rfl⟩
    | some r =>
      rw [hrr] at H1
      have hno := hr r hrr
      have hsz : (⟨r.data.toArray⟩ : ByteArray).size = r.data.length := by simp [ByteArray.size]
      refine ⟨r.epoch, ⟨r.data.toArray⟩, true, H1, .inr ?_⟩
      by_cases h5 : r.data.length < 5
      · exact .inl ⟨rfl, by rw [hsz]; omega⟩
      · by_cases h6 : 236 < r.data.length
        · exact .inr (.inl ⟨rfl, by rw [hsz]; omega, by rw [hsz]; omega⟩)
        · have hb4 : r.data[4]? = some (r.data.getD 4 0) := by rw [List.getD_eq_getElem?_getD, List.getElem?_eq_getElem (show 4 < r.data.length by omega)]; rfl
          refine .inr (.inr ⟨rfl, by rw [hsz]; omega, by rw [hsz]; omega, num r.data, (r.data.getD 4 0).toNat, ⟨(r.data.take 4).toArray⟩, UInt8.toNat_lt _, str_index r.data 4 _ hb4, by apply ByteArray.ext; simp, ?_, ?_⟩)
          · rw [← num_take r.data 4 (by omega)]
            exact fun W => lnumbered_any W (r.data.take 4) (by rw [List.length_take]; omega)
          · by_cases hnn : num r.data = n
            · refine .inr ⟨by rw [hnn]; simp, ?_⟩
              have : ¬ (r.data.getD 4 0).toNat ≤ 1 := fun hb => hno ⟨by omega, by omega, hnn, hb⟩
              omega
            · exact .inl (by simp; omega)
  clear H1
  obtain ⟨ep, st, ok, H1, hok⟩ := hx
  have FB := hide fb
  have HW := hide hwb
  have HA := hide hA
  clear fb hA hwb h hr hT
  rcases hok with rfl | ⟨rfl, hz1⟩ | ⟨rfl, hz1, hz2⟩ | ⟨rfl, hz1, hz2, nn, bt, s4, hbt, hix, hex, H2, hlast | ⟨hlast, hbit⟩⟩
  all_goals
    go_enter Tryz.func90, Tryz.ntmps90
    go_upto_region 1 with fail
    rw [unhide HW]
    go_wp2_with fail
    refine (unhide H1).mono ?_
    rintro e w1 ⟨rfl, f1⟩
    have hA1 := (f1.block w.heap.size (by omega)).trans (unhide HA)
    have f1' : Below w.heap.size w w1 := (unhide FB).trans (f1.mono (by omega))
    have hq1 := f1.size
    clear f1 H1
    go_upto_region 2 with fail
    have hA2 := (heap_alloc_old w1 (.cells #[.int .i64 ep, .string st] 85) (lt_of_heap hA1)).trans hA1
    have hB2 := heap_alloc_last w1 (.cells #[.int .i64 ep, .string st] 85)
    have f2 : Below w.heap.size w (w1.alloc (.cells #[.int .i64 ep, .string st] 85)) := f1'.alloc f1'.size _
    generalize w1.alloc (.cells #[.int .i64 ep, .string st] 85) = w2 at *
    have c0 : w2.cell? ⟨w1.heap.size, 0, none⟩ = some (.int .i64 ep) := by rw [cell_of_row _ _ _ _ _ _ hB2]; rfl
    have c1 : w2.cell? ⟨w1.heap.size, 1, none⟩ = some (.string st) := by rw [cell_of_row _ _ _ _ _ _ hB2]; rfl
    have d0 : w2.cell? ⟨w.heap.size, 0, none⟩ = some (.int .i64 0) := by rw [cell_of_row _ _ _ _ _ _ hA2]; rfl
    have d1 : w2.cell? ⟨w.heap.size, 1, none⟩ = some (.int .i64 0) := by rw [cell_of_row _ _ _ _ _ _ hA2]; rfl
    have d2 : w2.cell? ⟨w.heap.size, 2, none⟩ = some (.bool false) := by rw [cell_of_row _ _ _ _ _ _ hA2]; rfl
    have d3 : w2.cell? ⟨w.heap.size, 3, none⟩ = some (.string ⟨#[]⟩) := by rw [cell_of_row _ _ _ _ _ _ hA2]; rfl
    have hf0 : w2.frozen? ⟨w.heap.size, 0, none⟩ = false := frozen_of_row _ _ _ _ _ hA2
    have hf1 : w2.frozen? ⟨w.heap.size, 1, none⟩ = false := frozen_of_row _ _ _ _ _ hA2
    have hf2 : w2.frozen? ⟨w.heap.size, 2, none⟩ = false := frozen_of_row _ _ _ _ _ hA2
    have hf3 : w2.frozen? ⟨w.heap.size, 3, none⟩ = false := frozen_of_row _ _ _ _ _ hA2
    have F2 := hide f2
    have HA2 := hide hA2
    clear f1' hA1 hA2 hB2 f2
    try (have hix' := unhide hix; have h5a : ¬ (st.size : Int) < 5 := (by omega); have h5b : ¬ 236 < (st.size : Int) := (by omega); go_wp2_with fail; refine (unhide H2 _).mono ?_; rintro e w3 ⟨rfl, rfl⟩)
    go_wp2
    refine bodyPost_ret (row_res4' Tryz.results90 _ w.heap.size (.int .i64 0) (.int .i64 0) (.bool false) (.string ⟨#[]⟩) (four_set _ _ _ _ (unhide HA2)) rfl rfl rfl rfl _ rfl) rfl ⟨rfl, ?_⟩
    exact four_below _ _ _ _ (unhide F2) (Nat.le_refl _)

set_option maxRecDepth 100000 in
set_option maxHeartbeats 3200000 in
theorem lpieceOf_yes (w : World) (b o cap n : Nat) (l : List UInt8) (r : Rec) (hT : Tab w) (h1 : 1 ≤ w.heap.size) (hl : l.length = 256) (hc : 256 ≤ cap) (hcap : cap ≤ 9223372036854775807) (h : BytesAt w (some ⟨b, o, none⟩) l) (hrr : readS l = some r) (hok : okPc n r) :
    Calls Tryz.prog 90 #[.slice (some ⟨b, o, none⟩) 256 cap, .int .i64 (n : Int)] w fun e w' => e = .returned (.tuple #[.agg #[.int .i64 r.epoch, .int .i64 (n : Int), .bool (decide ((r.data.getD 4 0).toNat = 1)), str (r.data.drop 5)], .bool true]) ∧ Below w.heap.size w w' := by
  have hA := heap_alloc_last w (.cells #[.int .i64 0, .int .i64 0, .bool false, .string ⟨#[]⟩] 113)
  have fb : Below w.heap.size w (w.alloc (.cells #[.int .i64 0, .int .i64 0, .bool false, .string ⟨#[]⟩] 113)) := (Below.refl _ _).alloc (Nat.le_refl _) _
  generalize hwb : w.alloc (.cells #[.int .i64 0, .int .i64 0, .bool false, .string ⟨#[]⟩] 113) = wb at *
  have hws : wb.heap.size = w.heap.size + 1 := by rw [← hwb]; simp
  have H1 := hide (lunsealed_any wb b o cap l (tab_below hT fb h1) (by omega) hl hc hcap (h.below fb))
  rw [hrr] at H1
  have H1' : Hid (Calls Tryz.prog 88 #[.slice (some ⟨b, o, none⟩) 256 cap] wb fun e w' => e = .returned (.tuple #[.agg #[.int .i64 r.epoch, str r.data], .bool true]) ∧ Below wb.heap.size wb w') := H1
  obtain ⟨h5, h6, hnn, hbit⟩ := hok
  have hsz : (⟨r.data.toArray⟩ : ByteArray).size = r.data.length := by simp [ByteArray.size]
  have hb4 : r.data[4]? = some (r.data.getD 4 0) := by rw [List.getD_eq_getElem?_getD, List.getElem?_eq_getElem (show 4 < r.data.length by omega)]; rfl
  have hix : ∀ W, (Instr.index 9 (str r.data) (.int .i64 4)).run Tryz.prog W = .ok (.int .u8 ((r.data.getD 4 0).toNat : Int)) W := str_index r.data 4 _ hb4
  have hex : (⟨r.data.toArray⟩ : ByteArray).extract 0 4 = ⟨(r.data.take 4).toArray⟩ := by apply ByteArray.ext; simp
  have hex5 : (⟨r.data.toArray⟩ : ByteArray).extract 5 r.data.length = ⟨(r.data.drop 5).toArray⟩ := by
    apply ByteArray.ext
    simp
    exact List.take_of_length_le (by simp)
  have H2 : Hid (∀ W, Calls Tryz.prog 89 #[.string ⟨(r.data.take 4).toArray⟩] W fun e w' => e = .returned (.int .i64 (n : Int)) ∧ w' = W) := by
    rw [← hnn, ← num_take r.data 4 (by omega)]
    exact fun W => lnumbered_any W (r.data.take 4) (by rw [List.length_take]; omega)
  have hbe := bit_eq (r.data.getD 4 0).toNat
  have FB := hide fb
  have HW := hide hwb
  have HA := hide hA
  clear fb hA hwb h H1 hrr hT hnn hb4
  unfold str at *
  generalize decide ((r.data.getD 4 0).toNat = 1) = fin at *
  generalize (r.data.getD 4 0).toNat = bt at *
  generalize (⟨(r.data.drop 5).toArray⟩ : ByteArray) = s5 at *
  generalize (⟨(r.data.take 4).toArray⟩ : ByteArray) = s4 at *
  generalize (⟨r.data.toArray⟩ : ByteArray) = st at *
  generalize r.data.length = N at *
  generalize r.epoch = ep at *
  have g5 : ¬ (N : Int) < 5 := by omega
  have g6 : ¬ 236 < (N : Int) := by omega
  have g7 : ¬ 1 < (bt : Int) := by omega
  have g8 : (5 : Int) ≤ (N : Int) := by omega
  have g9 : (4 : Int) ≤ (N : Int) := by omega
  go_enter Tryz.func90, Tryz.ntmps90
  go_upto_region 1 with fail
  rw [unhide HW]
  go_wp2_with fail
  refine (unhide H1').mono ?_
  rintro e w1 ⟨rfl, f1⟩
  have hA1 := (f1.block w.heap.size (by omega)).trans (unhide HA)
  have f1' : Below w.heap.size w w1 := (unhide FB).trans (f1.mono (by omega))
  have hq1 := f1.size
  clear f1 H1'
  go_upto_region 2 with fail
  have hA2 := (heap_alloc_old w1 (.cells #[.int .i64 ep, .string st] 85) (lt_of_heap hA1)).trans hA1
  have hB2 := heap_alloc_last w1 (.cells #[.int .i64 ep, .string st] 85)
  have f2 : Below w.heap.size w (w1.alloc (.cells #[.int .i64 ep, .string st] 85)) := f1'.alloc f1'.size _
  generalize w1.alloc (.cells #[.int .i64 ep, .string st] 85) = w2 at *
  have c0 : w2.cell? ⟨w1.heap.size, 0, none⟩ = some (.int .i64 ep) := by rw [cell_of_row _ _ _ _ _ _ hB2]; rfl
  have c1 : w2.cell? ⟨w1.heap.size, 1, none⟩ = some (.string st) := by rw [cell_of_row _ _ _ _ _ _ hB2]; rfl
  have d0 : w2.cell? ⟨w.heap.size, 0, none⟩ = some (.int .i64 0) := by rw [cell_of_row _ _ _ _ _ _ hA2]; rfl
  have d1 : w2.cell? ⟨w.heap.size, 1, none⟩ = some (.int .i64 0) := by rw [cell_of_row _ _ _ _ _ _ hA2]; rfl
  have d2 : w2.cell? ⟨w.heap.size, 2, none⟩ = some (.bool false) := by rw [cell_of_row _ _ _ _ _ _ hA2]; rfl
  have d3 : w2.cell? ⟨w.heap.size, 3, none⟩ = some (.string ⟨#[]⟩) := by rw [cell_of_row _ _ _ _ _ _ hA2]; rfl
  have hf0 : w2.frozen? ⟨w.heap.size, 0, none⟩ = false := frozen_of_row _ _ _ _ _ hA2
  have hf1 : w2.frozen? ⟨w.heap.size, 1, none⟩ = false := frozen_of_row _ _ _ _ _ hA2
  have hf2 : w2.frozen? ⟨w.heap.size, 2, none⟩ = false := frozen_of_row _ _ _ _ _ hA2
  have hf3 : w2.frozen? ⟨w.heap.size, 3, none⟩ = false := frozen_of_row _ _ _ _ _ hA2
  have hne : w.heap.size ≠ w1.heap.size := by omega
  have hne2 : w1.heap.size ≠ w.heap.size := by omega
  have F2 := hide f2
  have HA2 := hide hA2
  clear f1' hA1 hA2 hB2 f2
  go_wp2_with fail
  refine (unhide H2 _).mono ?_
  rintro e w3 ⟨rfl, rfl⟩
  go_upto_region 7 with fail
  go_region_held_law (fun W => W.cell? ⟨w1.heap.size, 0, none⟩ = some (.int .i64 ep) ∧ W.cell? ⟨w1.heap.size, 1, none⟩ = some (.string st)) (go_keep) (fail)
  all_goals
    go_wp2
    refine bodyPost_ret (row_res4' Tryz.results90 _ w.heap.size (.int .i64 ep) (.int .i64 (n : Int)) (.bool fin) (.string s5) ?_ rfl rfl rfl rfl _ rfl) rfl ⟨rfl, ?_⟩
    · exact four_set _ _ _ _ (unhide HA2)
    · exact (four_below _ _ _ _ (unhide F2) (Nat.le_refl _)).drew

end Go.Proofs.YtfggahkimconfaaGreatDoor

/- The landed log: its place on a disk: placeOn, store, renew, readHead, readPiece. -/
namespace Go.Proofs.YtfggahkimconfaaGreatDoor
open Go.RowKit
set_option linter.unusedVariables false

theorem three_set {W : World} {A : Nat} {T : TypeId} {a0 a1 a2 : Value} (c0 c1 c2 : Value) (h : W.heap[A]? = some (.cells #[a0, a1, a2] T (0, 0))) :
    (((W.setCell ⟨A, 0, none⟩ c0).setCell ⟨A, 1, none⟩ c1).setCell ⟨A, 2, none⟩ c2).heap[A]? = some (.cells #[c0, c1, c2] T (0, 0)) := by
  have h1 := heap_setCell_same W A 0 _ _ c0 h
  have h2 := heap_setCell_same _ A 1 _ _ c1 h1
  exact heap_setCell_same _ A 2 _ _ c2 h2
theorem row_res3' {fn : Func} {p u : Tmp} (h : fn.results = #[.cell p 70, .tmp u]) (w : World) (A : Nat) (c0 c1 c2 : Value) (hb : w.heap[A]? = some (.cells #[c0, c1, c2] 70 (0, 0))) (o0 : c0.oneCell' = true) (o1 : c1.oneCell' = true) (o2 : c2.oneCell' = true) (tmps : Array Value) (hp : tmps.getD p undef = .pointer (some ⟨A, 0, none⟩)) :
    (results fn tmps).run Tryz.prog w = .ok (.tuple #[.agg #[c0, c1, c2], tmps.getD u undef]) w :=
  row_res3 h w A c0 c1 c2 (by rw [cell_of_row _ _ _ _ _ _ hb]; rfl) (by rw [cell_of_row _ _ _ _ _ _ hb]; rfl) (by rw [cell_of_row _ _ _ _ _ _ hb]; rfl) o0 o1 o2 tmps hp

theorem xCount (w : World) (B p : Nat) (D : Dk) (hX : X w B p D) : Calls Tryz.prog 69 #[.pointer (some ⟨p, 0, none⟩)] w fun e w' => e = .returned (.int .i64 D.secs.length) ∧ w' = w := by
  obtain ⟨g, vs, h⟩ := hX
  exact Count_any w B p g vs D h
def plV (p : Nat) (a m : Int) : Value := .agg #[.pointer (some ⟨p, 0, none⟩), .int .i64 a, .int .i64 m]

set_option maxRecDepth 100000 in
set_option maxHeartbeats 1600000 in
theorem lplaceOn_yes (w : World) (B p : Nat) (D : Dk) (L n : Nat) (hX : X w B p D) (hO : Okd D L n) (a m : Int) (hp : placeOk D a m) :
    Calls Tryz.prog 34 #[.pointer (some ⟨p, 0, none⟩), .int .i64 a, .int .i64 m] w fun e w' => e = .returned (.tuple #[.agg #[.pointer (some ⟨p, 0, none⟩), .int .i64 a, .int .i64 m], .int .i64 0]) ∧ Below w.heap.size w w' := by
  have hA := heap_alloc_last w (.cells #[.pointer none, .int .i64 0, .int .i64 0] 70)
  have fb : Below w.heap.size w (w.alloc (.cells #[.pointer none, .int .i64 0, .int .i64 0] 70)) := (Below.refl _ _).alloc (Nat.le_refl _) _
  generalize hwb : w.alloc (.cells #[.pointer none, .int .i64 0, .int .i64 0] 70) = wb at *
  have H1 := hide (xCount wb B p D (hX.below fb))
  obtain ⟨hp1, hp2, hp3, hp4⟩ := hp
  have h1 := hO.one
  have h2 := hO.most
  have hlen := hO.len
  rw [hlen] at hp2 hp4 H1
  have g0 : ((L : Int) == 0) = false := by simp; omega
  have g1 : ¬ a < 0 := by omega
  have g2 : ¬ m < 2 := by omega
  have g3 : ¬ (L : Int) - m < a := by omega
  have g4 : IntKind.i64.wrap ((L : Int) - m) = (L : Int) - m := by rw [IntKind.wrap_i64]; omega
  have FB := hide fb
  have HW := hide hwb
  have HA := hide hA
  clear fb hA hwb hX hO
  go_enter Tryz.func34, Tryz.ntmps34
  go_upto_region 1 with fail
  rw [unhide HW]
  go_wp2_with fail
  refine (unhide H1).mono ?_
  rintro e w1 ⟨rfl, rfl⟩
  have d0 : w1.cell? ⟨w.heap.size, 0, none⟩ = some (.pointer none) := by rw [cell_of_row _ _ _ _ _ _ (unhide HA)]; rfl
  have d1 : w1.cell? ⟨w.heap.size, 1, none⟩ = some (.int .i64 0) := by rw [cell_of_row _ _ _ _ _ _ (unhide HA)]; rfl
  have d2 : w1.cell? ⟨w.heap.size, 2, none⟩ = some (.int .i64 0) := by rw [cell_of_row _ _ _ _ _ _ (unhide HA)]; rfl
  have hf0 : w1.frozen? ⟨w.heap.size, 0, none⟩ = false := frozen_of_row _ _ _ _ _ (unhide HA)
  have hf1 : w1.frozen? ⟨w.heap.size, 1, none⟩ = false := frozen_of_row _ _ _ _ _ (unhide HA)
  have hf2 : w1.frozen? ⟨w.heap.size, 2, none⟩ = false := frozen_of_row _ _ _ _ _ (unhide HA)
  go_wp2
  refine bodyPost_ret (row_res3' Tryz.results34 _ w.heap.size _ _ _ ?_ rfl rfl rfl _ rfl) rfl ⟨rfl, ?_⟩
  · exact three_set _ _ _ (unhide HA)
  · exact (((unhide FB).setCell (p := ⟨w.heap.size, 0, none⟩) (Nat.le_refl _) _).setCell (p := ⟨w.heap.size, 1, none⟩) (Nat.le_refl _) _).setCell (p := ⟨w.heap.size, 2, none⟩) (Nat.le_refl _) _

set_option maxRecDepth 100000 in
set_option maxHeartbeats 1600000 in
theorem lplaceOn_no (w : World) (B p : Nat) (D : Dk) (L n : Nat) (hX : X w B p D) (hO : Okd D L n) (a m : Int) (hp : ¬ placeOk D a m) (ha : -9223372036854775808 ≤ a ∧ a ≤ 9223372036854775807) (hm : -9223372036854775808 ≤ m ∧ m ≤ 9223372036854775807) :
    Calls Tryz.prog 34 #[.pointer (some ⟨p, 0, none⟩), .int .i64 a, .int .i64 m] w fun e w' => e = .returned (.tuple #[.agg #[.pointer none, .int .i64 0, .int .i64 0], .int .i64 2]) ∧ Below w.heap.size w w' := by
  have hA := heap_alloc_last w (.cells #[.pointer none, .int .i64 0, .int .i64 0] 70)
  have fb : Below w.heap.size w (w.alloc (.cells #[.pointer none, .int .i64 0, .int .i64 0] 70)) := (Below.refl _ _).alloc (Nat.le_refl _) _
  generalize hwb : w.alloc (.cells #[.pointer none, .int .i64 0, .int .i64 0] 70) = wb at *
  have H1 := hide (xCount wb B p D (hX.below fb))
  have h1 := hO.one
  have h2 := hO.most
  have hlen := hO.len
  rw [hlen] at H1
  have g0 : ((L : Int) == 0) = false := by simp; omega
  have hcase : (a < 0) ∨ (¬ a < 0 ∧ m < 2) ∨ (¬ a < 0 ∧ ¬ m < 2 ∧ (L : Int) - m < a ∧ IntKind.i64.wrap ((L : Int) - m) = (L : Int) - m) := by
    unfold placeOk at hp
    rw [hlen] at hp
    by_cases c1 : a < 0
    · exact .inl c1
    · by_cases c2 : m < 2
      · exact .inr (.inl ⟨c1, c2⟩)
      · exact .inr (.inr ⟨c1, c2, by omega, by rw [IntKind.wrap_i64]; omega⟩)
  have FB := hide fb
  have HW := hide hwb
  have HA := hide hA
  clear fb hA hwb hX hO hp hlen
  rcases hcase with g1 | ⟨g1, g2⟩ | ⟨g1, g2, g3, g4⟩
  all_goals
    go_enter Tryz.func34, Tryz.ntmps34
    go_upto_region 1 with fail
    rw [unhide HW]
    go_wp2_with fail
    refine (unhide H1).mono ?_
    rintro e w1 ⟨rfl, rfl⟩
    have d0 : w1.cell? ⟨w.heap.size, 0, none⟩ = some (.pointer none) := by rw [cell_of_row _ _ _ _ _ _ (unhide HA)]; rfl
    have d1 : w1.cell? ⟨w.heap.size, 1, none⟩ = some (.int .i64 0) := by rw [cell_of_row _ _ _ _ _ _ (unhide HA)]; rfl
    have d2 : w1.cell? ⟨w.heap.size, 2, none⟩ = some (.int .i64 0) := by rw [cell_of_row _ _ _ _ _ _ (unhide HA)]; rfl
    have hf0 : w1.frozen? ⟨w.heap.size, 0, none⟩ = false := frozen_of_row _ _ _ _ _ (unhide HA)
    have hf1 : w1.frozen? ⟨w.heap.size, 1, none⟩ = false := frozen_of_row _ _ _ _ _ (unhide HA)
    have hf2 : w1.frozen? ⟨w.heap.size, 2, none⟩ = false := frozen_of_row _ _ _ _ _ (unhide HA)
    go_wp2
    refine bodyPost_ret (row_res3' Tryz.results34 _ w.heap.size _ _ _ ?_ rfl rfl rfl _ rfl) rfl ⟨rfl, ?_⟩
    · exact three_set _ _ _ (unhide HA)
    · exact (((unhide FB).setCell (p := ⟨w.heap.size, 0, none⟩) (Nat.le_refl _) _).setCell (p := ⟨w.heap.size, 1, none⟩) (Nat.le_refl _) _).setCell (p := ⟨w.heap.size, 2, none⟩) (Nat.le_refl _) _

theorem okd_st' {w : World} {B p : Nat} {D : Dk} {L n : Nat} (hO : Okd D L n) (a : Int) (x : List UInt8) (hX : X w B p (D.st a x)) : Okd (D.st a x) L (n + 1) :=
  Okd.of hX (by rw [st_len, hO.len]) (st_few hO.few a x)
/-- Sectors' values: a row of slices of bytes, each of 256. -/
structure Vals (w : World) (b o : Nat) (xs : List (List UInt8)) : Prop where
  row : ∃ cur f, w.heap[b]? = some (.cells cur 43 f)
  val : ∀ (j : Nat) (x : List UInt8), xs[j]? = some x → x.length = 256 ∧ ∃ q c cur f, w.cell? ⟨b, o + j, none⟩ = some (.slice (some ⟨q, 0, none⟩) 256 c) ∧ w.heap[q]? = some (.cells cur 5 f) ∧ BytesAt w (some ⟨q, 0, none⟩) x
theorem cell_same {w w' : World} {q o : Nat} (e : w'.heap[q]? = w.heap[q]?) : w'.cell? ⟨q, o, none⟩ = w.cell? ⟨q, o, none⟩ := by simp only [World.cell?, e]
theorem bytes_same {w w' : World} {q o : Nat} {x : List UInt8} (h : BytesAt w (some ⟨q, o, none⟩) x) (e : w'.heap[q]? = w.heap[q]?) : BytesAt w' (some ⟨q, o, none⟩) x :=
  ⟨fun c => (nomatch c), fun ad ha j u hj => by
    injection ha with ha
    subst ha
    have := h.2 _ rfl j u hj
    rw [Addr.add_mid] at this ⊢
    rw [← this]
    exact cell_same e⟩
theorem Vals.fr {w w' : World} {B b o : Nat} {xs : List (List UInt8)} (h : Vals w b o xs) (f : Fr B w w') : Vals w' b o xs := by
  obtain ⟨⟨cur, fz, hb⟩, hv⟩ := h
  have e := f.other _ _ _ _ hb (by decide) (by decide) (by decide)
  refine ⟨⟨cur, fz, e.trans hb⟩, fun j x hx => ?_⟩
  obtain ⟨h1, q, c, cu, fq, h2, h3, h4⟩ := hv j x hx
  have eq := f.other _ _ _ _ h3 (by decide) (by decide) (by decide)
  exact ⟨h1, q, c, cu, fq, (cell_same e).trans h2, eq.trans h3, bytes_same h4 eq⟩
/-- Between two rounds of store. -/
structure StI (w : World) (B p L n k0 k : Nat) (R : Dk × Int) (xs : List (List UInt8)) (W : World) : Prop where
  ex : ∃ D, X W B p D ∧ Okd D L (n + k) ∧ D.stores (k0 + k) (xs.drop k) = R
  fr : Fr B w W

set_option maxRecDepth 100000 in
set_option maxHeartbeats 3200000 in
theorem lstore_any (w : World) (B p : Nat) (D : Dk) (L n : Nat) (hX : X w B p D) (hO : Okd D L n) (a first N : Nat) (m : Int) (xs : List (List UInt8)) (hN : xs.length = N) (hn : n + N ≤ 1000) (hf : a ≤ 100000 ∧ first ≤ 100000) (b o cap : Nat) (hv : Vals w b o xs) :
    Calls Tryz.prog 51 #[.agg #[.pointer (some ⟨p, 0, none⟩), .int .i64 (a : Int), .int .i64 m], .int .i64 (first : Int), .slice (some ⟨b, o, none⟩) N cap] w fun e w' => e = .returned (.int .i64 (D.stores (a + first) xs).2) ∧ X w' B p (D.stores (a + first) xs).1 ∧ Fr B w w' := by
  have hBw := hX.bw
  have hA := heap_alloc_last w (.cells #[.pointer (some ⟨p, 0, none⟩), .int .i64 (a : Int), .int .i64 m] 70)
  have fb : Below w.heap.size w (w.alloc (.cells #[.pointer (some ⟨p, 0, none⟩), .int .i64 (a : Int), .int .i64 m] 70)) := (Below.refl _ _).alloc (Nat.le_refl _) _
  generalize hwb : w.alloc (.cells #[.pointer (some ⟨p, 0, none⟩), .int .i64 (a : Int), .int .i64 m] 70) = wb at *
  have HI0 : Hid (StI wb B p L n (a + first) 0 (D.stores (a + first) xs) xs wb) := ⟨⟨D, hX.below fb, hO, rfl⟩, Fr.refl _ _⟩
  have HV := hide (hv.fr (Fr.of_below fb hBw))
  have HFB := hide (Fr.of_below fb hBw)
  have HW := hide hwb
  have HA := hide hA
  generalize hR : D.stores (a + first) xs = R at *
  obtain ⟨PO, hPO⟩ : ∃ PO : Ending → World → Prop, PO = fun e w' => e = .returned (.int .i64 R.2) ∧ X w' B p R.1 ∧ Fr B w w' := ⟨_, rfl⟩
  have HPO : Hid (∀ W D1 E, (D1, E) = R → X W B p D1 → Fr B w W → PO (.returned (.int .i64 E)) W) := fun W D1 E hr hx f => by
    rw [hPO, ← hr]
    exact ⟨rfl, hx, f⟩
  rw [← hPO]
  clear hX hO hv fb hA hwb hR hPO
  go_enter Tryz.func51, Tryz.ntmps51
  go_upto_region 1 with fail
  rw [unhide HW]
  go_wp2
  go_loopw [12] (fun i wr => ∃ k : Nat, k ≤ N ∧ i = .int .i64 k ∧ StI wb B p L n (a + first) k R xs wr) (fun i _ => N - (intOf i).toNat)
  case atStart => exact ⟨0, by omega, rfl, unhide HI0⟩
  case round =>
    clear HI0
    obtain ⟨k, hk, rfl, ⟨D1, x1, k1, e1⟩, f1⟩ := hrel
    have eA := f1.other _ _ _ _ (unhide HA) (by decide) (by decide) (by decide)
    have hA1 := eA.trans (unhide HA)
    have c0 : wr.cell? ⟨w.heap.size, 0, none⟩ = some (.pointer (some ⟨p, 0, none⟩)) := by rw [cell_of_row _ _ _ _ _ _ hA1]; rfl
    have c1 : wr.cell? ⟨w.heap.size, 1, none⟩ = some (.int .i64 (a : Int)) := by rw [cell_of_row _ _ _ _ _ _ hA1]; rfl
    by_cases hlt : k < N
    · have hlt1 : (k : Int) < (N : Int) := by omega
      obtain ⟨x, hx⟩ : ∃ x, xs[k]? = some x := ⟨_, List.getElem?_eq_getElem (by omega)⟩
      have hdr : xs.drop k = x :: xs.drop (k + 1) := by
        rw [List.drop_eq_getElem_cons (by omega)]
        congr 1
        exact (List.getElem?_eq_some_iff.1 hx).2
      rw [hdr, Dk.stores] at e1
      obtain ⟨hx256, q, c, cu, fq, h2, h3, h4⟩ := ((unhide HV).fr f1).val k x hx
      obtain ⟨T, hT⟩ : ∃ T, T = a + first + k := ⟨_, rfl⟩
      have gT : (a : Int) + (first : Int) + (k : Int) = (T : Int) := by omega
      have gT2 : (T : Int) ≤ 300000 := by omega
      rw [← hT] at e1
      have HT := hide hT
      clear hT
      have H2 := hide (xStore wr B p D1 L (n + k) x1 k1 (by omega) (T : Int) q 0 c 256 cu fq h3 x hx256 h4)
      have KO := hide (fun W (hXW : X W B p (D1.st (T : Int) x)) => okd_st' k1 (T : Int) x hXW)
      have F1 := hide f1
      clear x1 h3 h4 k1 hA1 eA hx256 hdr f1
      by_cases hE : D1.stE (T : Int) 256 = 0
      · rw [if_pos hE] at e1
        rw [hE] at H2
        clear hE
        go_wp2_with fail
        refine (unhide H2).mono ?_
        rintro e w2 ⟨rfl, x2, f2⟩
        have HI : Hid (StI wb B p L n (a + first) (k + 1) R xs w2) := ⟨⟨_, x2, unhide KO _ x2, by rw [← e1]; have := unhide HT; rw [show a + first + (k + 1) = T + 1 by omega]⟩, (unhide F1).trans f2⟩
        clear x2 f2 H2 KO F1 e1
        go_wp2
        go_roundw
        case rel => exact ⟨k + 1, by omega, by go_num, unhide HI⟩
        case measure => simp [intOf]; omega
      · rw [if_neg hE] at e1
        have gE : (D1.stE (T : Int) 256 != 0) = true := by simpa using hE
        generalize D1.stE (T : Int) 256 = E at *
        clear hE
        go_wp2_with fail
        refine (unhide H2).mono ?_
        rintro e w2 ⟨rfl, x2, f2⟩
        have HF := hide (unhide HPO w2 _ _ e1 x2 ((unhide HFB).trans ((unhide F1).trans f2)))
        clear x2 f2 H2 KO F1 e1 HPO
        go_wp2
        exact unhide HF
    · obtain rfl : k = N := by omega
      rw [List.drop_eq_nil_of_le (by omega), Dk.stores] at e1
      have HF := hide (unhide HPO wr _ _ e1 x1 ((unhide HFB).trans f1))
      clear x1 f1 k1 hA1 eA HPO e1
      go_wp2
      exact unhide HF

theorem stores_one (D : Dk) (a : Nat) (x : List UInt8) : D.stores (a + 0) [x] = (D.st a x, D.stE a 256) := by
  rw [Dk.stores]
  by_cases h : D.stE ((a + 0 : Nat) : Int) 256 = 0
  · rw [if_pos h]
    exact Prod.ext rfl h.symm
  · rw [if_neg h]
    rfl
theorem Vals.drew {w : World} {b o : Nat} {xs : List (List UInt8)} (h : Vals w b o xs) : Vals w.drew b o xs := ⟨h.row, fun j x hx => h.val j x hx⟩
theorem vals_one {w : World} {base : Nat} {v : Value} {x : List UInt8} (h : w.ownsRow base 5 1 v 256 (bv x)) (hx : x.length = 256) : Vals (w.alloc (.cells #[v] 43)) w.heap.size 0 [x] := by
  have hl := heap_alloc_last w (.cells #[v] 43)
  refine ⟨⟨_, _, hl⟩, fun j y hy => ?_⟩
  match j, hy with
  | 0, hy =>
    cases hy
    have hbb := h
    rcases h.2 with ⟨rfl, h0⟩ | ⟨q, cap, cur, rfl, hb, hq, _⟩
    · omega
    · refine ⟨hx, q, cap, cur, (0, 0), ?_, (heap_alloc_old w _ (lt_of_heap hq)).trans hq, bytes_same (own_bytes hbb) (heap_alloc_old w _ (lt_of_heap hq))⟩
      rw [cell_of_row _ _ _ _ _ _ hl]
      rfl

set_option maxRecDepth 100000 in
set_option maxHeartbeats 3200000 in
theorem lrenew_any (w : World) (B p : Nat) (D : Dk) (L n : Nat) (hT : Tab w) (h1 : 1 ≤ B) (hX : X w B p D) (hO : Okd D L n) (hn : n ≤ 900) (a : Nat) (ha : a ≤ 100000) (m : Int) (now fro : Nat) (hnow : now < 4294967296) (hfro : fro < 4294967296) :
    Calls Tryz.prog 35 #[.agg #[.pointer (some ⟨p, 0, none⟩), .int .i64 (a : Int), .int .i64 m], .agg #[.int .i64 (now : Int), .int .i64 (fro : Int)]] w fun e w' => e = .returned (.int .i64 (D.sb a (secB (headR now fro))).2) ∧ X w' B p (D.sb a (secB (headR now fro))).1 ∧ Fr B w w' := by
  have hBw := hX.bw
  have hsl := secB_len (head_fit (fro := fro) hnow)
  have fb : Below w.heap.size w ((w.alloc (.cells #[.pointer (some ⟨p, 0, none⟩), .int .i64 (a : Int), .int .i64 m] 70)).alloc (.cells #[.int .i64 (now : Int), .int .i64 (fro : Int)] 75)) := ((Below.refl _ _).alloc (Nat.le_refl _) _).alloc (by simp) _
  have hA : ((w.alloc (.cells #[.pointer (some ⟨p, 0, none⟩), .int .i64 (a : Int), .int .i64 m] 70)).alloc (.cells #[.int .i64 (now : Int), .int .i64 (fro : Int)] 75)).heap[w.heap.size]? = some (.cells #[.pointer (some ⟨p, 0, none⟩), .int .i64 (a : Int), .int .i64 m] 70 (0, 0)) :=
    (heap_alloc_old _ _ (by simp)).trans (heap_alloc_last w _)
  have hC := heap_alloc_last (w.alloc (.cells #[.pointer (some ⟨p, 0, none⟩), .int .i64 (a : Int), .int .i64 m] 70)) (.cells #[.int .i64 (now : Int), .int .i64 (fro : Int)] 75)
  have hs1 : (w.alloc (.cells #[.pointer (some ⟨p, 0, none⟩), .int .i64 (a : Int), .int .i64 m] 70)).heap.size = w.heap.size + 1 := by simp
  rw [hs1] at hC
  generalize hwb : (w.alloc (.cells #[.pointer (some ⟨p, 0, none⟩), .int .i64 (a : Int), .int .i64 m] 70)).alloc (.cells #[.int .i64 (now : Int), .int .i64 (fro : Int)] 75) = wb at *
  have FWB := hide (Fr.of_below fb hBw)
  have XB := hide (hX.below fb)
  have H1 : Hid (∀ W, Below wb.heap.size wb W → Calls Tryz.prog 71 #[.agg #[.int .i64 (now : Int), .int .i64 (fro : Int)]] W fun e w' => ∃ g c, e = .returned (.slice (some ⟨g, 0, none⟩) 256 c) ∧ w'.ownsRow wb.heap.size 5 1 (.slice (some ⟨g, 0, none⟩) 256 c) 256 (bv (secB (headR now fro))) ∧ Below wb.heap.size wb w') := fun W f => by
    refine (lhval_any W now fro (tab_below hT (fb.trans (f.mono fb.size)) (by omega)) (by have := f.size; have := fb.size; omega) hnow hfro).mono ?_
    rintro e w' ⟨v, rfl, o, f'⟩
    obtain ⟨g, c, rfl, _, _⟩ := o.form (by omega)
    exact ⟨g, c, rfl, own_base o f.size, f.trans (f'.mono f.size)⟩
  have HA := hide hA
  have HC := hide hC
  have HW := hide hwb
  have HO := hide hO
  obtain ⟨PO, hPO⟩ : ∃ PO : Ending → World → Prop, PO = fun e w' => e = .returned (.int .i64 (D.sb a (secB (headR now fro))).2) ∧ X w' B p (D.sb a (secB (headR now fro))).1 ∧ Fr B w w' := ⟨_, rfl⟩
  rw [← hPO]
  generalize secB (headR now fro) = sb at *
  have hsb : D.sb a sb = if D.stE a 256 = 0 then ((D.st a sb).ba, (D.st a sb).baE) else (D.st a sb, D.stE a 256) := rfl
  rw [hsb] at hPO
  have HP1 : Hid (D.stE a 256 = 0 → ∀ W, X W B p (D.st a sb).ba → Fr B w W → PO (.returned (.int .i64 (D.st a sb).baE)) W) := fun h0 W hx f => by
    rw [hPO, if_pos h0]
    exact ⟨rfl, hx, f⟩
  have HP2 : Hid (D.stE a 256 ≠ 0 → ∀ W, X W B p (D.st a sb) → Fr B w W → PO (.returned (.int .i64 (D.stE a 256))) W) := fun h0 W hx f => by
    rw [hPO, if_neg h0]
    exact ⟨rfl, hx, f⟩
  have H3 : Hid (∀ W b, Below wb.heap.size wb W → Vals W b 0 [sb] → Calls Tryz.prog 51 #[.agg #[.pointer (some ⟨p, 0, none⟩), .int .i64 (a : Int), .int .i64 m], .int .i64 0, .slice (some ⟨b, 0, none⟩) 1 1] W fun e w' => e = .returned (.int .i64 (D.stE a 256)) ∧ X w' B p (D.st a sb) ∧ Fr B wb w') := fun W b f hv => by
    have h := lstore_any W B p D L n ((unhide XB).below f) hO a 0 1 m [sb] rfl (by omega) ⟨ha, by omega⟩ b 0 1 hv
    rw [stores_one] at h
    refine Calls.mono h ?_
    rintro e w' ⟨rfl, x', f'⟩
    exact ⟨rfl, x', (Fr.of_below f (unhide XB).bw).trans f'⟩
  have KF : Hid (∀ W, Fr B wb W → W.cell? ⟨w.heap.size, 0, none⟩ = some (.pointer (some ⟨p, 0, none⟩)) ∧ W.cell? ⟨w.heap.size, 1, none⟩ = some (.int .i64 (a : Int)) ∧ W.cell? ⟨w.heap.size, 2, none⟩ = some (.int .i64 m) ∧ W.cell? ⟨w.heap.size + 1, 0, none⟩ = some (.int .i64 (now : Int)) ∧ W.cell? ⟨w.heap.size + 1, 1, none⟩ = some (.int .i64 (fro : Int))) := fun W f => by
    have a1 := (f.other _ _ _ _ hA (by decide) (by decide) (by decide)).trans hA
    have a2 := (f.other _ _ _ _ hC (by decide) (by decide) (by decide)).trans hC
    exact ⟨by rw [cell_of_row _ _ _ _ _ _ a1]; rfl, by rw [cell_of_row _ _ _ _ _ _ a1]; rfl, by rw [cell_of_row _ _ _ _ _ _ a1]; rfl, by rw [cell_of_row _ _ _ _ _ _ a2]; rfl, by rw [cell_of_row _ _ _ _ _ _ a2]; rfl⟩
  clear hX hA hC hwb fb hT hO hsb hPO
  have c0 : wb.cell? ⟨w.heap.size, 0, none⟩ = some (.pointer (some ⟨p, 0, none⟩)) := by rw [cell_of_row _ _ _ _ _ _ (unhide HA)]; rfl
  have c1 : wb.cell? ⟨w.heap.size, 1, none⟩ = some (.int .i64 (a : Int)) := by rw [cell_of_row _ _ _ _ _ _ (unhide HA)]; rfl
  have c2 : wb.cell? ⟨w.heap.size, 2, none⟩ = some (.int .i64 m) := by rw [cell_of_row _ _ _ _ _ _ (unhide HA)]; rfl
  have c3 : wb.cell? ⟨w.heap.size + 1, 0, none⟩ = some (.int .i64 (now : Int)) := by rw [cell_of_row _ _ _ _ _ _ (unhide HC)]; rfl
  have c4 : wb.cell? ⟨w.heap.size + 1, 1, none⟩ = some (.int .i64 (fro : Int)) := by rw [cell_of_row _ _ _ _ _ _ (unhide HC)]; rfl
  have gcan : (now : Int) ≤ 4294967295 := by omega
  have H0 := hide (lcan_any wb (now : Int) (fro : Int))
  rw [decide_eq_true gcan] at H0
  go_enter Tryz.func35, Tryz.ntmps35
  go_upto_region 1 with fail
  rw [unhide HW]
  go_wp2_with fail
  refine (unhide H0).mono ?_
  rintro e w1 ⟨rfl, f1⟩
  have K1 : Hid (∀ W, Below wb.heap.size wb W → W.cell? ⟨w.heap.size, 0, none⟩ = some (.pointer (some ⟨p, 0, none⟩)) ∧ W.cell? ⟨w.heap.size, 1, none⟩ = some (.int .i64 (a : Int)) ∧ W.cell? ⟨w.heap.size, 2, none⟩ = some (.int .i64 m) ∧ W.cell? ⟨w.heap.size + 1, 0, none⟩ = some (.int .i64 (now : Int)) ∧ W.cell? ⟨w.heap.size + 1, 1, none⟩ = some (.int .i64 (fro : Int))) := fun W f =>
    ⟨(f.cell (World.block_lt_of_cell? _ _ c0)).trans c0, (f.cell (World.block_lt_of_cell? _ _ c1)).trans c1, (f.cell (World.block_lt_of_cell? _ _ c2)).trans c2, (f.cell (World.block_lt_of_cell? _ _ c3)).trans c3, (f.cell (World.block_lt_of_cell? _ _ c4)).trans c4⟩
  obtain ⟨d0, d1, d2, d3, d4⟩ := unhide K1 w1 f1
  clear c0 c1 c2 c3 c4 H0
  go_upto_region 3 with fail
  go_region_held_law (fun W => W.cell? ⟨w.heap.size, 0, none⟩ = some (.pointer (some ⟨p, 0, none⟩)) ∧ W.cell? ⟨w.heap.size, 1, none⟩ = some (.int .i64 (a : Int)) ∧ W.cell? ⟨w.heap.size, 2, none⟩ = some (.int .i64 m) ∧ W.cell? ⟨w.heap.size + 1, 0, none⟩ = some (.int .i64 (now : Int)) ∧ W.cell? ⟨w.heap.size + 1, 1, none⟩ = some (.int .i64 (fro : Int))) (go_keep)
    (first
      | (have ox := o2; clear ox; go_at_call 51; refine (unhide H3 _ _ (by repeat (first | exact f2 | refine Below.drew ?_ | refine Below.alloc ?_ f2.size _)) (by repeat (first | exact vals_one o2 hsl | refine Vals.drew ?_))).mono ?_; rintro e w3 ⟨rfl, x3, f3⟩; obtain ⟨k30, k31, k32, k33, k34⟩ := unhide KF w3 f3)
      | (go_at_call 71; refine (unhide H1 _ (by repeat (first | exact f1 | refine Below.drew ?_))).mono ?_; rintro e w2 ⟨g2, cp2, rfl, o2, f2⟩; obtain ⟨k20, k21, k22, k23, k24⟩ := unhide K1 w2 f2))
  clear k20 k21 k22 k23 k24 k31 k32 k33 k34 o2 f2 H1 H3 K1 KF d0 d1 d2 d3 d4 f1
  by_cases hE : D.stE a 256 = 0
  · have H4 := hide (xBarrier w3 B p _ x3)
    have HQ := hide (unhide HP1 hE)
    rw [hE]
    have F3 := hide f3
    clear f3 x3 HP1 HP2 hE
    generalize (D.st a sb).ba = D3 at *
    generalize (D.st a sb).baE = E3 at *
    go_wp2_with fail
    refine (unhide H4).mono ?_
    rintro e w4 ⟨rfl, x4, f4⟩
    have HF := hide (unhide HQ w4 x4 ((unhide FWB).trans ((unhide F3).trans f4)))
    clear x4 f4 H4 HQ
    go_wp2
    exact unhide HF
  · have HF := hide (unhide HP2 hE w3 x3 ((unhide FWB).trans f3))
    have gE : (D.stE a 256 != 0) = true := by simpa using hE
    clear f3 x3 HP1 HP2 hE
    generalize D.stE a 256 = E at *
    go_wp2
    exact unhide HF

end Go.Proofs.YtfggahkimconfaaGreatDoor

/- The landed log: what is read of a place: readHead, readPiece. -/
namespace Go.Proofs.YtfggahkimconfaaGreatDoor
open Go.RowKit
set_option linter.unusedVariables false

set_option maxRecDepth 100000 in
set_option maxHeartbeats 1600000 in
theorem lrenew_full (w : World) (p : Nat) (a m now fro : Int) (h : 4294967295 < now) :
    Calls Tryz.prog 35 #[.agg #[.pointer (some ⟨p, 0, none⟩), .int .i64 a, .int .i64 m], .agg #[.int .i64 now, .int .i64 fro]] w fun e w' => e = .returned (.int .i64 4) ∧ Below w.heap.size w w' := by
  have fb : Below w.heap.size w ((w.alloc (.cells #[.pointer (some ⟨p, 0, none⟩), .int .i64 a, .int .i64 m] 70)).alloc (.cells #[.int .i64 now, .int .i64 fro] 75)) := ((Below.refl _ _).alloc (Nat.le_refl _) _).alloc (by simp) _
  have hC := heap_alloc_last (w.alloc (.cells #[.pointer (some ⟨p, 0, none⟩), .int .i64 a, .int .i64 m] 70)) (.cells #[.int .i64 now, .int .i64 fro] 75)
  have hs1 : (w.alloc (.cells #[.pointer (some ⟨p, 0, none⟩), .int .i64 a, .int .i64 m] 70)).heap.size = w.heap.size + 1 := by simp
  rw [hs1] at hC
  generalize hwb : (w.alloc (.cells #[.pointer (some ⟨p, 0, none⟩), .int .i64 a, .int .i64 m] 70)).alloc (.cells #[.int .i64 now, .int .i64 fro] 75) = wb at *
  have c3 : wb.cell? ⟨w.heap.size + 1, 0, none⟩ = some (.int .i64 now) := by rw [cell_of_row _ _ _ _ _ _ hC]; rfl
  have c4 : wb.cell? ⟨w.heap.size + 1, 1, none⟩ = some (.int .i64 fro) := by rw [cell_of_row _ _ _ _ _ _ hC]; rfl
  have H0 := hide (lcan_any wb now fro)
  rw [decide_eq_false (show ¬ now ≤ 4294967295 by omega)] at H0
  have FB := hide fb
  have HW := hide hwb
  clear fb hC hwb hs1
  go_enter Tryz.func35, Tryz.ntmps35
  go_upto_region 1 with fail
  rw [unhide HW]
  go_wp2_with fail
  refine (unhide H0).mono ?_
  rintro e w1 ⟨rfl, f1⟩
  have F1 := hide ((unhide FB).trans (f1.mono (unhide FB).size))
  clear f1 c3 c4 H0
  go_wp2
  go_ret
  exact ⟨rfl, unhide F1⟩

/-- A sector of a disk whose power is there. -/
theorem xFetch (w : World) (B p : Nat) (D : Dk) (hX : X w B p D) (k : Nat) (b : List UInt8) (hk : D.lasts[k]? = some b) (hd : D.dark = false) :
    Calls Tryz.prog 72 #[.pointer (some ⟨p, 0, none⟩), .int .i64 (k : Int)] w fun e w' => ∃ q, e = .returned (.tuple #[.slice (some ⟨q, 0, none⟩) 256 256, .int .i64 0]) ∧ BytesAt w' (some ⟨q, 0, none⟩) b ∧ Below w.heap.size w w' := by
  obtain ⟨g, vs, h⟩ := hX
  unfold Dk.lasts at hk
  rw [List.getElem?_map] at hk
  obtain ⟨s, hs, rfl⟩ := Option.map_eq_some_iff.1 hk
  refine (Fetch_ok w B p g vs D h k s hs hd).mono ?_
  rintro e w' ⟨q, rfl, _, hq, f⟩
  exact ⟨q, rfl, bytes_of_block hq, f⟩

theorem head_none {D : Dk} {a : Nat} {l : List UInt8} (hl : D.lasts[a]? = some l) (hr : readS l = none) : D.headAt a = none := by
  unfold Dk.headAt
  rw [hl]
  simp only [hr]
theorem head_some {D : Dk} {a : Nat} {l : List UInt8} {r : Rec} (hl : D.lasts[a]? = some l) (hr : readS l = some r) : D.headAt a = if r.data.length = 4 then some r else none := by
  unfold Dk.headAt
  rw [hl]
  simp only [hr]
theorem row_res2' {T : TypeId} {fn : Func} {p u : Tmp} (h : fn.results = #[.cell p T, .tmp u]) (w : World) (A : Nat) (c0 c1 : Value) (hT : T = 75 ∨ T = 85) (hb : w.heap[A]? = some (.cells #[c0, c1] T (0, 0))) (o0 : c0.oneCell' = true) (o1 : c1.oneCell' = true) (tmps : Array Value) (hp : tmps.getD p undef = .pointer (some ⟨A, 0, none⟩)) :
    (results fn tmps).run Tryz.prog w = .ok (.tuple #[.agg #[c0, c1], tmps.getD u undef]) w :=
  row_res2 h w A c0 c1 hT (by rw [cell_of_row _ _ _ _ _ _ hb]; rfl) (by rw [cell_of_row _ _ _ _ _ _ hb]; rfl) o0 o1 tmps hp

set_option maxRecDepth 100000 in
set_option maxHeartbeats 1600000 in
theorem lreadHead_dark (w : World) (B p : Nat) (D : Dk) (hX : X w B p D) (a : Nat) (m : Int) (ha : a < D.secs.length) (hd : D.dark = true) :
    Calls Tryz.prog 39 #[.agg #[.pointer (some ⟨p, 0, none⟩), .int .i64 (a : Int), .int .i64 m]] w fun e w' => e = .returned (.tuple #[.agg #[.int .i64 0, .int .i64 0], .int .i64 10]) ∧ Below w.heap.size w w' := by
  have fb : Below w.heap.size w ((w.alloc (.cells #[.pointer (some ⟨p, 0, none⟩), .int .i64 (a : Int), .int .i64 m] 70)).alloc (.cells #[.int .i64 0, .int .i64 0] 75)) := ((Below.refl _ _).alloc (Nat.le_refl _) _).alloc (by simp) _
  have hA : ((w.alloc (.cells #[.pointer (some ⟨p, 0, none⟩), .int .i64 (a : Int), .int .i64 m] 70)).alloc (.cells #[.int .i64 0, .int .i64 0] 75)).heap[w.heap.size]? = some (.cells #[.pointer (some ⟨p, 0, none⟩), .int .i64 (a : Int), .int .i64 m] 70 (0, 0)) := (heap_alloc_old _ _ (by simp)).trans (heap_alloc_last w _)
  have hC := heap_alloc_last (w.alloc (.cells #[.pointer (some ⟨p, 0, none⟩), .int .i64 (a : Int), .int .i64 m] 70)) (.cells #[.int .i64 0, .int .i64 0] 75)
  have hs1 : (w.alloc (.cells #[.pointer (some ⟨p, 0, none⟩), .int .i64 (a : Int), .int .i64 m] 70)).heap.size = w.heap.size + 1 := by simp
  rw [hs1] at hC
  generalize hwb : (w.alloc (.cells #[.pointer (some ⟨p, 0, none⟩), .int .i64 (a : Int), .int .i64 m] 70)).alloc (.cells #[.int .i64 0, .int .i64 0] 75) = wb at *
  have H1 := hide (xFetch_bad wb B p D (hX.below fb) (a : Int) (fun h => by rw [hd] at h; exact absurd h.2 (by decide)))
  have he : D.feE (a : Int) = 10 := by unfold Dk.feE; rw [if_pos (by omega), if_pos hd]
  rw [he] at H1
  have c0 : wb.cell? ⟨w.heap.size, 0, none⟩ = some (.pointer (some ⟨p, 0, none⟩)) := by rw [cell_of_row _ _ _ _ _ _ hA]; rfl
  have c1 : wb.cell? ⟨w.heap.size, 1, none⟩ = some (.int .i64 (a : Int)) := by rw [cell_of_row _ _ _ _ _ _ hA]; rfl
  have d0 : wb.cell? ⟨w.heap.size + 1, 0, none⟩ = some (.int .i64 0) := by rw [cell_of_row _ _ _ _ _ _ hC]; rfl
  have d1 : wb.cell? ⟨w.heap.size + 1, 1, none⟩ = some (.int .i64 0) := by rw [cell_of_row _ _ _ _ _ _ hC]; rfl
  have hf0 : wb.frozen? ⟨w.heap.size + 1, 0, none⟩ = false := frozen_of_row _ _ _ _ _ hC
  have hf1 : wb.frozen? ⟨w.heap.size + 1, 1, none⟩ = false := frozen_of_row _ _ _ _ _ hC
  have FB := hide fb
  have HW := hide hwb
  have HC := hide hC
  clear fb hA hC hwb hX hs1 he
  go_enter Tryz.func39, Tryz.ntmps39
  go_upto_region 1 with fail
  rw [unhide HW]
  go_wp2_with fail
  refine (unhide H1).mono ?_
  rintro e w1 ⟨rfl, rfl⟩
  go_wp2
  refine bodyPost_ret (row_res2' Tryz.results39 _ (w.heap.size + 1) (.int .i64 0) (.int .i64 0) (.inl rfl) ?_ rfl rfl _ rfl) rfl ⟨rfl, ?_⟩
  · exact heap_setCell_same _ _ 1 _ _ _ (heap_setCell_same _ _ 0 _ _ _ (unhide HC))
  · exact rec_below _ _ (unhide FB) (by omega)

set_option maxRecDepth 100000 in
set_option maxHeartbeats 1600000 in
theorem lreadHead_ok (w : World) (B p : Nat) (D : Dk) (hT : Tab w) (h1 : 1 ≤ w.heap.size) (hX : X w B p D) (a : Nat) (m : Int) (l : List UInt8) (hl : D.lasts[a]? = some l) (hlen : l.length = 256) (hd : D.dark = false) :
    Calls Tryz.prog 39 #[.agg #[.pointer (some ⟨p, 0, none⟩), .int .i64 (a : Int), .int .i64 m]] w fun e w' => (match D.headAt a with
      | none => e = .returned (.tuple #[.agg #[.int .i64 0, .int .i64 0], .int .i64 40])
      | some h => e = .returned (.tuple #[.agg #[.int .i64 h.epoch, .int .i64 (num h.data : Int)], .int .i64 0])) ∧ Below w.heap.size w w' := by
  have fb : Below w.heap.size w ((w.alloc (.cells #[.pointer (some ⟨p, 0, none⟩), .int .i64 (a : Int), .int .i64 m] 70)).alloc (.cells #[.int .i64 0, .int .i64 0] 75)) := ((Below.refl _ _).alloc (Nat.le_refl _) _).alloc (by simp) _
  have hA : ((w.alloc (.cells #[.pointer (some ⟨p, 0, none⟩), .int .i64 (a : Int), .int .i64 m] 70)).alloc (.cells #[.int .i64 0, .int .i64 0] 75)).heap[w.heap.size]? = some (.cells #[.pointer (some ⟨p, 0, none⟩), .int .i64 (a : Int), .int .i64 m] 70 (0, 0)) := (heap_alloc_old _ _ (by simp)).trans (heap_alloc_last w _)
  have hC := heap_alloc_last (w.alloc (.cells #[.pointer (some ⟨p, 0, none⟩), .int .i64 (a : Int), .int .i64 m] 70)) (.cells #[.int .i64 0, .int .i64 0] 75)
  have hs1 : (w.alloc (.cells #[.pointer (some ⟨p, 0, none⟩), .int .i64 (a : Int), .int .i64 m] 70)).heap.size = w.heap.size + 1 := by simp
  rw [hs1] at hC
  have hsw : ((w.alloc (.cells #[.pointer (some ⟨p, 0, none⟩), .int .i64 (a : Int), .int .i64 m] 70)).alloc (.cells #[.int .i64 0, .int .i64 0] 75)).heap.size = w.heap.size + 2 := by simp
  generalize hwb : (w.alloc (.cells #[.pointer (some ⟨p, 0, none⟩), .int .i64 (a : Int), .int .i64 m] 70)).alloc (.cells #[.int .i64 0, .int .i64 0] 75) = wb at *
  have H1 := hide (xFetch wb B p D (hX.below fb) a l hl hd)
  have c0 : wb.cell? ⟨w.heap.size, 0, none⟩ = some (.pointer (some ⟨p, 0, none⟩)) := by rw [cell_of_row _ _ _ _ _ _ hA]; rfl
  have c1 : wb.cell? ⟨w.heap.size, 1, none⟩ = some (.int .i64 (a : Int)) := by rw [cell_of_row _ _ _ _ _ _ hA]; rfl
  have HX : Hid (∃ ep fro : Int, ∃ ok : Bool, (∀ W b o, Below w.heap.size w W → BytesAt W (some ⟨b, o, none⟩) l → Calls Tryz.prog 73 #[.slice (some ⟨b, o, none⟩) 256 256] W fun e w' => e = .returned (.tuple #[.agg #[.int .i64 ep, .int .i64 fro], .bool ok]) ∧ Below W.heap.size W w') ∧
      ((ok = false ∧ D.headAt a = none) ∨ (ok = true ∧ ∃ h, D.headAt a = some h ∧ h.epoch = ep ∧ (num h.data : Int) = fro))) := by
    cases hr : readS l with
    | none =>
      have hat := head_none hl hr
      exact ⟨0, 0, false, fun W b o f hb => lheadOf_no W b o 256 l (tab_below hT f h1) (by have := f.size; omega) hlen (by omega) (by omega) hb (fun r h => by rw [hr] at h; cases h), .inl ⟨rfl, hat⟩⟩
    | some r =>
      have hat := head_some hl hr
      by_cases h4 : r.data.length = 4
      · have hat2 : D.headAt a = some r := by rw [hat]; exact if_pos h4
        refine ⟨r.epoch, (num r.data : Int), true, fun W b o f hb => ?_, .inr ⟨rfl, r, hat2, rfl, rfl⟩⟩
        exact lheadOf_yes W b o 256 l r (tab_below hT f h1) (by have := f.size; omega) hlen (by omega) (by omega) hb hr h4
      · have hat2 : D.headAt a = none := by rw [hat]; exact if_neg h4
        exact ⟨0, 0, false, fun W b o f hb => lheadOf_no W b o 256 l (tab_below hT f h1) (by have := f.size; omega) hlen (by omega) (by omega) hb (fun r' h => by rw [hr] at h; cases h; exact h4), .inl ⟨rfl, hat2⟩⟩
  obtain ⟨ep, fro, ok, H2, hend⟩ := unhide HX
  obtain ⟨PO, hPO⟩ : ∃ PO : Ending → World → Prop, PO = fun e w' => (match D.headAt a with
      | none => e = .returned (.tuple #[.agg #[.int .i64 0, .int .i64 0], .int .i64 40])
      | some h => e = .returned (.tuple #[.agg #[.int .i64 h.epoch, .int .i64 (num h.data : Int)], .int .i64 0])) ∧ Below w.heap.size w w' := ⟨_, rfl⟩
  rw [← hPO]
  have hfin : (ok = false ∧ Hid (∀ W, Below w.heap.size w W → PO (.returned (.tuple #[.agg #[.int .i64 0, .int .i64 0], .int .i64 40])) W)) ∨ (ok = true ∧ Hid (∀ W, Below w.heap.size w W → PO (.returned (.tuple #[.agg #[.int .i64 ep, .int .i64 fro], .int .i64 0])) W)) := by
    rcases hend with ⟨h1, h2⟩ | ⟨h1, h, h2, h3, h4⟩
    · refine .inl ⟨h1, fun W f => ?_⟩
      rw [hPO, h2]
      exact ⟨rfl, f⟩
    · refine .inr ⟨h1, fun W f => ?_⟩
      rw [hPO, h2, ← h3, ← h4]
      exact ⟨rfl, f⟩
  have FB := hide fb
  have HW := hide hwb
  have HC := hide hC
  have H2' := hide H2
  clear fb hA hC hwb hX hs1 hPO hend HX H2 hT hl
  rcases hfin with ⟨rfl, HP⟩ | ⟨rfl, HP⟩
  all_goals
    go_enter Tryz.func39, Tryz.ntmps39
    go_upto_region 1 with fail
    rw [unhide HW]
    go_wp2_with fail
    refine (unhide H1).mono ?_
    rintro e w1 ⟨q, rfl, hb, f1⟩
    have f1' := (unhide FB).trans (f1.mono (unhide FB).size)
    have hC1 := (f1.block (w.heap.size + 1) (by omega)).trans (unhide HC)
    have H3 := hide (unhide H2' w1 q 0 f1' hb)
    have hq1 := f1.size
    clear f1 hb H1 H2' c0 c1
    go_wp2_with fail
    refine (unhide H3).mono ?_
    rintro e w2 ⟨rfl, f2⟩
    have hC2 := (f2.block _ (lt_of_heap hC1)).trans hC1
    have f2' := f1'.trans (f2.mono f1'.size)
    have hq2 := f2.size
    clear f1' f2 hC1 H3
    go_upto_region 5 with fail
    have hC3 := (heap_alloc_old w2 (.cells #[.int .i64 ep, .int .i64 fro] 75) (lt_of_heap hC2)).trans hC2
    have hE3 := heap_alloc_last w2 (.cells #[.int .i64 ep, .int .i64 fro] 75)
    have f3 : Below w.heap.size w (w2.alloc (.cells #[.int .i64 ep, .int .i64 fro] 75)) := f2'.alloc f2'.size _
    generalize w2.alloc (.cells #[.int .i64 ep, .int .i64 fro] 75) = w3 at *
    have e0 : w3.cell? ⟨w2.heap.size, 0, none⟩ = some (.int .i64 ep) := by rw [cell_of_row _ _ _ _ _ _ hE3]; rfl
    have e1 : w3.cell? ⟨w2.heap.size, 1, none⟩ = some (.int .i64 fro) := by rw [cell_of_row _ _ _ _ _ _ hE3]; rfl
    have d0 : w3.cell? ⟨w.heap.size + 1, 0, none⟩ = some (.int .i64 0) := by rw [cell_of_row _ _ _ _ _ _ hC3]; rfl
    have d1 : w3.cell? ⟨w.heap.size + 1, 1, none⟩ = some (.int .i64 0) := by rw [cell_of_row _ _ _ _ _ _ hC3]; rfl
    have hf0 : w3.frozen? ⟨w.heap.size + 1, 0, none⟩ = false := frozen_of_row _ _ _ _ _ hC3
    have hf1 : w3.frozen? ⟨w.heap.size + 1, 1, none⟩ = false := frozen_of_row _ _ _ _ _ hC3
    have HC3 := hide hC3
    have F3 := hide f3
    clear hC2 f2' hC3 hE3 f3
    go_wp2
    refine bodyPost_ret (row_res2' Tryz.results39 _ (w.heap.size + 1) _ _ (.inl rfl) (heap_setCell_same _ _ 1 _ _ _ (heap_setCell_same _ _ 0 _ _ _ (unhide HC3))) rfl rfl _ rfl) rfl (unhide HP _ ?_)
    exact rec_below _ _ (unhide F3) (by omega)

def pcOf (n : Nat) (l : List UInt8) : Option Rec := match readS l with
  | none => none
  | some r => if okPc n r then some r else none
def pieceV (n : Nat) (o : Option Rec) : Value := match o with
  | none => .agg #[.int .i64 0, .int .i64 0, .bool false, .string ⟨#[]⟩]
  | some r => .agg #[.int .i64 r.epoch, .int .i64 (n : Int), .bool (decide ((r.data.getD 4 0).toNat = 1)), str (r.data.drop 5)]
theorem lpieceOf_any (w : World) (b o cap n : Nat) (l : List UInt8) (hT : Tab w) (h1 : 1 ≤ w.heap.size) (hl : l.length = 256) (hc : 256 ≤ cap) (hcap : cap ≤ 9223372036854775807) (h : BytesAt w (some ⟨b, o, none⟩) l) :
    Calls Tryz.prog 90 #[.slice (some ⟨b, o, none⟩) 256 cap, .int .i64 (n : Int)] w fun e w' => e = .returned (.tuple #[pieceV n (pcOf n l), .bool (pcOf n l).isSome]) ∧ Below w.heap.size w w' := by
  unfold pcOf
  cases hr : readS l with
  | none => exact lpieceOf_no w b o cap n l hT h1 hl hc hcap h (fun r h => by rw [hr] at h; cases h)
  | some r =>
    by_cases hok : okPc n r
    · simp only [if_pos hok]
      exact lpieceOf_yes w b o cap n l r hT h1 hl hc hcap h hr hok
    · simp only [if_neg hok]
      exact lpieceOf_no w b o cap n l hT h1 hl hc hcap h (fun r' h => by rw [hr] at h; cases h; exact hok)
theorem pieceV_form (n : Nat) (o : Option Rec) : ∃ e k : Int, ∃ f : Bool, ∃ s : ByteArray, pieceV n o = .agg #[.int .i64 e, .int .i64 k, .bool f, .string s] := by
  cases o with
  | none => exact ⟨_, _, _, _, rfl⟩
  | some r => exact ⟨_, _, _, _, rfl⟩
theorem row_res5' {fn : Func} {p u v : Tmp} (h : fn.results = #[.cell p 113, .tmp u, .tmp v]) (w : World) (A : Nat) (c0 c1 c2 c3 : Value) (hb : w.heap[A]? = some (.cells #[c0, c1, c2, c3] 113 (0, 0))) (o0 : c0.oneCell' = true) (o1 : c1.oneCell' = true) (o2 : c2.oneCell' = true) (o3 : c3.oneCell' = true) (tmps : Array Value) (hp : tmps.getD p undef = .pointer (some ⟨A, 0, none⟩)) :
    (results fn tmps).run Tryz.prog w = .ok (.tuple #[.agg #[c0, c1, c2, c3], tmps.getD u undef, tmps.getD v undef]) w :=
  row_res5 h w A c0 c1 c2 c3 (by rw [cell_of_row _ _ _ _ _ _ hb]; rfl) (by rw [cell_of_row _ _ _ _ _ _ hb]; rfl) (by rw [cell_of_row _ _ _ _ _ _ hb]; rfl) (by rw [cell_of_row _ _ _ _ _ _ hb]; rfl) o0 o1 o2 o3 tmps hp

set_option maxRecDepth 100000 in
set_option maxHeartbeats 1600000 in
theorem lreadPiece_any (w : World) (B p : Nat) (D : Dk) (hT : Tab w) (h1 : 1 ≤ w.heap.size) (hX : X w B p D) (a n : Nat) (m : Int) (hs : a ≤ 100000 ∧ n ≤ 100000) (l : List UInt8) (hl : D.lasts[a + 1 + n]? = some l) (hlen : l.length = 256) (hd : D.dark = false) :
    Calls Tryz.prog 75 #[.agg #[.pointer (some ⟨p, 0, none⟩), .int .i64 (a : Int), .int .i64 m], .int .i64 (n : Int)] w fun e w' => e = .returned (.tuple #[pieceV n (pcOf n l), .bool (pcOf n l).isSome, .int .i64 0]) ∧ Below w.heap.size w w' := by
  have fb : Below w.heap.size w ((w.alloc (.cells #[.pointer (some ⟨p, 0, none⟩), .int .i64 (a : Int), .int .i64 m] 70)).alloc (.cells #[.int .i64 0, .int .i64 0, .bool false, .string ⟨#[]⟩] 113)) := ((Below.refl _ _).alloc (Nat.le_refl _) _).alloc (by simp) _
  have hA : ((w.alloc (.cells #[.pointer (some ⟨p, 0, none⟩), .int .i64 (a : Int), .int .i64 m] 70)).alloc (.cells #[.int .i64 0, .int .i64 0, .bool false, .string ⟨#[]⟩] 113)).heap[w.heap.size]? = some (.cells #[.pointer (some ⟨p, 0, none⟩), .int .i64 (a : Int), .int .i64 m] 70 (0, 0)) := (heap_alloc_old _ _ (by simp)).trans (heap_alloc_last w _)
  have hC := heap_alloc_last (w.alloc (.cells #[.pointer (some ⟨p, 0, none⟩), .int .i64 (a : Int), .int .i64 m] 70)) (.cells #[.int .i64 0, .int .i64 0, .bool false, .string ⟨#[]⟩] 113)
  have hs1 : (w.alloc (.cells #[.pointer (some ⟨p, 0, none⟩), .int .i64 (a : Int), .int .i64 m] 70)).heap.size = w.heap.size + 1 := by simp
  rw [hs1] at hC
  have hsw : ((w.alloc (.cells #[.pointer (some ⟨p, 0, none⟩), .int .i64 (a : Int), .int .i64 m] 70)).alloc (.cells #[.int .i64 0, .int .i64 0, .bool false, .string ⟨#[]⟩] 113)).heap.size = w.heap.size + 2 := by simp
  generalize hwb : (w.alloc (.cells #[.pointer (some ⟨p, 0, none⟩), .int .i64 (a : Int), .int .i64 m] 70)).alloc (.cells #[.int .i64 0, .int .i64 0, .bool false, .string ⟨#[]⟩] 113) = wb at *
  have H1 := hide (xFetch wb B p D (hX.below fb) (a + 1 + n) l hl hd)
  obtain ⟨T, hTT⟩ : ∃ T, T = a + 1 + n := ⟨_, rfl⟩
  rw [← hTT] at H1
  have gT : (a : Int) + 1 + (n : Int) = (T : Int) := by omega
  have gT2 : (T : Int) ≤ 300000 := by omega
  have c0 : wb.cell? ⟨w.heap.size, 0, none⟩ = some (.pointer (some ⟨p, 0, none⟩)) := by rw [cell_of_row _ _ _ _ _ _ hA]; rfl
  have c1 : wb.cell? ⟨w.heap.size, 1, none⟩ = some (.int .i64 (a : Int)) := by rw [cell_of_row _ _ _ _ _ _ hA]; rfl
  have H2 : Hid (∀ W q, Below w.heap.size w W → BytesAt W (some ⟨q, 0, none⟩) l → Calls Tryz.prog 90 #[.slice (some ⟨q, 0, none⟩) 256 256, .int .i64 (n : Int)] W fun e w' => e = .returned (.tuple #[pieceV n (pcOf n l), .bool (pcOf n l).isSome]) ∧ Below W.heap.size W w') := fun W q f hb => lpieceOf_any W q 0 256 n l (tab_below hT f h1) (by have := f.size; omega) hlen (by omega) (by omega) hb
  obtain ⟨ep, kk, fi, st, hpf⟩ := pieceV_form n (pcOf n l)
  rw [hpf] at H2 ⊢
  generalize (pcOf n l).isSome = ok at *
  have FB := hide fb
  have HW := hide hwb
  have HC := hide hC
  clear fb hA hC hwb hX hs1 hT hl hTT hpf
  go_enter Tryz.func75, Tryz.ntmps75
  go_upto_region 1 with fail
  rw [unhide HW]
  go_wp2_with fail
  refine (unhide H1).mono ?_
  rintro e w1 ⟨q, rfl, hb, f1⟩
  have f1' := (unhide FB).trans (f1.mono (unhide FB).size)
  have hC1 := (f1.block (w.heap.size + 1) (by omega)).trans (unhide HC)
  have H3 := hide (unhide H2 w1 q f1' hb)
  have hq1 := f1.size
  clear f1 hb H1 H2 c0 c1
  go_wp2_with fail
  refine (unhide H3).mono ?_
  rintro e w2 ⟨rfl, f2⟩
  have hC2 := (f2.block _ (lt_of_heap hC1)).trans hC1
  have f2' := f1'.trans (f2.mono f1'.size)
  have hq2 := f2.size
  clear f1' f2 hC1 H3
  go_upto_region 5 with fail
  have hC3 := (heap_alloc_old w2 (.cells #[.int .i64 ep, .int .i64 kk, .bool fi, .string st] 113) (lt_of_heap hC2)).trans hC2
  have hE3 := heap_alloc_last w2 (.cells #[.int .i64 ep, .int .i64 kk, .bool fi, .string st] 113)
  have f3 : Below w.heap.size w (w2.alloc (.cells #[.int .i64 ep, .int .i64 kk, .bool fi, .string st] 113)) := f2'.alloc f2'.size _
  generalize w2.alloc (.cells #[.int .i64 ep, .int .i64 kk, .bool fi, .string st] 113) = w3 at *
  have e0 : w3.cell? ⟨w2.heap.size, 0, none⟩ = some (.int .i64 ep) := by rw [cell_of_row _ _ _ _ _ _ hE3]; rfl
  have e1 : w3.cell? ⟨w2.heap.size, 1, none⟩ = some (.int .i64 kk) := by rw [cell_of_row _ _ _ _ _ _ hE3]; rfl
  have e2 : w3.cell? ⟨w2.heap.size, 2, none⟩ = some (.bool fi) := by rw [cell_of_row _ _ _ _ _ _ hE3]; rfl
  have e3 : w3.cell? ⟨w2.heap.size, 3, none⟩ = some (.string st) := by rw [cell_of_row _ _ _ _ _ _ hE3]; rfl
  have d0 : w3.cell? ⟨w.heap.size + 1, 0, none⟩ = some (.int .i64 0) := by rw [cell_of_row _ _ _ _ _ _ hC3]; rfl
  have d1 : w3.cell? ⟨w.heap.size + 1, 1, none⟩ = some (.int .i64 0) := by rw [cell_of_row _ _ _ _ _ _ hC3]; rfl
  have d2 : w3.cell? ⟨w.heap.size + 1, 2, none⟩ = some (.bool false) := by rw [cell_of_row _ _ _ _ _ _ hC3]; rfl
  have d3 : w3.cell? ⟨w.heap.size + 1, 3, none⟩ = some (.string ⟨#[]⟩) := by rw [cell_of_row _ _ _ _ _ _ hC3]; rfl
  have hf0 : w3.frozen? ⟨w.heap.size + 1, 0, none⟩ = false := frozen_of_row _ _ _ _ _ hC3
  have hf1 : w3.frozen? ⟨w.heap.size + 1, 1, none⟩ = false := frozen_of_row _ _ _ _ _ hC3
  have hf2 : w3.frozen? ⟨w.heap.size + 1, 2, none⟩ = false := frozen_of_row _ _ _ _ _ hC3
  have hf3 : w3.frozen? ⟨w.heap.size + 1, 3, none⟩ = false := frozen_of_row _ _ _ _ _ hC3
  have HC3 := hide hC3
  have F3 := hide f3
  clear hC2 f2' hC3 hE3 f3
  go_wp2
  refine bodyPost_ret (row_res5' Tryz.results75 _ (w.heap.size + 1) _ _ _ _ (four_set _ _ _ _ (unhide HC3)) rfl rfl rfl rfl _ rfl) rfl ⟨rfl, ?_⟩
  exact four_below _ _ _ _ (unhide F3) (by omega)

end Go.Proofs.YtfggahkimconfaaGreatDoor
