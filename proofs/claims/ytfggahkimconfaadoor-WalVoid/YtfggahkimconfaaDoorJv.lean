/- Joined: DkO WlVoid. -/
import Derived.Test.YtfggahkimconfaaDoorJh

/- A disk that no call made: the contracts, and the walk of the law. -/
namespace Go.Proofs.YtfggahkimconfaaDoor
open Go.RowKit
set_option linter.unusedVariables false

def Void (w : World) (v : Value) : Prop := v = .pointer none ∨ ∃ p, v = .pointer (some ⟨p, 0, none⟩) ∧ w.cell? ⟨p, 0, none⟩ = some (.slice none 0 0)
theorem made_void (w : World) (v : Value) (h : Void w v) : Calls Tryd.prog 23 #[v] w fun e w' => e = .returned (.bool false) ∧ w' = w := by
  rcases h with rfl | ⟨p, rfl, hc⟩
  · exact made_nil w
  · exact made_at p w none 0 0 hc
theorem Void.alloc {w : World} {v : Value} (h : Void w v) (o : Obj) : Void (w.alloc o) v := by
  rcases h with rfl | ⟨p, rfl, hc⟩
  · exact .inl rfl
  · exact .inr ⟨p, rfl, cell_alloc hc o⟩

theorem Fetch_void (w : World) (v : Value) (h : Void w v) (at_ : Int) : Calls Tryd.prog 49 #[v, .int .i64 at_] w fun e w' => e = .returned (.tuple #[.slice none 0 0, .int .i64 1]) ∧ w' = w := by
  have H := hide (made_void w v h)
  clear h
  go_enter Tryd.func49, Tryd.ntmps49
  go_wp2_with fail
  refine (unhide H).mono ?_
  rintro e w' ⟨rfl, rfl⟩
  go_wp2
  go_ret2
  exact ⟨rfl, rfl⟩
theorem Store_void (w : World) (v : Value) (h : Void w v) (at_ : Int) (a : Option Addr) (n c : Nat) : Calls Tryd.prog 45 #[v, .int .i64 at_, .slice a n c] w fun e w' => e = .returned (.int .i64 1) ∧ w' = w := by
  have H := hide (made_void w v h)
  clear h
  go_enter Tryd.func45, Tryd.ntmps45
  go_wp2_with fail
  refine (unhide H).mono ?_
  rintro e w' ⟨rfl, rfl⟩
  go_wp2
  go_ret
  exact ⟨rfl, rfl⟩
theorem Barrier_void (w : World) (v : Value) (h : Void w v) : Calls Tryd.prog 33 #[v] w fun e w' => e = .returned (.int .i64 1) ∧ w' = w := by
  have H := hide (made_void w v h)
  clear h
  go_enter Tryd.func33, Tryd.ntmps33
  go_wp2_with fail
  refine (unhide H).mono ?_
  rintro e w' ⟨rfl, rfl⟩
  go_wp2
  go_ret
  exact ⟨rfl, rfl⟩
theorem Trip_void (w : World) (v : Value) (h : Void w v) (n : Int) : Calls Tryd.prog 8 #[v, .int .i64 n] w fun e w' => e = .returned (.int .i64 1) ∧ w' = w := by
  have H := hide (made_void w v h)
  clear h
  go_enter Tryd.func8, Tryd.ntmps8
  go_wp2_with fail
  refine (unhide H).mono ?_
  rintro e w' ⟨rfl, rfl⟩
  go_wp2
  go_ret
  exact ⟨rfl, rfl⟩
theorem Crash_void (w : World) (v : Value) (h : Void w v) (k : Value) : Calls Tryd.prog 26 #[v, k] w fun e w' => e = .returned (.int .i64 1) ∧ w' = w := by
  have H := hide (made_void w v h)
  clear h
  go_enter Tryd.func26, Tryd.ntmps26
  go_wp2_with fail
  refine (unhide H).mono ?_
  rintro e w' ⟨rfl, rfl⟩
  go_wp2
  go_ret
  exact ⟨rfl, rfl⟩
theorem Count_void (w : World) (v : Value) (h : Void w v) : Calls Tryd.prog 48 #[v] w fun e w' => e = .returned (.int .i64 0) ∧ w' = w := by
  have H := hide (made_void w v h)
  clear h
  go_enter Tryd.func48, Tryd.ntmps48
  go_wp2_with fail
  refine (unhide H).mono ?_
  rintro e w' ⟨rfl, rfl⟩
  go_wp2
  go_ret
  exact ⟨rfl, rfl⟩
theorem Cached_void (w : World) (v : Value) (h : Void w v) : Calls Tryd.prog 39 #[v] w fun e w' => e = .returned (.slice none 0 0) ∧ w' = w := by
  have H := hide (made_void w v h)
  clear h
  go_enter Tryd.func39, Tryd.ntmps39
  go_wp2_with fail
  refine (unhide H).mono ?_
  rintro e w' ⟨rfl, rfl⟩
  go_wp2
  go_ret
  exact ⟨rfl, rfl⟩
end Go.Proofs.YtfggahkimconfaaDoor

/- A log that no call made, and one on no disk: the contracts, and the walk of the law. -/
namespace Go.Proofs.YtfggahkimconfaaDoor
open Go.RowKit
set_option linter.unusedVariables false

def VoidL (w : World) (v : Value) : Prop := v = .pointer none ∨ ∃ x, v = .pointer (some ⟨x, 0, none⟩) ∧ w.cell? ⟨x, 0, none⟩ = some (.pointer none)
theorem VoidL.below {w w' : World} {v : Value} (h : VoidL w v) (f : Below w.heap.size w w') : VoidL w' v := by
  rcases h with rfl | ⟨p, rfl, hc⟩
  · exact .inl rfl
  · exact .inr ⟨p, rfl, (f.cell (World.block_lt_of_cell? _ _ hc)).trans hc⟩
set_option maxHeartbeats 800000 in
theorem lmade_void (w : World) (v : Value) (h : VoidL w v) : Calls Tryd.prog 27 #[v] w fun e w' => e = .returned (.bool false) ∧ w' = w := by
  rcases h with rfl | ⟨p, rfl, hc⟩
  all_goals
    go_enter Tryd.func27, Tryd.ntmps27
    go_wp2
    go_ret
    exact ⟨rfl, rfl⟩
set_option maxHeartbeats 800000 in
theorem lrefusal_void (w : World) (v : Value) (h : VoidL w v) : Calls Tryd.prog 24 #[v] w fun e w' => e = .returned (.int .i64 1) ∧ w' = w := by
  have H1 := hide (lmade_void w v h)
  go_enter Tryd.func24, Tryd.ntmps24
  go_wp2_with fail
  refine (unhide H1).mono ?_
  rintro e w1 ⟨rfl, rfl⟩
  go_wp2
  go_ret
  exact ⟨rfl, rfl⟩
set_option maxHeartbeats 800000 in
theorem Append_voidL (w : World) (v : Value) (h : VoidL w v) (d : ByteArray) : Calls Tryd.prog 14 #[v, .string d] w fun e w' => e = .returned (.int .i64 1) ∧ w' = w := by
  have H1 := hide (lrefusal_void w v h)
  go_enter Tryd.func14, Tryd.ntmps14
  go_wp2_with fail
  refine (unhide H1).mono ?_
  rintro e w1 ⟨rfl, rfl⟩
  go_wp2
  go_ret
  exact ⟨rfl, rfl⟩
set_option maxHeartbeats 800000 in
theorem Flush_voidL (w : World) (v : Value) (h : VoidL w v) : Calls Tryd.prog 15 #[v] w fun e w' => e = .returned (.int .i64 1) ∧ w' = w := by
  have H1 := hide (lrefusal_void w v h)
  go_enter Tryd.func15, Tryd.ntmps15
  go_wp2_with fail
  refine (unhide H1).mono ?_
  rintro e w1 ⟨rfl, rfl⟩
  go_wp2
  go_ret
  exact ⟨rfl, rfl⟩
set_option maxHeartbeats 800000 in
theorem Reset_voidL (w : World) (v : Value) (h : VoidL w v) : Calls Tryd.prog 10 #[v] w fun e w' => e = .returned (.int .i64 1) ∧ w' = w := by
  have H1 := hide (lrefusal_void w v h)
  go_enter Tryd.func10, Tryd.ntmps10
  go_wp2_with fail
  refine (unhide H1).mono ?_
  rintro e w1 ⟨rfl, rfl⟩
  go_wp2
  go_ret
  exact ⟨rfl, rfl⟩
set_option maxHeartbeats 800000 in
theorem Records_voidL (w : World) (v : Value) (h : VoidL w v) : Calls Tryd.prog 12 #[v] w fun e w' => e = .returned (.slice none 0 0) ∧ w' = w := by
  have H1 := hide (lmade_void w v h)
  go_enter Tryd.func12, Tryd.ntmps12
  go_wp2_with fail
  refine (unhide H1).mono ?_
  rintro e w1 ⟨rfl, rfl⟩
  go_wp2
  go_ret
  exact ⟨rfl, rfl⟩
set_option maxHeartbeats 800000 in
theorem Sure_voidL (w : World) (v : Value) (h : VoidL w v) : Calls Tryd.prog 18 #[v] w fun e w' => e = .returned (.int .i64 0) ∧ w' = w := by
  have H1 := hide (lmade_void w v h)
  go_enter Tryd.func18, Tryd.ntmps18
  go_wp2_with fail
  refine (unhide H1).mono ?_
  rintro e w1 ⟨rfl, rfl⟩
  go_wp2
  go_ret
  exact ⟨rfl, rfl⟩
set_option maxHeartbeats 800000 in
theorem Free_voidL (w : World) (v : Value) (h : VoidL w v) : Calls Tryd.prog 16 #[v] w fun e w' => e = .returned (.int .i64 0) ∧ w' = w := by
  have H1 := hide (lmade_void w v h)
  go_enter Tryd.func16, Tryd.ntmps16
  go_wp2_with fail
  refine (unhide H1).mono ?_
  rintro e w1 ⟨rfl, rfl⟩
  go_wp2
  go_ret
  exact ⟨rfl, rfl⟩
set_option maxHeartbeats 800000 in
theorem Epoch_voidL (w : World) (v : Value) (h : VoidL w v) : Calls Tryd.prog 21 #[v] w fun e w' => e = .returned (.int .i64 0) ∧ w' = w := by
  have H1 := hide (lmade_void w v h)
  go_enter Tryd.func21, Tryd.ntmps21
  go_wp2_with fail
  refine (unhide H1).mono ?_
  rintro e w1 ⟨rfl, rfl⟩
  go_wp2
  go_ret
  exact ⟨rfl, rfl⟩

set_option maxHeartbeats 800000 in
theorem lplaceOn_nil (w : World) (a m : Int) : Calls Tryd.prog 35 #[.pointer none, .int .i64 a, .int .i64 m] w fun e w' => e = .returned (.tuple #[.agg #[.pointer none, .int .i64 0, .int .i64 0], .int .i64 1]) ∧ Below w.heap.size w w' := by
  have hA := heap_alloc_last w (.cells #[.pointer none, .int .i64 0, .int .i64 0] 43)
  have fb : Below w.heap.size w (w.alloc (.cells #[.pointer none, .int .i64 0, .int .i64 0] 43)) := (Below.refl _ _).alloc (Nat.le_refl _) _
  generalize hwb : w.alloc (.cells #[.pointer none, .int .i64 0, .int .i64 0] 43) = wb at *
  have H1 := hide (Count_void wb (.pointer none) (.inl rfl))
  have FB := hide fb
  have HW := hide hwb
  have HA := hide hA
  clear fb hA hwb
  go_enter Tryd.func35, Tryd.ntmps35
  go_upto_region 1 with fail
  rw [unhide HW]
  go_wp2_with fail
  refine (unhide H1).mono ?_
  rintro e w1 ⟨rfl, rfl⟩
  have d0 : w1.cell? ⟨w.heap.size, 0, none⟩ = some (.pointer none) := by rw [cell_of_row _ _ _ _ _ _ (unhide HA)]; rfl
  have d1 : w1.cell? ⟨w.heap.size, 1, none⟩ = some (.int .i64 0) := by rw [cell_of_row _ _ _ _ _ _ (unhide HA)]; rfl
  have d2 : w1.cell? ⟨w.heap.size, 2, none⟩ = some (.int .i64 0) := by rw [cell_of_row _ _ _ _ _ _ (unhide HA)]; rfl
  have hf0 : w1.frozen? ⟨w.heap.size, 0, none⟩ = false := frozen_of_row _ _ _ _ _ (unhide HA)
  have hf1 : w1.frozen? ⟨w.heap.size, 1, none⟩ = false := frozen_of_row _ _ _ _ _ (unhide HA)
  have hf2 : w1.frozen? ⟨w.heap.size, 2, none⟩ = false := frozen_of_row _ _ _ _ _ (unhide HA)
  go_wp2
  refine bodyPost_ret (row_res3' Tryd.results35 _ w.heap.size _ _ _ ?_ rfl rfl rfl _ rfl) rfl ⟨rfl, ?_⟩
  · exact three_set _ _ _ (unhide HA)
  · exact (((unhide FB).setCell (p := ⟨w.heap.size, 0, none⟩) (Nat.le_refl _) _).setCell (p := ⟨w.heap.size, 1, none⟩) (Nat.le_refl _) _).setCell (p := ⟨w.heap.size, 2, none⟩) (Nat.le_refl _) _
set_option maxHeartbeats 800000 in
theorem Format_nil (w : World) (a m : Int) : Calls Tryd.prog 20 #[.pointer none, .int .i64 a, .int .i64 m] w fun e w' => e = .returned (.int .i64 1) ∧ Below w.heap.size w w' := by
  have H1 := hide (lplaceOn_nil w a m)
  go_enter Tryd.func20, Tryd.ntmps20
  go_wp2_with fail
  refine (unhide H1).mono ?_
  rintro e w1 ⟨rfl, f1⟩
  have F1 := hide (bA f1 (.cells #[.pointer none, .int .i64 0, .int .i64 0] 43))
  clear H1 f1
  go_wp2
  go_ret
  exact ⟨rfl, unhide F1⟩
set_option maxRecDepth 100000 in
set_option maxHeartbeats 800000 in
theorem Open_nil (w : World) (a m : Int) : Calls Tryd.prog 19 #[.pointer none, .int .i64 a, .int .i64 m] w fun e w' => e = .returned (.tuple #[.pointer none, .int .i64 1]) ∧ Below w.heap.size w w' := by
  have H1 := hide (lplaceOn_nil w a m)
  go_enter Tryd.func19, Tryd.ntmps19
  go_wp2_with fail
  refine (unhide H1).mono ?_
  rintro e w1 ⟨rfl, f1⟩
  have F1 := hide (bA f1 (.cells #[.pointer none, .int .i64 0, .int .i64 0] 43))
  clear H1 f1
  go_wp2
  go_ret2
  exact ⟨rfl, unhide F1⟩

set_option maxRecDepth 100000 in
set_option maxHeartbeats 3200000 in
theorem voidW_walk {LG : (Nat → Prop) → World → Nat → Nat → Nat → Lg → Prop} (S : Wals Tab LG) (w : World) (hT : Tab w) (hw : 1 ≤ w.heap.size) (t : List UInt8) :
    Calls Tryd.prog 5 #[str t] w fun e w' => e = .returned (.bool true) ∧ Below w.heap.size w w' := by
  have H1 := hide (works4_any S w hT hw)
  unfold str
  generalize (⟨t.toArray⟩ : ByteArray) = st
  go_enter Tryd.func5, Tryd.ntmps5
  go_wp2_with fail
  refine (unhide H1).mono ?_
  rintro e w1 ⟨rfl, f1⟩
  have f2 : Below w.heap.size w (w1.alloc (.cells #[.pointer none, .int .i64 0, .int .i64 0, .int .i64 0, .int .i64 0, .slice none 0 0, .int .i64 0, .int .i64 0, .bool false] 47)) := bA f1 _
  have V2 : VoidL (w1.alloc (.cells #[.pointer none, .int .i64 0, .int .i64 0, .int .i64 0, .int .i64 0, .slice none 0 0, .int .i64 0, .int .i64 0, .bool false] 47)) (.pointer (some ⟨w1.heap.size, 0, none⟩)) := .inr ⟨_, rfl, World.cell?_alloc_at _ _ _ _ rfl⟩
  have H2 := hide (Open_nil (w1.alloc (.cells #[.pointer none, .int .i64 0, .int .i64 0, .int .i64 0, .int .i64 0, .slice none 0 0, .int .i64 0, .int .i64 0, .bool false] 47)) 0 2)
  have F2 := hide f2
  have HV2 := hide V2
  clear H1 f1 f2 V2 hT
  go_wp2_with fail
  refine (unhide H2).mono ?_
  rintro e w3 ⟨rfl, f3⟩
  have F3 := hide (bT f3 (unhide F2))
  have HV3 := hide ((unhide HV2).below f3)
  have H3 := hide (Format_nil w3 0 2)
  clear H2 F2 HV2 f3
  generalize w1.heap.size = x at *
  go_wp2_with fail
  refine (unhide H3).mono ?_
  rintro e w4 ⟨rfl, f4⟩
  have F4 := hide (bT f4 (unhide F3))
  have V4 := hide ((unhide HV3).below f4)
  clear H3 F3 HV3 f4
  go_wp2_with fail
  refine (Append_voidL _ _ (.inl rfl) st).mono ?_
  rintro e w' ⟨rfl, rfl⟩
  go_wp2_with fail
  refine (Append_voidL _ _ (unhide V4) st).mono ?_
  rintro e w' ⟨rfl, rfl⟩
  go_wp2_with fail
  refine (Flush_voidL _ _ (.inl rfl)).mono ?_
  rintro e w' ⟨rfl, rfl⟩
  go_wp2_with fail
  refine (Flush_voidL _ _ (unhide V4)).mono ?_
  rintro e w' ⟨rfl, rfl⟩
  go_wp2_with fail
  refine (Reset_voidL _ _ (.inl rfl)).mono ?_
  rintro e w' ⟨rfl, rfl⟩
  go_wp2_with fail
  refine (Reset_voidL _ _ (unhide V4)).mono ?_
  rintro e w' ⟨rfl, rfl⟩
  go_wp2_with fail
  refine (Records_voidL _ _ (.inl rfl)).mono ?_
  rintro e w' ⟨rfl, rfl⟩
  go_wp2_with fail
  refine (Records_voidL _ _ (unhide V4)).mono ?_
  rintro e w' ⟨rfl, rfl⟩
  go_wp2_with fail
  refine (Sure_voidL _ _ (.inl rfl)).mono ?_
  rintro e w' ⟨rfl, rfl⟩
  go_wp2_with fail
  refine (Sure_voidL _ _ (unhide V4)).mono ?_
  rintro e w' ⟨rfl, rfl⟩
  go_wp2_with fail
  refine (Free_voidL _ _ (.inl rfl)).mono ?_
  rintro e w' ⟨rfl, rfl⟩
  go_wp2_with fail
  refine (Free_voidL _ _ (unhide V4)).mono ?_
  rintro e w' ⟨rfl, rfl⟩
  go_wp2_with fail
  refine (Epoch_voidL _ _ (.inl rfl)).mono ?_
  rintro e w' ⟨rfl, rfl⟩
  go_wp2_with fail
  refine (Epoch_voidL _ _ (unhide V4)).mono ?_
  rintro e w' ⟨rfl, rfl⟩
  go_wp2
  go_ret
  exact ⟨rfl, unhide F4⟩

end Go.Proofs.YtfggahkimconfaaDoor
