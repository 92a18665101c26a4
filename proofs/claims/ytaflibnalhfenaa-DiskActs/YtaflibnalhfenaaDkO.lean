/- A disk that no call made: the contracts, and the walk of the law. -/
import Derived.Test.YtaflibnalhfenaaDkN
namespace Go.Proofs.Ytaflibnalhfenaa
open Go.RowKit
set_option linter.unusedVariables false

def Void (w : World) (v : Value) : Prop := v = .pointer none ∨ ∃ p, v = .pointer (some ⟨p, 0, none⟩) ∧ w.cell? ⟨p, 0, none⟩ = some (.slice none 0 0)
theorem made_void (w : World) (v : Value) (h : Void w v) : Calls Try.prog 39 #[v] w fun e w' => e = .returned (.bool false) ∧ w' = w := by
  rcases h with rfl | ⟨p, rfl, hc⟩
  · exact made_nil w
  · exact made_at p w none 0 0 hc
theorem Void.alloc {w : World} {v : Value} (h : Void w v) (o : Obj) : Void (w.alloc o) v := by
  rcases h with rfl | ⟨p, rfl, hc⟩
  · exact .inl rfl
  · exact .inr ⟨p, rfl, cell_alloc hc o⟩

theorem Fetch_void (w : World) (v : Value) (h : Void w v) (at_ : Int) : Calls Try.prog 21 #[v, .int .i64 at_] w fun e w' => e = .returned (.tuple #[.slice none 0 0, .int .i64 1]) ∧ w' = w := by
  have H := hide (made_void w v h)
  clear h
  go_enter Try.func21, Try.ntmps21
  go_wp2_with fail
  refine (unhide H).mono ?_
  rintro e w' ⟨rfl, rfl⟩
  go_wp2
  go_ret2
  exact ⟨rfl, rfl⟩
theorem Store_void (w : World) (v : Value) (h : Void w v) (at_ : Int) (a : Option Addr) (n c : Nat) : Calls Try.prog 16 #[v, .int .i64 at_, .slice a n c] w fun e w' => e = .returned (.int .i64 1) ∧ w' = w := by
  have H := hide (made_void w v h)
  clear h
  go_enter Try.func16, Try.ntmps16
  go_wp2_with fail
  refine (unhide H).mono ?_
  rintro e w' ⟨rfl, rfl⟩
  go_wp2
  go_ret
  exact ⟨rfl, rfl⟩
theorem Barrier_void (w : World) (v : Value) (h : Void w v) : Calls Try.prog 19 #[v] w fun e w' => e = .returned (.int .i64 1) ∧ w' = w := by
  have H := hide (made_void w v h)
  clear h
  go_enter Try.func19, Try.ntmps19
  go_wp2_with fail
  refine (unhide H).mono ?_
  rintro e w' ⟨rfl, rfl⟩
  go_wp2
  go_ret
  exact ⟨rfl, rfl⟩
theorem Trip_void (w : World) (v : Value) (h : Void w v) (n : Int) : Calls Try.prog 24 #[v, .int .i64 n] w fun e w' => e = .returned (.int .i64 1) ∧ w' = w := by
  have H := hide (made_void w v h)
  clear h
  go_enter Try.func24, Try.ntmps24
  go_wp2_with fail
  refine (unhide H).mono ?_
  rintro e w' ⟨rfl, rfl⟩
  go_wp2
  go_ret
  exact ⟨rfl, rfl⟩
theorem Crash_void (w : World) (v : Value) (h : Void w v) (k : Value) : Calls Try.prog 26 #[v, k] w fun e w' => e = .returned (.int .i64 1) ∧ w' = w := by
  have H := hide (made_void w v h)
  clear h
  go_enter Try.func26, Try.ntmps26
  go_wp2_with fail
  refine (unhide H).mono ?_
  rintro e w' ⟨rfl, rfl⟩
  go_wp2
  go_ret
  exact ⟨rfl, rfl⟩
theorem Count_void (w : World) (v : Value) (h : Void w v) : Calls Try.prog 11 #[v] w fun e w' => e = .returned (.int .i64 0) ∧ w' = w := by
  have H := hide (made_void w v h)
  clear h
  go_enter Try.func11, Try.ntmps11
  go_wp2_with fail
  refine (unhide H).mono ?_
  rintro e w' ⟨rfl, rfl⟩
  go_wp2
  go_ret
  exact ⟨rfl, rfl⟩
theorem Moves_void (w : World) (v : Value) (h : Void w v) : Calls Try.prog 29 #[v] w fun e w' => e = .returned (.int .i64 0) ∧ w' = w := by
  have H := hide (made_void w v h)
  clear h
  go_enter Try.func29, Try.ntmps29
  go_wp2_with fail
  refine (unhide H).mono ?_
  rintro e w' ⟨rfl, rfl⟩
  go_wp2
  go_ret
  exact ⟨rfl, rfl⟩
theorem Cached_void (w : World) (v : Value) (h : Void w v) : Calls Try.prog 31 #[v] w fun e w' => e = .returned (.slice none 0 0) ∧ w' = w := by
  have H := hide (made_void w v h)
  clear h
  go_enter Try.func31, Try.ntmps31
  go_wp2_with fail
  refine (unhide H).mono ?_
  rintro e w' ⟨rfl, rfl⟩
  go_wp2
  go_ret
  exact ⟨rfl, rfl⟩
theorem Dump_void (w : World) (v : Value) (h : Void w v) : Calls Try.prog 33 #[v] w fun e w' => e = .returned (.slice none 0 0) ∧ w' = w := by
  have H := hide (made_void w v h)
  clear h
  go_enter Try.func33, Try.ntmps33
  go_wp2_with fail
  refine (unhide H).mono ?_
  rintro e w' ⟨rfl, rfl⟩
  go_wp2
  go_ret
  exact ⟨rfl, rfl⟩

set_option maxHeartbeats 1600000 in
set_option maxRecDepth 100000 in
theorem void_walk (w : World) (at_ : Int) (c : UInt8) :
    Calls Try.prog 8 #[.int .i64 at_, .int .u8 (c.toNat : Int)] w fun e w' => e = .returned (.bool true) ∧ Below w.heap.size w w' := by
  go_enter Try.func8, Try.ntmps8
  go_wp2_with fail
  refine (works_any _).mono ?_
  rintro e w1 ⟨rfl, b1⟩
  have HB := hide b1
  clear b1
  have V1 := hide (show Void (w1.alloc (.cells #[.slice none 0 0, .int .i64 0, .int .i64 0, .bool false] 65)) (.pointer (some ⟨w1.heap.size, 0, none⟩)) from .inr ⟨_, rfl, World.cell?_alloc_at _ _ _ _ rfl⟩)
  have V2 := hide ((unhide V1).alloc (.cells (bv (allOf c)).toArray 5))
  have V3 := hide ((unhide V2).alloc (.cells (bv (allOf c)).toArray 5))
  go_wp2_with fail
  refine (Fetch_void _ _ (.inl rfl) at_).mono ?_
  rintro e w' ⟨rfl, rfl⟩
  go_wp2_with fail
  refine (Fetch_void _ _ (unhide V1) at_).mono ?_
  rintro e w' ⟨rfl, rfl⟩
  go_wp2_with fail
  refine (of_any c _).mono ?_
  rintro e w' ⟨rfl, rfl⟩
  go_wp2_with fail
  refine (Store_void _ _ (.inl rfl) at_ _ _ _).mono ?_
  rintro e w' ⟨rfl, rfl⟩
  go_wp2_with fail
  refine (of_any c _).mono ?_
  rintro e w' ⟨rfl, rfl⟩
  go_wp2_with fail
  refine (Store_void _ _ (unhide V3) at_ _ _ _).mono ?_
  rintro e w' ⟨rfl, rfl⟩
  go_wp2_with fail
  refine (Barrier_void _ _ (.inl rfl)).mono ?_
  rintro e w' ⟨rfl, rfl⟩
  go_wp2_with fail
  refine (Barrier_void _ _ (unhide V3)).mono ?_
  rintro e w' ⟨rfl, rfl⟩
  go_wp2_with fail
  refine (Trip_void _ _ (.inl rfl) at_).mono ?_
  rintro e w' ⟨rfl, rfl⟩
  go_wp2_with fail
  refine (Trip_void _ _ (unhide V3) at_).mono ?_
  rintro e w' ⟨rfl, rfl⟩
  go_wp2_with fail
  refine (Crash_void _ _ (.inl rfl) _).mono ?_
  rintro e w' ⟨rfl, rfl⟩
  go_wp2_with fail
  refine (Crash_void _ _ (unhide V3) _).mono ?_
  rintro e w' ⟨rfl, rfl⟩
  go_wp2_with fail
  refine (Count_void _ _ (.inl rfl)).mono ?_
  rintro e w' ⟨rfl, rfl⟩
  go_wp2_with fail
  refine (Count_void _ _ (unhide V3)).mono ?_
  rintro e w' ⟨rfl, rfl⟩
  go_wp2_with fail
  refine (Moves_void _ _ (.inl rfl)).mono ?_
  rintro e w' ⟨rfl, rfl⟩
  go_wp2_with fail
  refine (Moves_void _ _ (unhide V3)).mono ?_
  rintro e w' ⟨rfl, rfl⟩
  go_wp2_with fail
  refine (Cached_void _ _ (.inl rfl)).mono ?_
  rintro e w' ⟨rfl, rfl⟩
  go_wp2_with fail
  refine (Cached_void _ _ (unhide V3)).mono ?_
  rintro e w' ⟨rfl, rfl⟩
  go_wp2_with fail
  refine (Dump_void _ _ (.inl rfl)).mono ?_
  rintro e w' ⟨rfl, rfl⟩
  go_wp2_with fail
  refine (Dump_void _ _ (unhide V3)).mono ?_
  rintro e w' ⟨rfl, rfl⟩
  go_wp2
  go_ret
  refine ⟨rfl, ?_⟩
  have b := unhide HB
  exact ((b.alloc b.size _).alloc (by have := b.size; simp; omega) _).alloc (by have := b.size; simp; omega) _

end Go.Proofs.Ytaflibnalhfenaa
