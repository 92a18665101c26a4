/- Contracts of behind and latest: a sector's value, out of memory. -/
import Derived.Test.YtaflibnalhfenaaDkA
import Derived.Deep.WholeRow
namespace Go.Proofs.Ytaflibnalhfenaa
open Go.RowKit
set_option linter.unusedVariables false

def zrow : Array Value := Array.replicate 256 (.int .u8 0)
theorem zrow_size : zrow.size = 256 := by simp [zrow]
theorem infoV : (Try.prog.info? 75).map (fun i => (i.zero, i.size)) = some (some (.agg zrow), 256) := by kernel_rfl
theorem zeroV (w : World) : (zeroValue 75).run Try.prog w = .ok (.agg zrow) w := (zero_of_info infoV).1 w
theorem sizeV {cs : List Value} (h : cs.length = 256) : (Try.prog.info? 75).map (·.size) = some cs.length := by rw [h]; exact (zero_of_info infoV).2
theorem sizeVa {cs : List Value} (h : cs.length = 256) : (Try.prog.info? 75).map (·.size) = some cs.toArray.size := by simpa using sizeV h
theorem storeV (w : World) (cs : List Value) (hl : cs.length = 256) (h1 : ∀ v ∈ cs, v.oneCell' = true) :
    (storeCells ⟨w.heap.size, 0, none⟩ cs).run Try.prog (w.alloc (.cells zrow 75)) = .ok () (w.alloc (.cells cs.toArray 75)) := by
  have := run_storeCells_new (P := Try.prog) w 75 zrow cs.toArray (sizeVa hl) (by simp [hl, zrow_size]) (all_oneCell_toArray h1)
  simpa using this

set_option maxRecDepth 100000 in
set_option maxHeartbeats 400000 in
theorem behind_sure (g o : Nat) (w : World) (cs : List Value) (hl : cs.length = 256) (h1 : ∀ v ∈ cs, v.oneCell' = true) (hr : w.rangeAt g (o + 1) cs) :
    Calls Try.prog 49 #[.pointer (some ⟨g, o, none⟩), .int .i64 0] w fun e w' => e = .returned (.agg cs.toArray) ∧ w' = w.alloc (.cells cs.toArray 75) := by
  have hz := zeroV
  have hst := storeV w cs hl h1
  have hr' := World.rangeAt_alloc hr (.cells zrow 75)
  go_enter Try.func49, Try.ntmps49
  go_wp2_with (refine wpList_load_mid rfl 75 _ rfl g (o + 1) rfl cs _ hr' Try.underlying75 rfl (sizeV hl) ?_)
  refine bodyPost_ret (v := .agg cs.toArray) ?_ rfl ⟨rfl, rfl⟩
  exact results_cell_row Try.results49 _ _ w.heap.size 75 cs.toArray (0, 0) _ rfl (heap_alloc_last w _) Try.underlying75 rfl (sizeVa hl)

set_option maxRecDepth 100000 in
set_option maxHeartbeats 400000 in
theorem behind_wait (g o : Nat) (w : World) (q n c k : Nat) (hk : 1 ≤ k) (hkn : k ≤ n) (hn : n ≤ 9223372036854775807) (hc : w.cell? ⟨g, o, none⟩ = some (.slice (some ⟨q, 0, none⟩) n c))
    (cs : List Value) (hl : cs.length = 256) (h1 : ∀ v ∈ cs, v.oneCell' = true) (hr : w.rangeAt q ((k - 1) * 256) cs) :
    Calls Try.prog 49 #[.pointer (some ⟨g, o, none⟩), .int .i64 k] w fun e w' => e = .returned (.agg cs.toArray) ∧ w' = w.alloc (.cells cs.toArray 75) := by
  have hz := zeroV
  have hst := storeV w cs hl h1
  have hr' := World.rangeAt_alloc hr (.cells zrow 75)
  have hc' := cell_alloc hc (.cells zrow 75)
  have hk0 : ((k : Int) == 0) = false := by rw [beq_eq_false_iff_ne]; omega
  go_enter Try.func49, Try.ntmps49
  go_wp2_with (refine wpList_load_mid rfl 75 _ rfl q ((k - 1) * 256) rfl cs _ hr' Try.underlying75 rfl (sizeV hl) ?_)
  refine bodyPost_ret (v := .agg cs.toArray) ?_ rfl ⟨rfl, rfl⟩
  exact results_cell_row Try.results49 _ _ w.heap.size 75 cs.toArray (0, 0) _ rfl (heap_alloc_last w _) Try.underlying75 rfl (sizeVa hl)

end Go.Proofs.Ytaflibnalhfenaa
