/- Joined: DkA DkB DkC DkD DkE DkF DkG DkH DkI DkJ DkK DkL DkM DkN. -/
import Derived.Test.YtfggahkimconfaaGreatDoorJa
import Derived.WalkKit
import Derived.WalkSpells
import Derived.WalkLawsBesides
import Derived.BigQuiet
import Derived.Deep.MidRow
import Derived.Deep.WholeRow
import Derived.Laws.CopyOwn
import Derived.Deep.AppendLies
import Derived.Great.BuildSlice
import Derived.Deep.RegionHeldLaw

/- Contracts of the small methods of a disk: made, has, move, size, within. -/
namespace Go.Proofs.YtfggahkimconfaaGreatDoor
open Go.RowKit
set_option linter.unusedVariables false

set_option maxRecDepth 100000 in
set_option maxHeartbeats 400000 in
theorem made_nil (w : World) :
    Calls Tryz.prog 46 #[.pointer none] w fun e w' => e = .returned (.bool false) ∧ w' = w := by
  go_enter Tryz.func46, Tryz.ntmps46
  go_wp2
  go_ret
  exact ⟨rfl, rfl⟩

set_option maxRecDepth 100000 in
set_option maxHeartbeats 400000 in
theorem made_at (p : Nat) (w : World) (a : Option Addr) (n c : Nat) (h : w.cell? ⟨p, 0, none⟩ = some (.slice a n c)) :
    Calls Tryz.prog 46 #[.pointer (some ⟨p, 0, none⟩)] w fun e w' => e = .returned (.bool (decide (0 < n))) ∧ w' = w := by
  go_enter Tryz.func46, Tryz.ntmps46
  go_wp2
  go_ret
  exact ⟨by simp, rfl⟩

set_option maxRecDepth 100000 in
set_option maxHeartbeats 400000 in
theorem size_at (g o : Nat) (w : World) (a : Option Addr) (n c : Nat) (h : w.cell? ⟨g, o, none⟩ = some (.slice a n c)) :
    Calls Tryz.prog 61 #[.pointer (some ⟨g, o, none⟩)] w fun e w' => e = .returned (.int .i64 n) ∧ w' = w := by
  go_enter Tryz.func61, Tryz.ntmps61
  go_wp2
  go_ret
  exact ⟨rfl, rfl⟩

set_option maxRecDepth 100000 in
set_option maxHeartbeats 400000 in
theorem has_at (p : Nat) (w : World) (a : Option Addr) (n c : Nat) (at_ : Int) (h : w.cell? ⟨p, 0, none⟩ = some (.slice a n c)) :
    Calls Tryz.prog 62 #[.pointer (some ⟨p, 0, none⟩), .int .i64 at_] w fun e w' => e = .returned (.bool (decide (0 ≤ at_ ∧ at_ < n))) ∧ w' = w := by
  by_cases h0 : 0 ≤ at_
  · go_enter Tryz.func62, Tryz.ntmps62
    go_wp2
    go_ret
    exact ⟨by simp [h0], rfl⟩
  · have hd : decide (0 ≤ at_) = false := by simpa using h0
    go_enter Tryz.func62, Tryz.ntmps62
    go_wp2
    go_ret
    exact ⟨by simp, rfl⟩

set_option maxRecDepth 100000 in
set_option maxHeartbeats 400000 in
theorem move_dark (p : Nat) (w : World) (t : Int) (ht : (t == 0) = false) (h2 : w.cell? ⟨p, 2, none⟩ = some (.int .i64 t)) (h3 : w.cell? ⟨p, 3, none⟩ = some (.bool true)) :
    Calls Tryz.prog 63 #[.pointer (some ⟨p, 0, none⟩)] w fun e w' => e = .returned (.bool false) ∧ w' = w := by
  go_enter Tryz.func63, Tryz.ntmps63
  go_wp2
  go_ret
  exact ⟨rfl, rfl⟩

set_option maxRecDepth 100000 in
set_option maxHeartbeats 400000 in
theorem move_trip (p : Nat) (w : World) (d : Bool) (h2 : w.cell? ⟨p, 2, none⟩ = some (.int .i64 0)) (h3 : w.cell? ⟨p, 3, none⟩ = some (.bool d)) (hf : w.frozen? ⟨p, 3, none⟩ = false) :
    Calls Tryz.prog 63 #[.pointer (some ⟨p, 0, none⟩)] w fun e w' => e = .returned (.bool false) ∧ w' = w.setCell ⟨p, 3, none⟩ (.bool true) := by
  go_enter Tryz.func63, Tryz.ntmps63
  go_wp2
  go_ret
  exact ⟨rfl, rfl⟩

set_option maxRecDepth 100000 in
set_option maxHeartbeats 400000 in
theorem move_free (p : Nat) (w : World) (m t : Int) (ht : t < 0) (h1 : w.cell? ⟨p, 1, none⟩ = some (.int .i64 m)) (h2 : w.cell? ⟨p, 2, none⟩ = some (.int .i64 t)) (h3 : w.cell? ⟨p, 3, none⟩ = some (.bool false))
    (hf1 : w.frozen? ⟨p, 1, none⟩ = false) :
    Calls Tryz.prog 63 #[.pointer (some ⟨p, 0, none⟩)] w fun e w' => e = .returned (.bool true) ∧ w' = w.setCell ⟨p, 1, none⟩ (.int .i64 (wrap64 (m + 1))) := by
  go_enter Tryz.func63, Tryz.ntmps63
  go_wp2
  go_ret
  exact ⟨rfl, rfl⟩

set_option maxRecDepth 100000 in
set_option maxHeartbeats 400000 in
theorem move_down (p : Nat) (w : World) (m t : Int) (ht : 0 < t) (ht' : t ≤ 9223372036854775807) (h1 : w.cell? ⟨p, 1, none⟩ = some (.int .i64 m)) (h2 : w.cell? ⟨p, 2, none⟩ = some (.int .i64 t)) (h3 : w.cell? ⟨p, 3, none⟩ = some (.bool false))
    (hf1 : w.frozen? ⟨p, 1, none⟩ = false) (hf2 : w.frozen? ⟨p, 2, none⟩ = false) :
    Calls Tryz.prog 63 #[.pointer (some ⟨p, 0, none⟩)] w fun e w' => e = .returned (.bool true) ∧ w' = (w.setCell ⟨p, 2, none⟩ (.int .i64 (t - 1))).setCell ⟨p, 1, none⟩ (.int .i64 (wrap64 (m + 1))) := by
  go_enter Tryz.func63, Tryz.ntmps63
  go_wp2
  go_ret
  exact ⟨rfl, rfl⟩

set_option maxRecDepth 100000 in
set_option maxHeartbeats 400000 in
theorem within_at (k n : Int) (w : World) (hn : 0 < n) (hn' : n ≤ 9223372036854775807) (hk : -9223372036854775808 ≤ k) (hk' : k ≤ 9223372036854775807) :
    Calls Tryz.prog 60 #[.int .i64 k, .int .i64 n] w fun e w' => ∃ r : Nat, e = .returned (.int .i64 r) ∧ (r : Int) < n ∧ r = among k n.toNat ∧ w' = w := by
  obtain ⟨m, rfl⟩ : ∃ m : Nat, n = m := ⟨n.toNat, by omega⟩
  have h := among_eq k m (by omega) hn'
  have hl := among_lt k m (by omega)
  have hu : IntKind.u64.wrap (m : Int) = m := by rw [IntKind.wrap_u64]; omega
  have H := hide h
  have U := hide hu
  have HL := hide hl
  clear h hl hu
  go_enter Tryz.func60, Tryz.ntmps60
  go_wp2
  go_ret
  exact ⟨among k m, ret_int (unhide H), by have := unhide HL; omega, by simp, rfl⟩

end Go.Proofs.YtfggahkimconfaaGreatDoor

/- Contracts of behind and latest: a sector's value, out of memory. -/
namespace Go.Proofs.YtfggahkimconfaaGreatDoor
open Go.RowKit
set_option linter.unusedVariables false

def zrow : Array Value := Array.replicate 256 (.int .u8 0)
theorem zrow_size : zrow.size = 256 := by simp [zrow]
theorem infoV : (Tryz.prog.info? 90).map (fun i => (i.zero, i.size)) = some (some (.agg zrow), 256) := by kernel_rfl
theorem zeroV (w : World) : (zeroValue 90).run Tryz.prog w = .ok (.agg zrow) w := (zero_of_info infoV).1 w
theorem sizeV {cs : List Value} (h : cs.length = 256) : (Tryz.prog.info? 90).map (·.size) = some cs.length := by rw [h]; exact (zero_of_info infoV).2
theorem sizeVa {cs : List Value} (h : cs.length = 256) : (Tryz.prog.info? 90).map (·.size) = some cs.toArray.size := by simpa using sizeV h
theorem storeV (w : World) (cs : List Value) (hl : cs.length = 256) (h1 : ∀ v ∈ cs, v.oneCell' = true) :
    (storeCells ⟨w.heap.size, 0, none⟩ cs).run Tryz.prog (w.alloc (.cells zrow 90)) = .ok () (w.alloc (.cells cs.toArray 90)) := by
  have := run_storeCells_new (P := Tryz.prog) w 90 zrow cs.toArray (sizeVa hl) (by simp [hl, zrow_size]) (all_oneCell_toArray h1)
  simpa using this

set_option maxRecDepth 100000 in
set_option maxHeartbeats 400000 in
theorem behind_sure (g o : Nat) (w : World) (cs : List Value) (hl : cs.length = 256) (h1 : ∀ v ∈ cs, v.oneCell' = true) (hr : w.rangeAt g (o + 1) cs) :
    Calls Tryz.prog 81 #[.pointer (some ⟨g, o, none⟩), .int .i64 0] w fun e w' => e = .returned (.agg cs.toArray) ∧ w' = w.alloc (.cells cs.toArray 90) := by
  have hz := zeroV
  have hst := storeV w cs hl h1
  have hr' := World.rangeAt_alloc hr (.cells zrow 90)
  go_enter Tryz.func81, Tryz.ntmps81
  go_wp2_with (refine wpList_load_mid rfl 90 _ rfl g (o + 1) rfl cs _ hr' Tryz.underlying90 rfl (sizeV hl) ?_)
  refine bodyPost_ret (v := .agg cs.toArray) ?_ rfl ⟨rfl, rfl⟩
  exact results_cell_row Tryz.results81 _ _ w.heap.size 90 cs.toArray (0, 0) _ rfl (heap_alloc_last w _) Tryz.underlying90 rfl (sizeVa hl)

set_option maxRecDepth 100000 in
set_option maxHeartbeats 400000 in
theorem behind_wait (g o : Nat) (w : World) (q n c k : Nat) (hk : 1 ≤ k) (hkn : k ≤ n) (hn : n ≤ 9223372036854775807) (hc : w.cell? ⟨g, o, none⟩ = some (.slice (some ⟨q, 0, none⟩) n c))
    (cs : List Value) (hl : cs.length = 256) (h1 : ∀ v ∈ cs, v.oneCell' = true) (hr : w.rangeAt q ((k - 1) * 256) cs) :
    Calls Tryz.prog 81 #[.pointer (some ⟨g, o, none⟩), .int .i64 k] w fun e w' => e = .returned (.agg cs.toArray) ∧ w' = w.alloc (.cells cs.toArray 90) := by
  have hz := zeroV
  have hst := storeV w cs hl h1
  have hr' := World.rangeAt_alloc hr (.cells zrow 90)
  have hc' := cell_alloc hc (.cells zrow 90)
  have hk0 : ((k : Int) == 0) = false := by rw [beq_eq_false_iff_ne]; omega
  go_enter Tryz.func81, Tryz.ntmps81
  go_wp2_with (refine wpList_load_mid rfl 90 _ rfl q ((k - 1) * 256) rfl cs _ hr' Tryz.underlying90 rfl (sizeV hl) ?_)
  refine bodyPost_ret (v := .agg cs.toArray) ?_ rfl ⟨rfl, rfl⟩
  exact results_cell_row Tryz.results81 _ _ w.heap.size 90 cs.toArray (0, 0) _ rfl (heap_alloc_last w _) Tryz.underlying90 rfl (sizeVa hl)

end Go.Proofs.YtfggahkimconfaaGreatDoor

/- The contract of add: a value goes to the end of a sector's cache. -/
namespace Go.Proofs.YtfggahkimconfaaGreatDoor
open Go.RowKit
set_option linter.unusedVariables false

theorem wpList_copy_new {w : World} {ops : Array Oper} {rest : List Oper} {o : Oper} {a : Act} {Q : Exit → Act → World → Prop} (hgd : o.guard = none) (d s : Operand)
    (ho : o.op = .call { callee := .builtin .copy, args := #[d, s], argTypes := #[43, 43] }) (ad : Addr) (c : Nat)
    (hd : a.eval d = .slice (some ⟨w.heap.size, 0, none⟩) 256 256) (hs : a.eval s = .slice (some ad) 256 c)
    (cs : List Value) (hl : cs.length = 256) (hsrc : ∀ j v, cs[j]? = some v → w.cell? (ad.add j) = some v) (h1 : ∀ v ∈ cs, v.oneCell' = true)
    (h : wpList Tryz.prog ops Q rest (a.put o.dst (goInt 256)) (w.alloc (.cells cs.toArray 90))) : wpList Tryz.prog ops Q (o :: rest) a (w.alloc (.cells zrow 90)) := by
  refine wpList_copy_own hgd d s _ _ ho 5 Tryz.underlying43 (by kernel_rfl) w.heap.size 0 256 256 ad 256 c hd hs zrow 90 (heap_alloc_last w _) cs (by simp [hl]) ?_ (by simp [hl, zrow_size]) h1 ?_
  · intro j v hv
    exact cell_alloc (hsrc j v hv) _
  · rw [World.setRow_alloc_new, hl]
    have : (zrow.toList.take 0 ++ (cs ++ zrow.toList.drop (0 + 256))).toArray = cs.toArray := by
      rw [List.drop_eq_nil_of_le (by simp [zrow_size])]; simp
    rw [this]
    exact h

theorem range_new (w : World) (cs : List Value) (t : TypeId) : (w.alloc (.cells cs.toArray t)).rangeAt w.heap.size 0 cs := fun j v hv => by
  rw [cell_of_row _ _ _ cs.toArray t (0, 0) (heap_alloc_last w _)]; simpa using hv
theorem infoV3 : (Tryz.prog.info? 90).map (fun i => (i.zero, i.size, i.bytes)) = some (some (.agg zrow), 256, 256) := by kernel_rfl

theorem foldl_set (l : List Value) : ∀ (k : Nat) (cs : Array Value) , k + l.length ≤ cs.size →
    ((l.zipIdx k).foldl (fun (cs : Array Value) (x : Value × Nat) => cs.setIfInBounds (0 + x.2) x.1) cs).toList = cs.toList.take k ++ l ++ cs.toList.drop (k + l.length) := by
  induction l with
  | nil => intro k cs _; simp
  | cons x l ih =>
    intro k cs h
    simp only [List.zipIdx_cons, List.foldl_cons, List.length_cons] at h ⊢
    rw [ih (k + 1) _ (by simp; omega)]
    simp only [Nat.zero_add, Array.toList_setIfInBounds]
    have hk : k < cs.toList.length := by simp; omega
    rw [List.take_set, List.take_succ_eq_append_getElem hk, List.drop_set_of_lt (by omega)]
    rw [List.set_append_right _ _ (List.length_take_le _ _)]
    simp [Nat.min_eq_left (show k ≤ cs.size by omega), Nat.add_assoc, Nat.add_comm 1]
theorem fillV (i0 : TypeInfo) (hz1 : i0.size = 256) (cs : List Value) (hl : cs.length = 256) :
    Instr.fill (fun i => some (i * i0.size, i0.size)) ((Array.range (1 * i0.size)).map ((Value.agg zrow).cells[· % (Value.agg zrow).cells.size]!)) [(0, Value.agg cs.toArray)] = some cs.toArray := by
  rw [hz1]
  generalize hX : (Array.range (1 * 256)).map ((Value.agg zrow).cells[· % (Value.agg zrow).cells.size]!) = X
  have hs : X.size = 256 := by rw [← hX]; simp
  have h2 := foldl_set cs 0 X (by omega)
  simp only [Instr.fill, Value.cells, Nat.zero_mul]
  rw [if_neg (by simp [hl, hs])]
  congr 1
  apply Array.toList_inj.1
  rw [← Array.foldl_toList, Array.toList_zipIdx]
  simp only
  rw [h2]
  have : (X.toList.drop (0 + cs.length)) = [] := List.drop_eq_nil_of_le (by simp [hl, hs])
  rw [this]; simp

theorem wp_buildV {o : Oper} {a : Act} {w : World} {K : Act → World → Prop} {Q : Exit → Act → World → Prop} (x : Operand) (ho : o.op = .buildSlice 91 1 #[(0, x)]) (cs : List Value) (hl : cs.length = 256)
    (hx : a.eval x = .agg cs.toArray) (h : K (a.put o.dst (.slice (some ⟨w.heap.size, 0, none⟩) 1 1)) (w.alloc (.cells cs.toArray 90))) : o.wp Tryz.prog a w K Q := by
  obtain ⟨i0, hi, hz0, hz1, hz2⟩ := info_parts infoV3
  refine wp_buildSlice _ 90 1 _ ho cs.toArray i0 (.agg zrow) Tryz.underlying91 hi hz0 (by rw [hz1]; decide) (by rw [hz1]; decide) ?_ h
  have e : (Array.map (fun (x : Nat × Operand) => match x with | (i, x) => (i, a.eval x)) #[(0, x)]).toList = [(0, Value.agg cs.toArray)] := by simp [hx]
  rw [e]
  exact fillV i0 hz1 cs hl

theorem grown2 {w W w1 : World} {C D : Obj} {row : Option Nat} (h : W.grownBy w1 row) (hh : W.heap = ((w.alloc C).alloc D).heap) (h1 : W.os = w.os) (h2 : W.tape = w.tape) (h3 : W.output = w.output) : w.grownBy w1 row := by
  have hs : W.heap.size = w.heap.size + 1 + 1 := by rw [hh]; simp
  refine ⟨h.os.trans h1, h.tape.trans h2, h.output.trans h3, Nat.le_trans (by omega) h.size, fun k hk hne => (h.block k (by omega) hne).trans ?_⟩
  rw [hh, Below.heap_alloc _ _ _ (by simp; omega)]
  exact Below.heap_alloc _ _ _ hk
theorem add_where {w W : World} {C D : Obj} {r : Option Nat} {q : Nat} (h : r = some q ∨ q = W.heap.size) (hh : W.heap = ((w.alloc C).alloc D).heap) : r = some q ∨ w.heap.size ≤ q := by
  rcases h with h | h
  · exact .inl h
  · right; rw [h, hh]; simp; omega

set_option maxRecDepth 100000 in
set_option maxHeartbeats 1000000 in
theorem add_at (g o B : Nat) (w : World) (v : Value) (n : Nat) (xs : List Value) (hc : w.cell? ⟨g, o, none⟩ = some v) (hf : w.frozen? ⟨g, o, none⟩ = false) (hgv : some g ≠ v.ownBlock)
    (hown : w.ownsRow B 90 256 v n xs) (hB : B ≤ w.heap.size) (hn : n ≤ 1000000) (ad : Addr) (c : Nat) (cs : List Value) (hl : cs.length = 256) (h1 : ∀ v ∈ cs, v.oneCell' = true)
    (hsrc : ∀ j u, cs[j]? = some u → w.cell? (ad.add j) = some u) :
    Calls Tryz.prog 64 #[.pointer (some ⟨g, o, none⟩), .slice (some ad) 256 c] w fun e w' => e = .returned (.tuple #[]) ∧
      ∃ q cap w1, w1.ownsRow B 90 256 (.slice (some ⟨q, 0, none⟩) (n + 1) cap) (n + 1) (xs ++ cs) ∧ w.grownBy w1 v.ownBlock ∧ (v.ownBlock = some q ∨ w.heap.size ≤ q) ∧
        w' = w1.setCell ⟨g, o, none⟩ (.slice (some ⟨q, 0, none⟩) (n + 1) cap) := by
  have hz := zeroV
  obtain ⟨i0, hi, hz0, hz1, hz2⟩ := info_parts infoV3
  have hlt := World.block_lt_of_cell? w _ hc
  have hvlt := hown.lt
  go_enter Tryz.func64, Tryz.ntmps64
  go_wp2_with (refine wpList_copy_new rfl (.tmp 5) (.tmp 6) rfl ad c rfl rfl cs hl hsrc h1 ?_)
  have hcW := cell_alloc hc (.cells cs.toArray 90)
  have hcW2 := cell_alloc hcW (.cells cs.toArray 90)
  have hfW2 : ((w.alloc (.cells cs.toArray 90)).alloc (.cells cs.toArray 90)).frozen? ⟨g, o, none⟩ = false := by
    rw [World.frozen?_alloc_past _ _ _ (by simp; omega), World.frozen?_alloc_past _ _ _ hlt]; exact hf
  have hr0 := range_new w cs 90
  refine wp_region_any (by kernel_rfl) ?_
  change wpAny _ _ _ _ _ _ _ (World.drew _)
  refine wpAny_take (i := 0) (v := ?_) rfl (by kernel_rfl) (by kernel_rfl) (by kernel_rfl) (fun _ _ _ h => h) (Or.inl ⟨by rfl, ?_⟩) ?_
  rotate_left
  · intro w; go_simp; rfl
  refine wpAny_take (i := 1) (v := ?_) rfl (by kernel_rfl) (by kernel_rfl) (by kernel_rfl) (fun _ _ _ h => h) (Or.inl ⟨by rfl, ?_⟩) ?_
  rotate_left
  · intro w; go_simp; rfl
  refine wpAny_take (i := 2) (v := ?_) rfl (by kernel_rfl) (by kernel_rfl) (by kernel_rfl) (fun _ _ _ h => h) (Or.inl ⟨by rfl, ?_⟩) ?_
  rotate_left
  · intro w; go_simp; rfl
  refine wpAny_take (i := 3) (v := ?_) rfl (by kernel_rfl) (by kernel_rfl) (by kernel_rfl) (fun _ _ _ h => h) (Or.inl ⟨by rfl, ?_⟩) ?_
  rotate_left
  · intro w; go_simp; rfl
  have hcd : (w.alloc (.cells cs.toArray 90)).drew.cell? ⟨g, o, none⟩ = some v := by simpa using hcW
  have hcd2 : ((w.alloc (.cells cs.toArray 90)).alloc (.cells cs.toArray 90)).drew.cell? ⟨g, o, none⟩ = some v := by simpa using hcW2
  have hrd : (w.alloc (.cells cs.toArray 90)).drew.rangeAt w.heap.size 0 cs := by simpa using hr0
  refine wpAny_ready (rs := [4, 5]) (by kernel_rfl) (by simp) ?_
  refine AllReady.cons rfl (fun K hK => ?_) (AllReady.cons rfl (fun K hK => ?_) AllReady.nil)
  · go_simp
    refine hK _ _ ?_; clear hK K
    refine wpAny_ready (rs := [5]) (by kernel_rfl) (by simp) ?_
    refine AllReady.cons rfl (fun K hK => ?_) AllReady.nil
    rw [if_pos (by rfl)]
    refine wp_load_mid _ _ rfl w.heap.size 0 rfl cs _ hrd Tryz.underlying90 rfl (sizeV hl) ?_
    refine hK _ _ ?_; clear hK K
    refine wpAny_ready (rs := [6]) (by kernel_rfl) (by simp) ?_
    refine AllReady.cons rfl (fun K hK => ?_) AllReady.nil
    rw [if_pos (by rfl)]
    refine wp_buildV (.tmp 13) rfl cs hl rfl ?_
    refine hK _ _ ?_; clear hK K
    exact (by
    refine wpAny_ready (rs := [7]) (by kernel_rfl) (by simp) ?_
    refine AllReady.cons rfl (fun K hK => ?_) AllReady.nil
    refine step_append_lies _ rfl (.tmp 12) (.tmp 14) 91 rfl B 90 i0 (.agg zrow) 256 256 Tryz.underlying91 hi hz0 hz1 hz2 zrow_size (by decide) v n xs rfl ?own _ 1 1 cs rfl ?len ?news h1 (by decide) ?b1 ?b2 ?base _ rfl ?next
    case own => first | exact (hown.alloc _).drew.alloc _ | exact ((hown.alloc _).alloc _).drew
    case len => rw [hl]
    case news => first | exact World.news_of_block (heap_alloc_last _ _) | exact World.news_of_block (heap_alloc2_new w _ _)
    case b1 => unfold maxLen; omega
    case b2 => omega
    case base => simp; omega
    case next =>
      intro q cap w1 hown1 hgrow hat hqlt
      have hk := (hgrow.cell_far ⟨g, o, none⟩ (by simp; omega) hgv).trans hcW2
      have hkf := (hgrow.frozen_far ⟨g, o, none⟩ (by simp; omega) hgv).trans hfW2
      refine hK _ _ ?_; clear hK K
      refine wpAny_ready (rs := [8]) (by kernel_rfl) (by simp) ?_
      refine AllReady.cons rfl (fun K hK => ?_) AllReady.nil
      go_simp
      refine hK _ _ ?_; clear hK K
      refine wpAny_ready (rs := [9]) (by kernel_rfl) (by simp) ?_
      refine AllReady.cons rfl (fun K hK => ?_) AllReady.nil
      go_simp
      refine hK _ _ ?_; clear hK K
      refine wpAny_ready (rs := [10]) (by kernel_rfl) (by simp) ?_
      refine AllReady.cons rfl (fun K hK => ?_) AllReady.nil
      go_simp
      refine hK _ _ ?_; clear hK K
      refine wpAny_done (by kernel_rfl) ?_ _
      go_wp2
      go_end0
      exact ⟨rfl, q, cap, w1, hown1, grown2 hgrow rfl rfl rfl rfl, add_where hat rfl, rfl⟩)
  · rw [if_pos (by rfl)]
    refine wp_load_mid _ _ rfl w.heap.size 0 rfl cs _ hrd Tryz.underlying90 rfl (sizeV hl) ?_
    refine hK _ _ ?_; clear hK K
    refine wpAny_ready (rs := [4, 6]) (by kernel_rfl) (by simp) ?_
    refine AllReady.cons rfl (fun K hK => ?_) (AllReady.cons rfl (fun K hK => ?_) AllReady.nil)
    · go_simp
      refine hK _ _ ?_; clear hK K
      refine wpAny_ready (rs := [6]) (by kernel_rfl) (by simp) ?_
      refine AllReady.cons rfl (fun K hK => ?_) AllReady.nil
      rw [if_pos (by rfl)]
      refine wp_buildV (.tmp 13) rfl cs hl rfl ?_
      refine hK _ _ ?_; clear hK K
      exact (by
    refine wpAny_ready (rs := [7]) (by kernel_rfl) (by simp) ?_
    refine AllReady.cons rfl (fun K hK => ?_) AllReady.nil
    refine step_append_lies _ rfl (.tmp 12) (.tmp 14) 91 rfl B 90 i0 (.agg zrow) 256 256 Tryz.underlying91 hi hz0 hz1 hz2 zrow_size (by decide) v n xs rfl ?own _ 1 1 cs rfl ?len ?news h1 (by decide) ?b1 ?b2 ?base _ rfl ?next
    case own => first | exact (hown.alloc _).drew.alloc _ | exact ((hown.alloc _).alloc _).drew
    case len => rw [hl]
    case news => first | exact World.news_of_block (heap_alloc_last _ _) | exact World.news_of_block (heap_alloc2_new w _ _)
    case b1 => unfold maxLen; omega
    case b2 => omega
    case base => simp; omega
    case next =>
      intro q cap w1 hown1 hgrow hat hqlt
      have hk := (hgrow.cell_far ⟨g, o, none⟩ (by simp; omega) hgv).trans hcW2
      have hkf := (hgrow.frozen_far ⟨g, o, none⟩ (by simp; omega) hgv).trans hfW2
      refine hK _ _ ?_; clear hK K
      refine wpAny_ready (rs := [8]) (by kernel_rfl) (by simp) ?_
      refine AllReady.cons rfl (fun K hK => ?_) AllReady.nil
      go_simp
      refine hK _ _ ?_; clear hK K
      refine wpAny_ready (rs := [9]) (by kernel_rfl) (by simp) ?_
      refine AllReady.cons rfl (fun K hK => ?_) AllReady.nil
      go_simp
      refine hK _ _ ?_; clear hK K
      refine wpAny_ready (rs := [10]) (by kernel_rfl) (by simp) ?_
      refine AllReady.cons rfl (fun K hK => ?_) AllReady.nil
      go_simp
      refine hK _ _ ?_; clear hK K
      refine wpAny_done (by kernel_rfl) ?_ _
      go_wp2
      go_end0
      exact ⟨rfl, q, cap, w1, hown1, grown2 hgrow rfl rfl rfl rfl, add_where hat rfl, rfl⟩)
    · rw [if_pos (by rfl)]
      refine wp_buildV (.tmp 13) rfl cs hl rfl ?_
      refine hK _ _ ?_; clear hK K
      refine wpAny_ready (rs := [4]) (by kernel_rfl) (by simp) ?_
      refine AllReady.cons rfl (fun K hK => ?_) AllReady.nil
      go_simp
      refine hK _ _ ?_; clear hK K
      exact (by
    refine wpAny_ready (rs := [7]) (by kernel_rfl) (by simp) ?_
    refine AllReady.cons rfl (fun K hK => ?_) AllReady.nil
    refine step_append_lies _ rfl (.tmp 12) (.tmp 14) 91 rfl B 90 i0 (.agg zrow) 256 256 Tryz.underlying91 hi hz0 hz1 hz2 zrow_size (by decide) v n xs rfl ?own _ 1 1 cs rfl ?len ?news h1 (by decide) ?b1 ?b2 ?base _ rfl ?next
    case own => first | exact (hown.alloc _).drew.alloc _ | exact ((hown.alloc _).alloc _).drew
    case len => rw [hl]
    case news => first | exact World.news_of_block (heap_alloc_last _ _) | exact World.news_of_block (heap_alloc2_new w _ _)
    case b1 => unfold maxLen; omega
    case b2 => omega
    case base => simp; omega
    case next =>
      intro q cap w1 hown1 hgrow hat hqlt
      have hk := (hgrow.cell_far ⟨g, o, none⟩ (by simp; omega) hgv).trans hcW2
      have hkf := (hgrow.frozen_far ⟨g, o, none⟩ (by simp; omega) hgv).trans hfW2
      refine hK _ _ ?_; clear hK K
      refine wpAny_ready (rs := [8]) (by kernel_rfl) (by simp) ?_
      refine AllReady.cons rfl (fun K hK => ?_) AllReady.nil
      go_simp
      refine hK _ _ ?_; clear hK K
      refine wpAny_ready (rs := [9]) (by kernel_rfl) (by simp) ?_
      refine AllReady.cons rfl (fun K hK => ?_) AllReady.nil
      go_simp
      refine hK _ _ ?_; clear hK K
      refine wpAny_ready (rs := [10]) (by kernel_rfl) (by simp) ?_
      refine AllReady.cons rfl (fun K hK => ?_) AllReady.nil
      go_simp
      refine hK _ _ ?_; clear hK K
      refine wpAny_done (by kernel_rfl) ?_ _
      go_wp2
      go_end0
      exact ⟨rfl, q, cap, w1, hown1, grown2 hgrow rfl rfl rfl rfl, add_where hat rfl, rfl⟩)

end Go.Proofs.YtfggahkimconfaaGreatDoor

/- A disk in memory, as a plain value: what it is, and what keeps it. -/
namespace Go.Proofs.YtfggahkimconfaaGreatDoor
open Go.RowKit
set_option linter.unusedVariables false

structure Sec where
  sure : List UInt8
  wait : List (List UInt8)
structure Dk where
  secs : List Sec
  moves : Int
  trip : Int
  dark : Bool

def Sec.pick (s : Sec) (k : Nat) : List UInt8 := match k with
  | 0 => s.sure
  | k + 1 => s.wait.getD k []
def Sec.last (s : Sec) : List UInt8 := s.pick s.wait.length
def Sec.ok (s : Sec) : Prop := s.sure.length = 256 ∧ ∀ x ∈ s.wait, x.length = 256
def Sec.add (s : Sec) (x : List UInt8) : Sec := ⟨s.sure, s.wait ++ [x]⟩
def Sec.settle (s : Sec) (k : Nat) : Sec := ⟨s.pick k, []⟩

theorem Sec.pick_len {s : Sec} (h : s.ok) (k : Nat) (hk : k ≤ s.wait.length) : (s.pick k).length = 256 := by
  cases k with
  | zero => exact h.1
  | succ k =>
    have hlt : k < s.wait.length := hk
    simp only [Sec.pick, List.getD_eq_getElem?_getD, List.getElem?_eq_getElem hlt, Option.getD_some]
    exact h.2 _ (List.getElem_mem hlt)
theorem Sec.ok_add {s : Sec} (h : s.ok) {x : List UInt8} (hx : x.length = 256) : (s.add x).ok :=
  ⟨h.1, fun y hy => by
    simp only [Sec.add, List.mem_append, List.mem_singleton] at hy
    rcases hy with hy | rfl
    · exact h.2 y hy
    · exact hx⟩
theorem Sec.ok_settle {s : Sec} (h : s.ok) (k : Nat) (hk : k ≤ s.wait.length) : (s.settle k).ok :=
  ⟨Sec.pick_len h k hk, fun y hy => by cases hy⟩

/-- A sector at offset o of block g: v is its cache's slice. -/
structure SecAt (w : World) (B g o : Nat) (v : Value) (s : Sec) : Prop where
  ok : s.ok
  cell : w.cell? ⟨g, o, none⟩ = some v
  sure : w.rangeAt g (o + 1) (bv s.sure)
  own : w.ownsRow B 90 256 v s.wait.length (s.wait.flatMap bv)

/-- A disk at block p, its sectors in block g, their caches' slices vs. -/
structure IsDisk (w : World) (B p g : Nat) (vs : Nat → Value) (D : Dk) : Prop where
  blk : w.heap[p]? = some (.cells #[.slice (some ⟨g, 0, none⟩) D.secs.length D.secs.length, .int .i64 D.moves, .int .i64 D.trip, .bool D.dark] 64 (0, 0))
  row : ∃ cur, w.heap[g]? = some (.cells cur 95 (0, 0)) ∧ cur.size = D.secs.length * 257
  bp : B ≤ p
  bg : B ≤ g
  bw : B ≤ w.heap.size
  sec : ∀ i s, D.secs[i]? = some s → SecAt w B g (i * 257) (vs i) s
  apart : ∀ i j, i < D.secs.length → j < D.secs.length → i ≠ j → (vs i).ownBlock = none ∨ (vs i).ownBlock ≠ (vs j).ownBlock
  one : 1 ≤ D.secs.length
  most : D.secs.length ≤ 4096
  lo : -1 ≤ D.trip
  hi : D.trip ≤ 9223372036854775807

theorem SecAt.blk {w : World} {B g o : Nat} {v : Value} {s : Sec} (h : SecAt w B g o v s) {k : Nat} (hk : v.ownBlock = some k) : ∃ cur, w.heap[k]? = some (.cells cur 90 (0, 0)) := by
  rcases h.own.2 with ⟨rfl, _⟩ | ⟨q, cap, cur, rfl, _, hq, _⟩
  · simp [Value.ownBlock] at hk
  · simp [Value.ownBlock] at hk; subst hk; exact ⟨cur, hq⟩

theorem range_of_block {w w' : World} {g o : Nat} {cs : List Value} (h : w.rangeAt g o cs) (hk : w'.heap[g]? = w.heap[g]?) : w'.rangeAt g o cs := fun j v hv =>
  (World.cell?_of_block (w := w) (w' := w') (a := ⟨g, o + j, none⟩) hk).trans (h j v hv)

/-- Where the disk's own blocks are as they were, it is. -/
theorem IsDisk.keep {w w' : World} {B p g : Nat} {vs : Nat → Value} {D : Dk} (h : IsDisk w B p g vs D) (hp : w'.heap[p]? = w.heap[p]?) (hg : w'.heap[g]? = w.heap[g]?) (hs : w.heap.size ≤ w'.heap.size)
    (hk : ∀ i k, i < D.secs.length → (vs i).ownBlock = some k → w'.heap[k]? = w.heap[k]?) : IsDisk w' B p g vs D where
  blk := hp.trans h.blk
  row := by obtain ⟨cur, h1, h2⟩ := h.row; exact ⟨cur, hg.trans h1, h2⟩
  bp := h.bp
  bg := h.bg
  bw := Nat.le_trans h.bw hs
  sec := fun i s hi => by
    have q := h.sec i s hi
    exact ⟨q.ok, (World.cell?_of_block (w := w) hg).trans q.cell, range_of_block q.sure hg, own_of_block q.own (fun k hk' => hk i k (List.getElem?_eq_some_iff.1 hi).1 hk')⟩
  apart := h.apart
  one := h.one
  most := h.most
  lo := h.lo
  hi := h.hi

theorem IsDisk.lt {w : World} {B p g : Nat} {vs : Nat → Value} {D : Dk} (h : IsDisk w B p g vs D) : p < w.heap.size ∧ g < w.heap.size ∧ ∀ i k, i < D.secs.length → (vs i).ownBlock = some k → k < w.heap.size := by
  refine ⟨lt_of_heap h.blk, ?_, ?_⟩
  · obtain ⟨cur, h1, _⟩ := h.row; exact lt_of_heap h1
  · intro i k hi hk
    obtain ⟨cur, hc⟩ := (h.sec i _ (List.getElem?_eq_getElem hi)).blk hk
    exact lt_of_heap hc

/-- Behind a step that turns nothing that was there. -/
theorem IsDisk.below {w w' : World} {B p g : Nat} {vs : Nat → Value} {D : Dk} (h : IsDisk w B p g vs D) (hb : Below w.heap.size w w') : IsDisk w' B p g vs D :=
  h.keep (hb.block _ h.lt.1) (hb.block _ h.lt.2.1) hb.size (fun i k hi hk => hb.block _ (h.lt.2.2 i k hi hk))

/-- The three kinds of blocks are never one. -/
theorem IsDisk.kinds {w : World} {B p g : Nat} {vs : Nat → Value} {D : Dk} (h : IsDisk w B p g vs D) : p ≠ g ∧ ∀ i k, i < D.secs.length → (vs i).ownBlock = some k → k ≠ p ∧ k ≠ g := by
  obtain ⟨cur, h1, _⟩ := h.row
  refine ⟨fun e => ?_, fun i k hi hk => ?_⟩
  · subst e; have := h.blk.symm.trans h1; simp at this
  · obtain ⟨c, hc⟩ := (h.sec i _ (List.getElem?_eq_getElem hi)).blk hk
    refine ⟨fun e => ?_, fun e => ?_⟩
    · subst e; have := h.blk.symm.trans hc; simp at this
    · subst e; have := h1.symm.trans hc; simp at this

/-- What a step on a disk may turn: only blocks from B on, and of these only the three kinds. -/
structure Fr (B : Nat) (w w' : World) : Prop where
  below : Below B w w'
  other : ∀ (k : Nat) (c : Array Value) (e : TypeId) (f : Nat × Nat), w.heap[k]? = some (.cells c e f) → e ≠ 64 → e ≠ 90 → e ≠ 95 → w'.heap[k]? = w.heap[k]?

theorem Fr.refl (B : Nat) (w : World) : Fr B w w := ⟨Below.refl _ _, fun _ _ _ _ _ _ _ _ => rfl⟩
theorem Fr.trans {B : Nat} {a b c : World} (h : Fr B a b) (k : Fr B b c) : Fr B a c :=
  ⟨h.below.trans k.below, fun i cs e f hi h1 h2 h3 => by
    have e1 := h.other i cs e f hi h1 h2 h3
    rw [← e1]
    exact k.other i cs e f (e1.trans hi) h1 h2 h3⟩
theorem Fr.of_below {B : Nat} {w w' : World} (h : Below w.heap.size w w') (hB : B ≤ w.heap.size) : Fr B w w' :=
  ⟨h.mono hB, fun k _ _ _ hk _ _ _ => h.block k (lt_of_heap hk)⟩

/-! The disk's own cells. -/
theorem IsDisk.cells {w : World} {B p g : Nat} {vs : Nat → Value} {D : Dk} (h : IsDisk w B p g vs D) :
    w.cell? ⟨p, 0, none⟩ = some (.slice (some ⟨g, 0, none⟩) D.secs.length D.secs.length) ∧ w.cell? ⟨p, 1, none⟩ = some (.int .i64 D.moves) ∧ w.cell? ⟨p, 2, none⟩ = some (.int .i64 D.trip) ∧ w.cell? ⟨p, 3, none⟩ = some (.bool D.dark) ∧
      ∀ j, w.frozen? ⟨p, j, none⟩ = false :=
  ⟨by rw [cell_of_row _ _ _ _ _ _ h.blk]; rfl, by rw [cell_of_row _ _ _ _ _ _ h.blk]; rfl, by rw [cell_of_row _ _ _ _ _ _ h.blk]; rfl, by rw [cell_of_row _ _ _ _ _ _ h.blk]; rfl, fun j => frozen_of_row _ _ _ _ _ h.blk⟩

theorem fr_setCell {B : Nat} {w : World} {a : Addr} {v : Value} {c : Array Value} {e : TypeId} {f : Nat × Nat} (hb : B ≤ a.block) (ha : w.heap[a.block]? = some (.cells c e f)) (he : e = 64 ∨ e = 90 ∨ e = 95) : Fr B w (w.setCell a v) :=
  ⟨(Below.refl _ _).setCell hb v, fun k c' e' f' hk h1 h2 h3 => by
    refine Below.heap_setCell w a v k ?_
    intro e0; subst e0
    have := ha.symm.trans hk
    simp at this
    obtain ⟨_, rfl, _⟩ := this
    rcases he with he | he | he
    · exact h1 he
    · exact h2 he
    · exact h3 he⟩

/-- A number of the disk's own block is written. -/
theorem IsDisk.set {w : World} {B p g : Nat} {vs : Nat → Value} {D D' : Dk} (h : IsDisk w B p g vs D) (i : Nat) (v : Value) (hs : D'.secs = D.secs) (lo : -1 ≤ D'.trip) (hi : D'.trip ≤ 9223372036854775807)
    (hv : (#[Value.slice (some ⟨g, 0, none⟩) D.secs.length D.secs.length, .int .i64 D.moves, .int .i64 D.trip, .bool D.dark]).setIfInBounds i v =
      #[.slice (some ⟨g, 0, none⟩) D'.secs.length D'.secs.length, .int .i64 D'.moves, .int .i64 D'.trip, .bool D'.dark]) : IsDisk (w.setCell ⟨p, i, none⟩ v) B p g vs D' := by
  obtain ⟨k1, k2⟩ := h.kinds
  have hg : (w.setCell ⟨p, i, none⟩ v).heap[g]? = w.heap[g]? := Below.heap_setCell _ _ _ _ (fun e => k1 e.symm)
  have hk : ∀ j k, j < D.secs.length → (vs j).ownBlock = some k → (w.setCell ⟨p, i, none⟩ v).heap[k]? = w.heap[k]? := fun j k hj hk => Below.heap_setCell _ _ _ _ (k2 j k hj hk).1
  refine ⟨?_, ?_, h.bp, h.bg, by simpa [World.setCell] using h.bw, ?_, ?_, ?_, ?_, lo, hi⟩
  · rw [heap_setCell_same w p i _ _ v h.blk, hv]
  · rw [hs]; obtain ⟨cur, h1, h2⟩ := h.row; exact ⟨cur, hg.trans h1, h2⟩
  · rw [hs]
    intro j s hj
    have q := h.sec j s hj
    exact ⟨q.ok, (World.cell?_of_block (w := w) hg).trans q.cell, range_of_block q.sure hg, own_of_block q.own (fun k hk' => hk j k (List.getElem?_eq_some_iff.1 hj).1 hk')⟩
  · rw [hs]; exact h.apart
  · rw [hs]; exact h.one
  · rw [hs]; exact h.most

def upd (vs : Nat → Value) (i : Nat) (v : Value) : Nat → Value := fun j => if j = i then v else vs j
def Dk.put (D : Dk) (i : Nat) (s : Sec) : Dk := { D with secs := D.secs.set i s }

/-- One sector is written anew: all else of the disk is as it was. -/
theorem IsDisk.sector {w w' : World} {B p g : Nat} {vs : Nat → Value} {D : Dk} (h : IsDisk w B p g vs D) (i : Nat) (hi : i < D.secs.length) (v : Value) (s : Sec)
    (hp : w'.heap[p]? = w.heap[p]?) (hs : w.heap.size ≤ w'.heap.size) (hg : ∃ cur, w'.heap[g]? = some (.cells cur 95 (0, 0)) ∧ cur.size = D.secs.length * 257)
    (hcell : ∀ o, o < i * 257 ∨ (i + 1) * 257 ≤ o → w'.cell? ⟨g, o, none⟩ = w.cell? ⟨g, o, none⟩)
    (hk : ∀ j k, j < D.secs.length → j ≠ i → (vs j).ownBlock = some k → w'.heap[k]? = w.heap[k]?)
    (hap : ∀ j k, j < D.secs.length → j ≠ i → (vs j).ownBlock = some k → v.ownBlock ≠ some k)
    (hsec : SecAt w' B g (i * 257) v s) : IsDisk w' B p g (upd vs i v) (D.put i s) where
  blk := by simpa [Dk.put] using hp.trans h.blk
  row := by simpa [Dk.put] using hg
  bp := h.bp
  bg := h.bg
  bw := Nat.le_trans h.bw hs
  sec := fun j t hj => by
    by_cases e : j = i
    · subst e
      simp [Dk.put, hi] at hj
      subst hj
      simpa [upd] using hsec
    · have hj' : D.secs[j]? = some t := by simpa [Dk.put, List.getElem?_set, Ne.symm e] using hj
      have q := h.sec j t hj'
      have hjl := (List.getElem?_eq_some_iff.1 hj').1
      have hl : (bv t.sure).length = 256 := by rw [bv_length]; exact q.ok.1
      have hz : ∀ x, x < 257 → w'.cell? ⟨g, j * 257 + x, none⟩ = w.cell? ⟨g, j * 257 + x, none⟩ := fun x hx => hcell _ (by omega)
      have hz0 := hz 0 (by omega)
      rw [Nat.add_zero] at hz0
      simp only [upd, if_neg e]
      refine ⟨q.ok, hz0.trans q.cell, fun x u hu => ?_, own_of_block q.own (fun k hk' => hk j k hjl e hk')⟩
      have hx := (List.getElem?_eq_some_iff.1 hu).1
      rw [Nat.add_assoc, hz (1 + x) (by omega), ← Nat.add_assoc]
      exact q.sure x u hu
  apart := fun a b ha hb hab => by
    simp only [Dk.put, List.length_set] at ha hb
    by_cases ea : a = i
    · subst ea
      have eb : b ≠ a := fun e => hab e.symm
      simp only [upd, if_neg eb, if_true]
      cases hq : (vs b).ownBlock with
      | none => cases hv : v.ownBlock <;> simp
      | some k => exact .inr (hap b k hb eb hq)
    · by_cases eb : b = i
      · subst eb
        simp only [upd, if_neg ea, if_true]
        cases hq : (vs a).ownBlock with
        | none => exact .inl rfl
        | some k => exact .inr (fun e => hap a k ha ea hq e.symm)
      · simp only [upd, if_neg ea, if_neg eb]
        exact h.apart a b ha hb hab
  one := by simpa [Dk.put] using h.one
  most := by simpa [Dk.put] using h.most
  lo := h.lo
  hi := h.hi

end Go.Proofs.YtfggahkimconfaaGreatDoor

/- Contracts of behind, latest and settle over a sector as a plain value. -/
namespace Go.Proofs.YtfggahkimconfaaGreatDoor
open Go.RowKit
set_option linter.unusedVariables false

theorem flat_at : ∀ (l : List (List UInt8)) (m j : Nat), (∀ x ∈ l, x.length = 256) → m < l.length → j < 256 → (l.flatMap bv)[m * 256 + j]? = (bv (l.getD m []))[j]?
  | [], _, _, _, h, _ => by simp at h
  | x :: l, 0, j, hl, _, hj => by
    have hx : (bv x).length = 256 := by rw [bv_length]; exact hl x (by simp)
    simp only [List.flatMap_cons, Nat.zero_mul, Nat.zero_add, List.getD_cons_zero]
    rw [List.getElem?_append_left (by omega)]
  | x :: l, m + 1, j, hl, hm, hj => by
    have hx : (bv x).length = 256 := by rw [bv_length]; exact hl x (by simp)
    simp only [List.flatMap_cons, List.getD_cons_succ]
    rw [List.getElem?_append_right (by omega), hx, show (m + 1) * 256 + j - 256 = m * 256 + j by omega]
    exact flat_at l m j (fun y hy => hl y (by simp [hy])) (by simpa using hm) hj

theorem flat_len : ∀ (l : List (List UInt8)), (∀ x ∈ l, x.length = 256) → (l.flatMap bv).length = l.length * 256
  | [], _ => by simp
  | x :: l, h => by
    have hx : (bv x).length = 256 := by rw [bv_length]; exact h x (by simp)
    simp only [List.flatMap_cons, List.length_append, hx, List.length_cons, flat_len l (fun y hy => h y (by simp [hy]))]
    omega

theorem SecAt.form {w : World} {B g o : Nat} {v : Value} {s : Sec} (h : SecAt w B g o v s) (m : Nat) (hm : m < s.wait.length) :
    ∃ q cap, v = .slice (some ⟨q, 0, none⟩) s.wait.length cap ∧ s.wait.length ≤ 9223372036854775807 ∧ w.rangeAt q (m * 256) (bv (s.wait.getD m [])) := by
  rcases h.own.2 with ⟨_, h0⟩ | ⟨q, cap, cur, hv, hb, hq, hnc, hcm, hcs, htk⟩
  · omega
  · refine ⟨q, cap, hv, by unfold maxLen at hcm; omega, fun j u hu => ?_⟩
    have hl : (bv (s.wait.getD m [])).length = 256 := by rw [bv_length]; exact Sec.pick_len h.ok (m + 1) hm
    have hj := (List.getElem?_eq_some_iff.1 hu).1
    rw [cell_of_row _ _ _ cur _ _ hq]
    have e := flat_at s.wait m j h.ok.2 hm (by omega)
    rw [← htk, List.getElem?_take, if_pos (by omega)] at e
    rw [← hu, ← e]
    simp

theorem behind_any (B g o : Nat) (w : World) (v : Value) (s : Sec) (h : SecAt w B g o v s) (k : Nat) (hk : k ≤ s.wait.length) :
    Calls Tryz.prog 81 #[.pointer (some ⟨g, o, none⟩), .int .i64 k] w fun e w' => e = .returned (.agg (bv (s.pick k)).toArray) ∧ w' = w.alloc (.cells (bv (s.pick k)).toArray 90) := by
  cases k with
  | zero => exact behind_sure g o w (bv s.sure) (by rw [bv_length]; exact h.ok.1) (bv_one _) h.sure
  | succ m =>
    obtain ⟨q, cap, rfl, hn, hr⟩ := h.form m hk
    exact behind_wait g o w q s.wait.length cap (m + 1) (by omega) hk hn h.cell (bv (s.wait.getD m [])) (by rw [bv_length]; exact Sec.pick_len h.ok (m + 1) hk) (bv_one _) (by simpa using hr)

theorem SecAt.sl {w : World} {B g o : Nat} {v : Value} {s : Sec} (h : SecAt w B g o v s) : ∃ a cap, v = .slice a s.wait.length cap := by
  rcases h.own.2 with ⟨hv, h0⟩ | ⟨q, cap, cur, hv, _⟩
  · exact ⟨none, 0, by rw [hv, h0]⟩
  · exact ⟨_, cap, hv⟩

theorem size_any (B g o : Nat) (w : World) (v : Value) (s : Sec) (h : SecAt w B g o v s) :
    Calls Tryz.prog 61 #[.pointer (some ⟨g, o, none⟩)] w fun e w' => e = .returned (.int .i64 s.wait.length) ∧ w' = w := by
  obtain ⟨a, cap, rfl⟩ := h.sl
  exact size_at g o w a s.wait.length cap h.cell

theorem SecAt.alloc {w : World} {B g o : Nat} {v : Value} {s : Sec} (h : SecAt w B g o v s) (ob : Obj) : SecAt (w.alloc ob) B g o v s :=
  ⟨h.ok, cell_alloc h.cell ob, World.rangeAt_alloc h.sure ob, h.own.alloc ob⟩

theorem results_cell_mid {fn : Func} {p : Tmp} {ty : TypeId} (h : fn.results = #[.cell p ty]) (tmps : Array Value) (w : World) (g o : Nat) (cs : List Value) (d : TypeDesc)
    (hp : tmps.getD p undef = .pointer (some ⟨g, o, none⟩)) (hr : w.rangeAt g o cs) (hu : Tryz.prog.underlying ty = some d) (hd : d.isRow = true) (hi : (Tryz.prog.info? ty).map (·.size) = some cs.length) :
    (results fn tmps).run Tryz.prog w = .ok (.agg cs.toArray) w := by
  have hp' : tmps[p]?.getD undef = .pointer (some ⟨g, o, none⟩) := by simpa using hp
  simp [results, h, hp', asAddr, run_loadVar_mid w g o ty cs d hr hu hd hi]

theorem below_setCells {B b : Nat} : ∀ (vs : List Value) (o : Nat) {w0 w : World}, Below B w0 w → B ≤ b → Below B w0 (w.setCells b o vs)
  | [], _, _, _, h, _ => h
  | v :: r, o, _, _, h, hb => below_setCells r (o + 1) (h.setCell (p := ⟨b, o, none⟩) hb v) hb

theorem there_of_block {w : World} {b : Nat} {c : Array Value} {e : TypeId} (h : w.heap[b]? = some (.cells c e (0, 0))) (o n : Nat) (hn : o + n ≤ c.size) : w.there b o n := fun j hj =>
  ⟨by rw [cell_of_row _ _ _ _ _ _ h, Array.getElem?_eq_getElem (by omega)]; rfl, frozen_of_row _ _ _ _ _ h⟩

set_option maxRecDepth 100000 in
set_option maxHeartbeats 400000 in
theorem latest_any (B g o : Nat) (w : World) (v : Value) (s : Sec) (h : SecAt w B g o v s) :
    Calls Tryz.prog 47 #[.pointer (some ⟨g, o, none⟩)] w fun e w' => e = .returned (.agg (bv s.last).toArray) ∧ Below w.heap.size w w' := by
  have hz := zeroV
  have hl : (bv (s.pick s.wait.length)).length = 256 := by rw [bv_length]; exact Sec.pick_len h.ok _ (Nat.le_refl _)
  have hA := h.alloc (.cells zrow 90)
  have ht : ((w.alloc (.cells zrow 90)).alloc (.cells (bv (s.pick s.wait.length)).toArray 90)).there w.heap.size 0 (bv (s.pick s.wait.length)).toArray.size :=
    World.there_alloc (there_of_block (heap_alloc_last w _) 0 _ (by simp [hl, zrow_size])) _
  go_enter Tryz.func47, Tryz.ntmps47
  go_wp2_with fail
  refine (size_any B g o _ v s hA).mono ?_
  rintro e w' ⟨rfl, rfl⟩
  go_wp2_with fail
  refine (behind_any B g o _ v s hA s.wait.length (Nat.le_refl _)).mono ?_
  rintro e w' ⟨rfl, rfl⟩
  go_wp2_with (refine wpList_store_mid rfl 90 _ _ rfl w.heap.size 0 _ rfl rfl ht (sizeVa hl) (all_oneCell_toArray (bv_one _)) ?_)
  refine bodyPost_ret (v := .agg (bv s.last).toArray) ?_ rfl ⟨rfl, ?_⟩
  · exact results_cell_mid Tryz.results47 _ _ w.heap.size 0 _ _ rfl (World.rangeAt_setCells_same _ _ _ _ (by simpa using ht)) Tryz.underlying90 rfl (sizeV hl)
  · exact below_setCells _ _ (((Below.refl _ _).alloc (Nat.le_refl _) _).alloc (by simp) _) (Nat.le_refl _)

set_option maxRecDepth 100000 in
set_option maxHeartbeats 400000 in
theorem settle_any (B g o : Nat) (w : World) (v : Value) (s : Sec) (h : SecAt w B g o v s) (k : Nat) (hk : k ≤ s.wait.length) (ht : w.there g o 257) :
    Calls Tryz.prog 59 #[.pointer (some ⟨g, o, none⟩), .int .i64 k] w fun e w' => e = .returned (.tuple #[]) ∧
      w' = ((w.alloc (.cells (bv (s.pick k)).toArray 90)).setCells g (o + 1) (bv (s.pick k))).setCell ⟨g, o, none⟩ (.slice none 0 0) := by
  have hl : (bv (s.pick k)).length = 256 := by rw [bv_length]; exact Sec.pick_len h.ok _ hk
  have ht1 : (w.alloc (.cells (bv (s.pick k)).toArray 90)).there g (o + 1) (bv (s.pick k)).toArray.size := by
    refine World.there_alloc (fun j hj => ?_) _
    have := ht (1 + j) (by simp [hl] at hj; omega)
    rw [← Nat.add_assoc] at this
    exact this
  have hc : ((w.alloc (.cells (bv (s.pick k)).toArray 90)).setCells g (o + 1) (bv (s.pick k))).cell? ⟨g, o, none⟩ = some v := by
    rw [World.cell?_setCells_out _ _ _ _ _ (fun _ _ => .inl (by show o < o + 1; omega))]
    exact cell_alloc h.cell _
  have hf : ((w.alloc (.cells (bv (s.pick k)).toArray 90)).setCells g (o + 1) (bv (s.pick k))).frozen? ⟨g, o, none⟩ = false := by
    rw [World.frozen?_setCells, World.frozen?_alloc_past _ _ _ (World.block_lt_of_cell? w _ h.cell)]
    exact (ht 0 (by omega)).2
  go_enter Tryz.func59, Tryz.ntmps59
  go_wp2_with fail
  refine (behind_any B g o _ v s h k hk).mono ?_
  rintro e w' ⟨rfl, rfl⟩
  go_wp2_with (refine wpList_store_mid rfl 90 _ _ rfl g (o + 1) _ rfl rfl ht1 (sizeVa hl) (all_oneCell_toArray (bv_one _)) ?_)
  go_end0
  exact ⟨rfl, rfl⟩

end Go.Proofs.YtfggahkimconfaaGreatDoor

/- Contracts of move and Store over a disk as a plain value. -/
namespace Go.Proofs.YtfggahkimconfaaGreatDoor
open Go.RowKit
set_option linter.unusedVariables false

def Dk.can (D : Dk) : Bool := !(D.trip == 0) && !D.dark
def Dk.moved (D : Dk) : Dk :=
  if D.trip = 0 then { D with dark := true }
  else if D.dark = true then D
  else { D with moves := wrap64 (D.moves + 1), trip := if 0 < D.trip then D.trip - 1 else D.trip }
theorem Dk.moved_secs (D : Dk) : D.moved.secs = D.secs := by unfold Dk.moved; split; · rfl
                                                             split <;> rfl

theorem made_any (w : World) (B p g : Nat) (vs : Nat → Value) (D : Dk) (h : IsDisk w B p g vs D) :
    Calls Tryz.prog 46 #[.pointer (some ⟨p, 0, none⟩)] w fun e w' => e = .returned (.bool true) ∧ w' = w := by
  refine (made_at p w _ _ _ h.cells.1).mono ?_
  rintro e w' ⟨rfl, rfl⟩
  have := h.one
  exact ⟨by simp; omega, rfl⟩

theorem move_any (w : World) (B p g : Nat) (vs : Nat → Value) (D : Dk) (h : IsDisk w B p g vs D) :
    Calls Tryz.prog 63 #[.pointer (some ⟨p, 0, none⟩)] w fun e w' => e = .returned (.bool D.can) ∧ IsDisk w' B p g vs D.moved ∧ Fr B w w' ∧ ∀ k, k ≠ p → w'.heap[k]? = w.heap[k]? := by
  obtain ⟨c0, c1, c2, c3, cf⟩ := h.cells
  have lo := h.lo
  have hi := h.hi
  by_cases ht : D.trip = 0
  · rw [ht] at c2
    refine (move_trip p w D.dark c2 c3 (cf 3)).mono ?_
    rintro e w' ⟨rfl, rfl⟩
    refine ⟨by simp [Dk.can, ht], ?_, fr_setCell h.bp h.blk (.inl rfl), fun k hk => Below.heap_setCell _ _ _ _ hk⟩
    have e : D.moved = { D with dark := true } := by simp [Dk.moved, ht]
    rw [e]
    exact h.set 3 (.bool true) rfl lo hi rfl
  · have hb : (D.trip == 0) = false := by simpa using ht
    by_cases hd : D.dark = true
    · rw [hd] at c3
      refine (move_dark p w D.trip hb c2 c3).mono ?_
      rintro e w' ⟨rfl, rfl⟩
      have e : D.moved = D := by simp [Dk.moved, ht, hd]
      rw [e]
      exact ⟨by simp [Dk.can, hd], h, Fr.refl _ _, fun _ _ => rfl⟩
    · have hd' : D.dark = false := by simpa using hd
      rw [hd'] at c3
      have hcan : D.can = true := by simp [Dk.can, hb, hd']
      by_cases hp : 0 < D.trip
      · refine (move_down p w D.moves D.trip hp hi c1 c2 c3 (cf 1) (cf 2)).mono ?_
        rintro e w' ⟨rfl, rfl⟩
        have e : D.moved = { D with moves := wrap64 (D.moves + 1), trip := D.trip - 1 } := by simp [Dk.moved, ht, hd', hp]
        have h1 : IsDisk (w.setCell ⟨p, 2, none⟩ (.int .i64 (D.trip - 1))) B p g vs { D with trip := D.trip - 1 } := h.set 2 _ rfl (by show -1 ≤ D.trip - 1; omega) (by show D.trip - 1 ≤ _; omega) rfl
        have h2 := h1.set (D' := { D with moves := wrap64 (D.moves + 1), trip := D.trip - 1 }) 1 (.int .i64 (wrap64 (D.moves + 1))) rfl h1.lo h1.hi rfl
        rw [e, hcan]
        exact ⟨rfl, h2, (fr_setCell h.bp h.blk (.inl rfl)).trans (fr_setCell h1.bp h1.blk (.inl rfl)), fun k hk => (Below.heap_setCell _ _ _ _ hk).trans (Below.heap_setCell _ _ _ _ hk)⟩
      · refine (move_free p w D.moves D.trip (by omega) c1 c2 c3 (cf 1)).mono ?_
        rintro e w' ⟨rfl, rfl⟩
        have e : D.moved = { D with moves := wrap64 (D.moves + 1) } := by simp [Dk.moved, ht, hd', hp]
        have h2 := h.set (D' := { D with moves := wrap64 (D.moves + 1) }) 1 (.int .i64 (wrap64 (D.moves + 1))) rfl lo hi rfl
        rw [e, hcan]
        exact ⟨rfl, h2, fr_setCell h.bp h.blk (.inl rfl), fun k hk => Below.heap_setCell _ _ _ _ hk⟩

/-- A value behind the others of a sector's cache. -/
theorem IsDisk.added {w w1 : World} {B p g : Nat} {vs : Nat → Value} {D : Dk} (h : IsDisk w B p g vs D) (i : Nat) (s : Sec) (hi : D.secs[i]? = some s) (x : List UInt8) (hx : x.length = 256) (q cap : Nat)
    (hown : w1.ownsRow B 90 256 (.slice (some ⟨q, 0, none⟩) (s.wait.length + 1) cap) (s.wait.length + 1) (s.wait.flatMap bv ++ bv x)) (hg : w.grownBy w1 (vs i).ownBlock) (hat : (vs i).ownBlock = some q ∨ w.heap.size ≤ q) :
    IsDisk (w1.setCell ⟨g, i * 257, none⟩ (.slice (some ⟨q, 0, none⟩) (s.wait.length + 1) cap)) B p g (upd vs i (.slice (some ⟨q, 0, none⟩) (s.wait.length + 1) cap)) (D.put i (s.add x)) ∧
      Fr B w (w1.setCell ⟨g, i * 257, none⟩ (.slice (some ⟨q, 0, none⟩) (s.wait.length + 1) cap)) := by
  have hil := (List.getElem?_eq_some_iff.1 hi).1
  obtain ⟨lp, lg, lk⟩ := h.lt
  obtain ⟨k1, k2⟩ := h.kinds
  have hs := h.sec i s hi
  obtain ⟨cur, hcur, hcs⟩ := h.row
  have np : some p ≠ (vs i).ownBlock := fun e => (k2 i p hil e.symm).1 rfl
  have ng : some g ≠ (vs i).ownBlock := fun e => (k2 i g hil e.symm).2 rfl
  have hp1 := hg.block p lp np
  have hg1 := hg.block g lg ng
  have hcur1 := hg1.trans hcur
  have hqg : q ≠ g := by
    intro e; subst e
    rcases hown.2 with ⟨hv, _⟩ | ⟨q', cap', cur', hv, _, hq, _⟩
    · simp at hv
    · simp at hv; obtain ⟨rfl, _⟩ := hv
      have := hcur1.symm.trans hq; simp at this
  have hj : ∀ j k, j < D.secs.length → j ≠ i → (vs j).ownBlock = some k → some k ≠ (vs i).ownBlock := by
    intro j k hj hji hk e
    rcases h.apart j i hj hil hji with h0 | h0
    · rw [h0] at hk; cases hk
    · exact h0 (by rw [hk, e])
  have hset : ∀ k, k ≠ g → (w1.setCell ⟨g, i * 257, none⟩ (.slice (some ⟨q, 0, none⟩) (s.wait.length + 1) cap)).heap[k]? = w1.heap[k]? := fun k hk => Below.heap_setCell _ _ _ _ hk
  have hrow := heap_setCell_same w1 g (i * 257) cur _ (.slice (some ⟨q, 0, none⟩) (s.wait.length + 1) cap) hcur1
  have hcell : ∀ o, o ≠ i * 257 → (w1.setCell ⟨g, i * 257, none⟩ (.slice (some ⟨q, 0, none⟩) (s.wait.length + 1) cap)).cell? ⟨g, o, none⟩ = w.cell? ⟨g, o, none⟩ := by
    intro o ho
    rw [cell_of_row _ _ _ _ _ _ hrow, cell_of_row _ _ _ _ _ _ hcur, Array.getElem?_setIfInBounds, if_neg (Ne.symm ho)]
  refine ⟨h.sector i hil _ _ ?_ ?_ ?_ ?_ ?_ ?_ ?_, ⟨⟨?_, ?_, ?_, ?_, ?_⟩, ?_⟩⟩
  · rw [hset p k1]; exact hp1
  · simpa [World.setCell] using hg.size
  · exact ⟨_, hrow, by simpa using hcs⟩
  · intro o ho
    exact hcell o (by omega)
  · intro j k hjl hji hk
    rw [hset k (k2 j k hjl hk).2]
    exact hg.block k (lk j k hjl hk) (hj j k hjl hji hk)
  · intro j k hjl hji hk e
    have e : q = k := by simpa [Value.ownBlock] using e
    subst e
    rcases hat with hat | hat
    · exact hj j q hjl hji hk hat.symm
    · have := lk j q hjl hk; omega
  · refine ⟨Sec.ok_add hs.ok hx, ?_, ?_, ?_⟩
    · rw [cell_of_row _ _ _ _ _ _ hrow, Array.getElem?_setIfInBounds, if_pos rfl, if_pos (by omega)]
    · intro j u hu
      rw [hcell _ (by omega)]
      exact hs.sure j u hu
    · have e1 : (s.add x).wait.flatMap bv = s.wait.flatMap bv ++ bv x := by simp [Sec.add]
      have e2 : (s.add x).wait.length = s.wait.length + 1 := by simp [Sec.add]
      rw [e1, e2]
      refine own_of_block hown (fun k hk => hset k ?_)
      have : q = k := by simpa [Value.ownBlock] using hk
      omega
  · exact hg.os
  · exact hg.tape
  · exact hg.output
  · simpa [World.setCell] using hg.size
  · intro k hk
    have := h.bg
    rw [hset k (by omega)]
    have := h.bw
    refine hg.block k (by omega) (fun e => ?_)
    have := (hs.own.lt k e.symm).1
    omega
  · intro k c e f hk h1 h2 h3
    rw [hset k (fun e0 => by subst e0; have := hcur.symm.trans hk; simp at this; exact h3 this.2.1.symm)]
    refine hg.block k (lt_of_heap hk) (fun e0 => ?_)
    obtain ⟨c', hc'⟩ := hs.blk e0.symm
    have := hc'.symm.trans hk
    simp at this
    exact h2 this.2.1.symm

end Go.Proofs.YtfggahkimconfaaGreatDoor

/- The contract of Store. -/
namespace Go.Proofs.YtfggahkimconfaaGreatDoor
open Go.RowKit
set_option linter.unusedVariables false

set_option maxRecDepth 100000 in
set_option maxHeartbeats 400000 in
theorem Store_out (w : World) (B p g : Nat) (vs : Nat → Value) (D : Dk) (h : IsDisk w B p g vs D) (at_ : Int) (a : Option Addr) (m c : Nat) (hat : ¬ (0 ≤ at_ ∧ at_ < D.secs.length)) :
    Calls Tryz.prog 24 #[.pointer (some ⟨p, 0, none⟩), .int .i64 at_, .slice a m c] w fun e w' => e = .returned (.int .i64 2) ∧ w' = w := by
  have hd : decide (0 ≤ at_ ∧ at_ < (D.secs.length : Int)) = false := by simpa using hat
  go_enter Tryz.func24, Tryz.ntmps24
  go_wp2_with fail
  refine (made_any w B p g vs D h).mono ?_
  rintro e w' ⟨rfl, rfl⟩
  go_wp2_with fail
  refine (has_at p _ _ _ _ at_ h.cells.1).mono ?_
  rintro e w' ⟨rfl, rfl⟩
  go_wp2
  go_ret
  exact ⟨rfl, rfl⟩

set_option maxRecDepth 100000 in
set_option maxHeartbeats 400000 in
theorem Store_len (w : World) (B p g : Nat) (vs : Nat → Value) (D : Dk) (h : IsDisk w B p g vs D) (at_ : Int) (a : Option Addr) (m c : Nat) (hat : 0 ≤ at_ ∧ at_ < D.secs.length) (hm : m ≠ 256) :
    Calls Tryz.prog 24 #[.pointer (some ⟨p, 0, none⟩), .int .i64 at_, .slice a m c] w fun e w' => e = .returned (.int .i64 2) ∧ w' = w := by
  have hd : decide (0 ≤ at_ ∧ at_ < (D.secs.length : Int)) = true := by simpa using hat
  have hm' : ((m : Int) != 256) = true := by rw [bne_iff_ne]; omega
  go_enter Tryz.func24, Tryz.ntmps24
  go_wp2_with fail
  refine (made_any w B p g vs D h).mono ?_
  rintro e w' ⟨rfl, rfl⟩
  go_wp2_with fail
  refine (has_at p _ _ _ _ at_ h.cells.1).mono ?_
  rintro e w' ⟨rfl, rfl⟩
  go_wp2
  go_ret
  exact ⟨rfl, rfl⟩

set_option maxRecDepth 100000 in
set_option maxHeartbeats 400000 in
theorem Store_dark (w : World) (B p g : Nat) (vs : Nat → Value) (D : Dk) (h : IsDisk w B p g vs D) (at_ : Int) (a : Option Addr) (c : Nat) (hat : 0 ≤ at_ ∧ at_ < D.secs.length) (hc : D.can = false) :
    Calls Tryz.prog 24 #[.pointer (some ⟨p, 0, none⟩), .int .i64 at_, .slice a 256 c] w fun e w' => e = .returned (.int .i64 10) ∧ IsDisk w' B p g vs D.moved ∧ Fr B w w' := by
  have hd : decide (0 ≤ at_ ∧ at_ < (D.secs.length : Int)) = true := by simpa using hat
  go_enter Tryz.func24, Tryz.ntmps24
  go_wp2_with fail
  refine (made_any w B p g vs D h).mono ?_
  rintro e w' ⟨rfl, rfl⟩
  go_wp2_with fail
  refine (has_at p _ _ _ _ at_ h.cells.1).mono ?_
  rintro e w' ⟨rfl, rfl⟩
  go_wp2_with fail
  refine (move_any _ B p g vs D h).mono ?_
  rw [hc]
  rintro e w' ⟨rfl, h1, h2, _⟩
  go_wp2
  go_ret
  exact ⟨rfl, h1, h2⟩

set_option maxHeartbeats 400000 in
set_option maxRecDepth 100000 in
theorem Store_ok (w : World) (B p g : Nat) (vs : Nat → Value) (D : Dk) (h : IsDisk w B p g vs D) (i : Nat) (s : Sec) (hi : D.secs[i]? = some s) (ad : Addr) (c : Nat) (hc : D.can = true) (hn : s.wait.length ≤ 1000000)
    (x : List UInt8) (hx : x.length = 256) (hsrc : ∀ j u, (bv x)[j]? = some u → w.cell? (ad.add j) = some u) (hap : ad.block ≠ p) :
    Calls Tryz.prog 24 #[.pointer (some ⟨p, 0, none⟩), .int .i64 i, .slice (some ad) 256 c] w fun e w' => e = .returned (.int .i64 0) ∧ (∃ vs', IsDisk w' B p g vs' (D.moved.put i (s.add x))) ∧ Fr B w w' := by
  have hil := (List.getElem?_eq_some_iff.1 hi).1
  have hd : decide (0 ≤ (i : Int) ∧ (i : Int) < (D.secs.length : Int)) = true := by simp; omega
  have hmost := h.most
  go_enter Tryz.func24, Tryz.ntmps24
  go_wp2_with fail
  refine (made_any w B p g vs D h).mono ?_
  rintro e w' ⟨rfl, rfl⟩
  go_wp2_with fail
  refine (has_at p _ _ _ _ i h.cells.1).mono ?_
  rintro e w' ⟨rfl, rfl⟩
  go_wp2_with fail
  refine (move_any _ B p g vs D h).mono ?_
  rw [hc]
  rintro e w1 ⟨rfl, h1, f1, ho⟩
  have hi1 : D.moved.secs[i]? = some s := by rw [Dk.moved_secs]; exact hi
  have c0 := h1.cells.1
  rw [Dk.moved_secs] at c0
  have hs1 := h1.sec i s hi1
  obtain ⟨cur, hcur, hcs⟩ := h1.row
  have ng : some g ≠ (vs i).ownBlock := fun e => (h1.kinds.2 i g (by rw [Dk.moved_secs]; exact hil) e.symm).2 rfl
  have hsrc1 : ∀ j u, (bv x)[j]? = some u → w1.cell? (ad.add j) = some u := fun j u hu => by
    have hb : (ad.add j).block = ad.block := by unfold Addr.add; split <;> rfl
    rw [World.cell?_of_block (w := w') (ho _ (by rw [hb]; exact hap))]
    exact hsrc j u hu
  have hadd := add_at g (i * 257) B w1 (vs i) s.wait.length (s.wait.flatMap bv) hs1.cell (frozen_of_row _ _ _ _ _ hcur) ng hs1.own h1.bw hn ad c (bv x) (by rw [bv_length]; exact hx) (bv_one _) hsrc1
  have H := fun q cap w3 hown hg hw => h1.added i s hi1 x hx q cap (w1 := w3) hown hg hw
  have HH := hide hadd
  have H2 := hide H
  clear hadd H hsrc1 ng hcs hcur hs1 hi1 ho hsrc hx hap hi
  go_wp2_with fail
  refine (unhide HH).mono ?_
  rintro e w2 ⟨rfl, q, cap, w3, hown, hg, hw, rfl⟩
  obtain ⟨r1, r2⟩ := (unhide H2) q cap w3 hown hg hw
  go_wp2
  go_ret
  exact ⟨rfl, ⟨_, r1⟩, f1.trans r2⟩

end Go.Proofs.YtfggahkimconfaaGreatDoor

/- The contracts of Make and of. -/
namespace Go.Proofs.YtfggahkimconfaaGreatDoor
open Go.RowKit
set_option linter.unusedVariables false

def nought : List UInt8 := List.replicate 256 0
theorem nought_len : nought.length = 256 := List.length_replicate
def zsec : Array Value := #[Value.slice none 0 0] ++ Array.replicate 256 (Value.int .u8 0)
theorem zsec_size : zsec.size = 257 := by simp [zsec]
theorem infoS : (Tryz.prog.info? 95).map (fun i => (i.zero, i.size, i.bytes)) = some (some (.agg zsec), 257, 280) := by kernel_rfl
def srows (n : Nat) : Array Value := madeCells zsec (n * 257)
theorem srows_size (n : Nat) : (srows n).size = n * 257 := size_madeCells _ _
theorem srows_at (n i j : Nat) (hi : i < n) (hj : j < 257) : (srows n)[i * 257 + j]? = zsec[j]? := by
  unfold srows madeCells
  have hlt : i * 257 + j < n * 257 := by omega
  have hm : (i * 257 + j) % 257 = j := by omega
  rw [Array.getElem?_map, Array.getElem?_range, if_pos hlt, zsec_size]
  simp only [Option.map_some, hm]
  rw [getElem!_pos zsec j (by rw [zsec_size]; exact hj), Array.getElem?_eq_getElem]

def Dk.fresh (n : Nat) : Dk := ⟨List.replicate n ⟨nought, []⟩, 0, -1, false⟩

theorem makeS (n : Nat) (hn : n ≤ 4096) (w : World) : (Instr.makeSlice 62 (.int .i64 n) (.int .i64 n)).run Tryz.prog w = .ok (.slice (some ⟨w.heap.size, 0, none⟩) n n) (w.alloc (.cells (srows n) 95)) := by
  obtain ⟨i0, hi, hz0, hz1, hz2⟩ := info_parts infoS
  have := run_make (P := Tryz.prog) w 62 95 i0 (.agg zsec) Tryz.underlying62 hi hz0 .i64 .i64 n n (by omega) (by omega) (by rw [hz2]; omega) (by omega)
  rw [this, hz1]
  rfl

theorem zsec_zero : zsec[0]? = some (Value.slice none 0 0) := by
  unfold zsec
  rw [Array.getElem?_append_left (by simp)]
  rfl
theorem zsec_succ (j : Nat) (hj : j < 256) : zsec[j + 1]? = some (Value.int .u8 0) := by
  unfold zsec
  rw [Array.getElem?_append_right (by simp)]
  simp only [List.size_toArray, List.length_cons, List.length_nil, Nat.zero_add, Nat.add_sub_cancel]
  rw [Array.getElem?_replicate, if_pos hj]
theorem bv_nought (j : Nat) (u : Value) (h : (bv nought)[j]? = some u) : j < 256 ∧ u = Value.int .u8 0 := by
  have hj : j < 256 := by have := (List.getElem?_eq_some_iff.1 h).1; rw [bv_length, nought_len] at this; exact this
  refine ⟨hj, ?_⟩
  unfold bv nought at h
  rw [List.map_replicate, List.getElem?_replicate, if_pos hj] at h
  exact (Option.some.inj h).symm
theorem nought_ok : Sec.ok ⟨nought, []⟩ := ⟨nought_len, fun x hx => by cases hx⟩

theorem fresh_is (w : World) (n : Nat) (h1 : 1 ≤ n) (h2 : n ≤ 4096) (B : Nat) (hB : B ≤ w.heap.size) :
    IsDisk ((w.alloc (.cells (srows n) 95)).alloc (.cells #[.slice (some ⟨w.heap.size, 0, none⟩) n n, .int .i64 0, .int .i64 (-1), .bool false] 64)) B (w.heap.size + 1) w.heap.size (fun _ => .slice none 0 0) (Dk.fresh n) := by
  have hg : ((w.alloc (.cells (srows n) 95)).alloc (.cells #[.slice (some ⟨w.heap.size, 0, none⟩) n n, .int .i64 0, .int .i64 (-1), .bool false] 64)).heap[w.heap.size]? = some (.cells (srows n) 95 (0, 0)) := heap_alloc2_old w _ _
  refine ⟨?_, ⟨_, hg, ?_⟩, by omega, hB, ?_, ?_, ?_, ?_, ?_, ?_, ?_⟩
  · have := heap_alloc2_new w (.cells (srows n) 95) (.cells #[.slice (some ⟨w.heap.size, 0, none⟩) n n, .int .i64 0, .int .i64 (-1), .bool false] 64)
    simpa [Dk.fresh] using this
  · rw [srows_size]; simp [Dk.fresh]
  · simp; omega
  · intro i s hi
    have hin : i < n := by have := (List.getElem?_eq_some_iff.1 hi).1; simpa [Dk.fresh] using this
    have hs : s = ⟨nought, []⟩ := by
      simp only [Dk.fresh] at hi
      rw [List.getElem?_replicate, if_pos hin] at hi
      exact (Option.some.inj hi).symm
    subst hs
    refine ⟨nought_ok, ?_, ?_, World.ownsRow_nil _ _ _ _⟩
    · rw [cell_of_row _ _ _ _ _ _ hg]
      have := srows_at n i 0 hin (by omega)
      rw [Nat.add_zero] at this
      rw [this]; exact zsec_zero
    · intro j u hu
      obtain ⟨hj, rfl⟩ := bv_nought j u hu
      rw [cell_of_row _ _ _ _ _ _ hg, Nat.add_assoc, Nat.add_comm 1 j, srows_at n i (j + 1) hin (by omega)]
      exact zsec_succ j hj
  · intro i j _ _ _; exact .inl rfl
  · simpa [Dk.fresh] using h1
  · simpa [Dk.fresh] using h2
  · simp [Dk.fresh]
  · simp [Dk.fresh]

set_option maxRecDepth 100000 in
set_option maxHeartbeats 400000 in
theorem Make_ok (n : Nat) (w : World) (h1 : 1 ≤ n) (h2 : n ≤ 4096) :
    Calls Tryz.prog 5 #[.int .i64 n] w fun e w' => e = .returned (.tuple #[.pointer (some ⟨w.heap.size + 1, 0, none⟩), .int .i64 0]) ∧
      IsDisk w' w.heap.size (w.heap.size + 1) w.heap.size (fun _ => .slice none 0 0) (Dk.fresh n) ∧ Below w.heap.size w w' := by
  have hmk := makeS n h2
  have hf := fresh_is w n h1 h2 w.heap.size (Nat.le_refl _)
  have HF := hide hf
  clear hf
  go_enter Tryz.func5, Tryz.ntmps5
  go_wp2
  go_ret2
  exact ⟨rfl, unhide HF, ((Below.refl _ _).alloc (Nat.le_refl _) _).alloc (by simp) _⟩

set_option maxRecDepth 100000 in
set_option maxHeartbeats 400000 in
theorem Make_bad (n : Int) (w : World) (h : n < 1 ∨ 4096 < n) :
    Calls Tryz.prog 5 #[.int .i64 n] w fun e w' => e = .returned (.tuple #[.pointer none, .int .i64 2]) ∧ w' = w := by
  rcases h with h | h
  · go_enter Tryz.func5, Tryz.ntmps5
    go_wp2
    go_ret2
    exact ⟨rfl, rfl⟩
  · have h0 : decide (n < 1) = false := by simp; omega
    go_enter Tryz.func5, Tryz.ntmps5
    go_wp2
    go_ret2
    exact ⟨rfl, rfl⟩

/-! of: a sector of one byte. -/
def orow (c : UInt8) (k : Nat) : Array Value := (List.replicate k (Value.int .u8 (c.toNat : Int)) ++ List.replicate (256 - k) (Value.int .u8 0)).toArray
theorem orow_size (c : UInt8) (k : Nat) (hk : k ≤ 256) : (orow c k).size = 256 := by simp only [orow, List.size_toArray, List.length_append, List.length_replicate]; omega
theorem orow_get (c : UInt8) (k : Nat) (hk : k < 256) : (orow c k)[k]? = some (Value.int .u8 0) := by
  simp only [orow, List.getElem?_toArray]
  rw [List.getElem?_append_right (by simp), List.length_replicate, Nat.sub_self, List.getElem?_replicate, if_pos (by omega)]
theorem orow_set (c : UInt8) (k : Nat) (hk : k < 256) : (orow c k).setIfInBounds k (Value.int .u8 (c.toNat : Int)) = orow c (k + 1) := by
  unfold orow
  rw [List.setIfInBounds_toArray, List.set_append_right _ _ (by simp), List.length_replicate, Nat.sub_self, show 256 - k = (256 - (k + 1)) + 1 by omega, List.replicate_succ, List.set_cons_zero]
  rw [List.replicate_succ' (n := k)]
  simp
def allOf (c : UInt8) : List UInt8 := List.replicate 256 c
theorem allOf_len (c : UInt8) : (allOf c).length = 256 := List.length_replicate
theorem orow_full (c : UInt8) : orow c 256 = (bv (allOf c)).toArray := by
  unfold orow bv allOf
  rw [List.map_replicate, Nat.sub_self, List.replicate_zero, List.append_nil]
theorem makeB (w : World) (c : UInt8) : (Instr.makeSlice 43 (.int .i64 256) (.int .i64 256)).run Tryz.prog w = .ok (.slice (some ⟨w.heap.size, 0, none⟩) 256 256) (w.alloc (.cells (orow c 0) 5)) := by
  obtain ⟨i0, hi, hz0, hz1, hz2⟩ := info_parts infoB
  have := run_make (P := Tryz.prog) w 43 5 i0 (.int .u8 0) Tryz.underlying43 hi hz0 .i64 .i64 256 256 (by omega) (by omega) (by rw [hz2]; omega) (by omega)
  rw [this, hz1]
  have e : madeCells (Value.int .u8 0).cells (Int.toNat 256 * 1) = orow c 0 := by
    apply Array.toList_inj.1
    show (madeCells #[Value.int .u8 0] 256).toList = _
    rw [toList_madeCells_one]
    simp only [orow, List.replicate_zero, List.nil_append, Nat.sub_zero]
  rw [e]
  rfl

set_option maxHeartbeats 400000 in
set_option maxRecDepth 100000 in
theorem of_any (c : UInt8) (w : World) :
    Calls Tryz.prog 25 #[.int .u8 (c.toNat : Int)] w fun e w' => e = .returned (.slice (some ⟨w.heap.size, 0, none⟩) 256 256) ∧ w' = w.alloc (.cells (bv (allOf c)).toArray 5) := by
  have hmk := makeB w c
  go_enter Tryz.func25, Tryz.ntmps25
  go_wp2
  go_loopw [4] (fun i wr => ∃ k : Nat, k ≤ 256 ∧ i = .int .i64 k ∧ wr = w.alloc (.cells (orow c k) 5)) (fun i _ => 256 - (intOf i).toNat)
  case atStart => exact ⟨0, by omega, rfl, rfl⟩
  case round =>
    obtain ⟨k, hk, rfl, rfl⟩ := hrel
    by_cases hlt : k < 256
    · have hg := orow_get c k hlt
      have hs := orow_set c k hlt
      go_wp2
      go_roundw
      case rel => exact ⟨k + 1, by omega, by go_num, rfl⟩
      case measure => simp [intOf]; omega
    · have hk' : k = 256 := by omega
      subst hk'
      go_wp2
      go_ret
      exact ⟨rfl, by rw [orow_full]⟩

end Go.Proofs.YtfggahkimconfaaGreatDoor

/- The contracts of Fetch, Moves, Count, Trip. -/
namespace Go.Proofs.YtfggahkimconfaaGreatDoor
open Go.RowKit
set_option linter.unusedVariables false

theorem IsDisk.get {w : World} {B p g : Nat} {vs : Nat → Value} {D : Dk} (h : IsDisk w B p g vs D) (i : Nat) (hi : i < D.secs.length) : SecAt w B g (i * 257) (vs i) D.secs[i] := h.sec i _ (List.getElem?_eq_getElem hi)

set_option maxHeartbeats 400000 in
set_option maxRecDepth 100000 in
theorem Fetch_ok (w : World) (B p g : Nat) (vs : Nat → Value) (D : Dk) (h : IsDisk w B p g vs D) (i : Nat) (s : Sec) (hi : D.secs[i]? = some s) (hd : D.dark = false) :
    Calls Tryz.prog 72 #[.pointer (some ⟨p, 0, none⟩), .int .i64 i] w fun e w' => ∃ q, e = .returned (.tuple #[.slice (some ⟨q, 0, none⟩) 256 256, .int .i64 0]) ∧ w.heap.size ≤ q ∧
      w'.heap[q]? = some (.cells (bv s.last).toArray 90 (0, 0)) ∧ Below w.heap.size w w' := by
  have hil := (List.getElem?_eq_some_iff.1 hi).1
  have hdd : decide (0 ≤ (i : Int) ∧ (i : Int) < (D.secs.length : Int)) = true := by simp; omega
  have hmost := h.most
  have hz := zeroV
  have hs := h.sec i s hi
  have hl : (bv s.last).length = 256 := by rw [bv_length]; exact Sec.pick_len hs.ok _ (Nat.le_refl _)
  obtain ⟨c0, _, _, c3, _⟩ := h.cells
  rw [hd] at c3
  have HH := hide (made_any w B p g vs D h)
  have H2 := hide (has_at p w _ _ _ i h.cells.1)
  have H3 := hide (latest_any B g (i * 257) w (vs i) s hs)
  clear hs hi
  go_enter Tryz.func72, Tryz.ntmps72
  go_wp2_with fail
  refine (unhide HH).mono ?_
  rintro e w' ⟨rfl, rfl⟩
  go_wp2_with fail
  refine (unhide H2).mono ?_
  rintro e w' ⟨rfl, rfl⟩
  go_wp2_with fail
  refine (unhide H3).mono ?_
  rintro e w1 ⟨rfl, hb⟩
  have hst := storeV w1 (bv s.last) hl (bv_one _)
  go_wp2
  go_ret2
  exact ⟨w1.heap.size, rfl, hb.size, heap_alloc_last _ _, hb.alloc hb.size _⟩

set_option maxRecDepth 100000 in
set_option maxHeartbeats 400000 in
theorem Fetch_out (w : World) (B p g : Nat) (vs : Nat → Value) (D : Dk) (h : IsDisk w B p g vs D) (at_ : Int) (hat : ¬ (0 ≤ at_ ∧ at_ < D.secs.length)) :
    Calls Tryz.prog 72 #[.pointer (some ⟨p, 0, none⟩), .int .i64 at_] w fun e w' => e = .returned (.tuple #[.slice none 0 0, .int .i64 2]) ∧ w' = w := by
  have hd : decide (0 ≤ at_ ∧ at_ < (D.secs.length : Int)) = false := by simpa using hat
  go_enter Tryz.func72, Tryz.ntmps72
  go_wp2_with fail
  refine (made_any w B p g vs D h).mono ?_
  rintro e w' ⟨rfl, rfl⟩
  go_wp2_with fail
  refine (has_at p _ _ _ _ at_ h.cells.1).mono ?_
  rintro e w' ⟨rfl, rfl⟩
  go_wp2
  go_ret2
  exact ⟨rfl, rfl⟩

set_option maxRecDepth 100000 in
set_option maxHeartbeats 400000 in
theorem Fetch_dark (w : World) (B p g : Nat) (vs : Nat → Value) (D : Dk) (h : IsDisk w B p g vs D) (at_ : Int) (hat : 0 ≤ at_ ∧ at_ < D.secs.length) (hdk : D.dark = true) :
    Calls Tryz.prog 72 #[.pointer (some ⟨p, 0, none⟩), .int .i64 at_] w fun e w' => e = .returned (.tuple #[.slice none 0 0, .int .i64 10]) ∧ w' = w := by
  have hd : decide (0 ≤ at_ ∧ at_ < (D.secs.length : Int)) = true := by simpa using hat
  obtain ⟨c0, _, _, c3, _⟩ := h.cells
  rw [hdk] at c3
  go_enter Tryz.func72, Tryz.ntmps72
  go_wp2_with fail
  refine (made_any w B p g vs D h).mono ?_
  rintro e w' ⟨rfl, rfl⟩
  go_wp2_with fail
  refine (has_at p _ _ _ _ at_ h.cells.1).mono ?_
  rintro e w' ⟨rfl, rfl⟩
  go_wp2
  go_ret2
  exact ⟨rfl, rfl⟩

set_option maxRecDepth 100000 in
set_option maxHeartbeats 400000 in
theorem Count_any (w : World) (B p g : Nat) (vs : Nat → Value) (D : Dk) (h : IsDisk w B p g vs D) :
    Calls Tryz.prog 69 #[.pointer (some ⟨p, 0, none⟩)] w fun e w' => e = .returned (.int .i64 D.secs.length) ∧ w' = w := by
  have c0 := h.cells.1
  go_enter Tryz.func69, Tryz.ntmps69
  go_wp2_with fail
  refine (made_any w B p g vs D h).mono ?_
  rintro e w' ⟨rfl, rfl⟩
  go_wp2
  go_ret
  exact ⟨rfl, rfl⟩

set_option maxRecDepth 100000 in
set_option maxHeartbeats 400000 in
theorem Trip_any (w : World) (B p g : Nat) (vs : Nat → Value) (D : Dk) (hD : IsDisk w B p g vs D) (n : Int) (hn : n ≤ 9223372036854775807) :
    Calls Tryz.prog 20 #[.pointer (some ⟨p, 0, none⟩), .int .i64 n] w fun e w' => e = .returned (.int .i64 0) ∧ IsDisk w' B p g vs { D with trip := max n (-1) } ∧ Fr B w w' := by
  obtain ⟨_, _, c2, _, cf⟩ := hD.cells
  have cf2 := cf 2
  clear cf
  go_enter Tryz.func20, Tryz.ntmps20
  go_wp2_with fail
  refine (made_any w B p g vs D hD).mono ?_
  rintro e w' ⟨rfl, rfl⟩
  go_wp2
  · have hlt : n < -1 := by assumption
    have hm : max n (-1) = -1 := by omega
    go_ret
    refine ⟨rfl, ?_, fr_setCell hD.bp hD.blk (.inl rfl)⟩
    rw [hm]
    exact hD.set 2 _ rfl (by show (-1 : Int) ≤ -1; omega) (by show (-1 : Int) ≤ _; omega) rfl
  · have hle : -1 ≤ n := by assumption
    have hm : max n (-1) = n := by omega
    go_ret
    refine ⟨rfl, ?_, fr_setCell hD.bp hD.blk (.inl rfl)⟩
    rw [hm]
    exact hD.set 2 _ rfl hle hn rfl

end Go.Proofs.YtfggahkimconfaaGreatDoor

/- The contracts of Cached and Dump. -/
namespace Go.Proofs.YtfggahkimconfaaGreatDoor
open Go.RowKit
set_option linter.unusedVariables false

def waits (D : Dk) (i : Nat) : Bool := match D.secs[i]? with
  | some s => decide (0 < s.wait.length)
  | none => false
def cachedTo (D : Dk) (k : Nat) : List Nat := (List.range k).filter (waits D)
def Dk.cached (D : Dk) : List Nat := cachedTo D D.secs.length
def ints (l : List Nat) : List Value := l.map fun (i : Nat) => Value.int .i64 (i : Int)
theorem ints_length (l : List Nat) : (ints l).length = l.length := by simp [ints]
theorem cachedTo_le (D : Dk) (k : Nat) : (cachedTo D k).length ≤ k := by
  have := List.length_filter_le (waits D) (List.range k)
  simpa [cachedTo] using this
theorem cachedTo_yes (D : Dk) (k : Nat) (h : waits D k = true) : cachedTo D (k + 1) = cachedTo D k ++ [k] := by
  unfold cachedTo; rw [List.range_succ, List.filter_append]; simp [h]
theorem cachedTo_no (D : Dk) (k : Nat) (h : waits D k = false) : cachedTo D (k + 1) = cachedTo D k := by
  unfold cachedTo; rw [List.range_succ, List.filter_append]; simp [h]
theorem infoI : (Tryz.prog.info? 3).map (fun i => (i.zero, i.size, i.bytes)) = some (some (.int .i64 0), 1, 8) := by kernel_rfl

/-- What is known behind k rounds of Cached. -/
structure CRel (w : World) (D : Dk) (v : Value) (k : Nat) (wr : World) : Prop where
  own : wr.ownsRow w.heap.size 3 1 v (cachedTo D k).length (ints (cachedTo D k))
  below : Below w.heap.size w wr

theorem CRel.start (w : World) (D : Dk) : CRel w D (.slice none 0 0) 0 w := ⟨World.ownsRow_nil _ _ _ _, Below.refl _ _⟩

theorem CRel.no {w wr : World} {D : Dk} {v : Value} {k : Nat} (h : CRel w D v k wr) (hw : waits D k = false) : CRel w D v (k + 1) wr := by
  refine ⟨?_, h.below⟩
  rw [cachedTo_no D k hw]; exact h.own

theorem CRel.yes {w wr w1 : World} {D : Dk} {v v' : Value} {k : Nat} (h : CRel w D v k wr) (hw : waits D k = true) {ob : Obj}
    (hown : w1.ownsRow w.heap.size 3 1 v' ((cachedTo D k).length + 1) (ints (cachedTo D k) ++ [Value.int .i64 (k : Int)])) (hg : (wr.alloc ob).grownBy w1 v.ownBlock) : CRel w D v' (k + 1) w1 := by
  refine ⟨?_, ?_⟩
  · rw [cachedTo_yes D k hw]
    simpa [ints] using hown
  · have hs := h.below.size
    refine (h.below.alloc hs ob).grown hg (by simp; omega) ?_
    intro j hj
    exact (h.own.lt j hj).1

set_option maxHeartbeats 800000 in
set_option maxRecDepth 100000 in
theorem Cached_any (w : World) (B p g : Nat) (vs : Nat → Value) (D : Dk) (hD : IsDisk w B p g vs D) :
    Calls Tryz.prog 58 #[.pointer (some ⟨p, 0, none⟩)] w fun e w' => ∃ v, e = .returned v ∧ w'.ownsRow w.heap.size 3 1 v D.cached.length (ints D.cached) ∧ Below w.heap.size w w' := by
  have hmost := hD.most
  have c0 := hD.cells.1
  obtain ⟨i0, hi, hz0, hz1, hz2⟩ := info_parts infoI
  have H1 := hide (made_any w B p g vs D hD)
  go_enter Tryz.func58, Tryz.ntmps58
  go_wp2_with fail
  refine (unhide H1).mono ?_
  rintro e w' ⟨rfl, rfl⟩
  clear H1
  go_wp2
  go_loopw [3, 13] (fun v i wr => ∃ k : Nat, k ≤ D.secs.length ∧ i = .int .i64 k ∧ CRel w' D v k wr) (fun _ i _ => D.secs.length - (intOf i).toNat)
  case atStart => exact ⟨0, Nat.zero_le _, rfl, CRel.start _ _⟩
  case round =>
    obtain ⟨k, hk, rfl, hR⟩ := hrel
    by_cases hlt : k < D.secs.length
    · have hDr := hD.below hR.below
      have cr := hDr.cells.1
      have H1 := hide (size_any B g (k * 257) _ (vs k) _ (hDr.get k hlt))
      have hle := cachedTo_le D k
      by_cases hw : 0 < D.secs[k].wait.length
      · have hww : waits D k = true := by simp [waits, List.getElem?_eq_getElem hlt, hw]
        have HY := hide hww
        have HD := hide hDr
        clear hDr hww
        go_wp2_with fail
        refine (unhide H1).mono ?_
        rintro e w1 ⟨rfl, rfl⟩
        go_wp2_with (at_builtin; refine wpList_append_own _ rfl (.tmp 25) (.tmp 27) 39 rfl w'.heap.size 3 i0 (.int .i64 0) 1 8 Tryz.underlying39 hi hz0 hz1 hz2 rfl (by decide) _ _ _ rfl (hR.own.alloc _) ⟨_, 0, none⟩ 1 1 [.int .i64 k] rfl rfl ?c1 ?c2 ?c3 ?c4 ?c5 ?_)
        case c1 => exact cell_one_new _ _ _
        case c2 => intro u hu; simp at hu; subst hu; rfl
        case c3 => unfold maxLen; omega
        case c4 => omega
        case c5 => have := hR.below.size; simp; omega
        · intro v' w2 hown' hgrow _
          have R := hR.yes (unhide HY) hown' hgrow
          clear hown' hgrow hR cr H1 HD
          go_wp2
          go_roundw
          case rel => exact ⟨k + 1, by omega, by go_num, R⟩
          case measure => simp [intOf]; omega
      · have hww : waits D k = false := by unfold waits; rw [List.getElem?_eq_getElem hlt]; simp only [decide_eq_false_iff_not]; exact hw
        have R := hR.no hww
        have hw0 : D.secs[k].wait.length = 0 := by omega
        clear hww
        go_wp2_with fail
        refine (unhide H1).mono ?_
        rw [hw0]
        rintro e w1 ⟨rfl, rfl⟩
        clear hw0 hw
        go_wp2
        go_roundw
        case rel => exact ⟨k + 1, by omega, by go_num, R⟩
        case measure => simp [intOf]; omega
    · have hk' : k = D.secs.length := by omega
      subst hk'
      go_wp2
      go_ret
      exact ⟨_, rfl, hR.own, hR.below⟩

def Dk.dumpTo (D : Dk) (k : Nat) : List UInt8 := (D.secs.take k).flatMap Sec.last
def Dk.dump (D : Dk) : List UInt8 := D.secs.flatMap Sec.last
theorem dumpTo_succ (D : Dk) (k : Nat) (h : k < D.secs.length) : D.dumpTo (k + 1) = D.dumpTo k ++ D.secs[k].last := by
  unfold Dk.dumpTo; rw [List.take_succ_eq_append_getElem h, List.flatMap_append]; simp
theorem dumpTo_all (D : Dk) : D.dumpTo D.secs.length = D.dump := by unfold Dk.dumpTo Dk.dump; rw [List.take_length]
/-- What is known behind k rounds of Dump. -/
structure DRel (w : World) (D : Dk) (v : Value) (k : Nat) (wr : World) : Prop where
  len : (D.dumpTo k).length = k * 256
  own : wr.ownsRow w.heap.size 5 1 v (k * 256) (bv (D.dumpTo k))
  below : Below w.heap.size w wr

theorem DRel.next {w wr w1 w2 w3 : World} {D : Dk} {v v' : Value} {k : Nat} (h : DRel w D v k wr) (hk : k < D.secs.length) (hl : D.secs[k].last.length = 256) (hb : Below wr.heap.size wr w1) {ob : Obj} (hw2 : w2 = w1.alloc ob)
    (hown : w3.ownsRow w.heap.size 5 1 v' (k * 256 + 256) (bv (D.dumpTo k) ++ bv D.secs[k].last)) (hg : w2.grownBy w3 v.ownBlock) : DRel w D v' (k + 1) w3 := by
  subst hw2
  have hs := h.below.size
  have hs1 := hb.size
  refine ⟨?_, ?_, ?_⟩
  · rw [dumpTo_succ D k hk, List.length_append, h.len, hl]; omega
  · rw [dumpTo_succ D k hk, bv_append]
    have e : (k + 1) * 256 = k * 256 + 256 := by omega
    rw [e]; exact hown
  · refine ((h.below.trans (hb.mono hs)).alloc (by omega) ob).grown hg (by simp; omega) ?_
    intro j hj
    exact (h.own.lt j hj).1

set_option maxHeartbeats 800000 in
set_option maxRecDepth 100000 in
theorem Dump_any (w : World) (B p g : Nat) (vs : Nat → Value) (D : Dk) (hD : IsDisk w B p g vs D) :
    Calls Tryz.prog 12 #[.pointer (some ⟨p, 0, none⟩)] w fun e w' => ∃ v, e = .returned v ∧ D.dump.length = D.secs.length * 256 ∧ w'.ownsRow w.heap.size 5 1 v (D.secs.length * 256) (bv D.dump) ∧ Below w.heap.size w w' := by
  have hmost := hD.most
  have c0 := hD.cells.1
  have hz := zeroV
  obtain ⟨i0, hi, hz0, hz1, hz2⟩ := info_parts infoB
  have H1 := hide (made_any w B p g vs D hD)
  go_enter Tryz.func12, Tryz.ntmps12
  go_wp2_with fail
  refine (unhide H1).mono ?_
  rintro e w' ⟨rfl, rfl⟩
  clear H1
  go_wp2_with (at_make; refine wpList_make_own _ rfl (.const (.int .i64 0)) (.tmp 14) 43 rfl w'.heap.size 5 i0 (.int .u8 0) 1 Tryz.underlying43 hi hz0 hz1 .i64 .i64 _ (D.secs.length * 256) rfl rfl ?_ ?_ ?_ ?_ ?_)
  · omega
  · rw [hz2]; omega
  · unfold maxLen; omega
  · exact Nat.le_refl _
  intro w1 hown1 hgrow1
  have hR0 : DRel w' D (.slice (some ⟨w'.heap.size, 0, none⟩) 0 (D.secs.length * 256)) 0 w1 :=
    ⟨by simp [Dk.dumpTo], hown1, (Below.refl _ _).grown hgrow1 (Nat.le_refl _) (fun k h => by cases h)⟩
  have c1 := (hD.below hR0.below).cells.1
  clear hown1 hgrow1
  go_wp2
  go_loopw [3, 21] (fun v i wr => ∃ k : Nat, k ≤ D.secs.length ∧ i = .int .i64 k ∧ DRel w' D v k wr) (fun _ i _ => D.secs.length - (intOf i).toNat)
  case atStart => exact ⟨0, Nat.zero_le _, rfl, hR0⟩
  case round =>
    clear hR0 c1
    obtain ⟨k, hk, rfl, hR⟩ := hrel
    by_cases hlt : k < D.secs.length
    · have hDr := hD.below hR.below
      have cr := hDr.cells.1
      have hsec := hDr.get k hlt
      have hl8 : D.secs[k].last.length = 256 := Sec.pick_len hsec.ok _ (Nat.le_refl _)
      have hl : (bv D.secs[k].last).length = 256 := by rw [bv_length]; exact hl8
      have H1 := hide (latest_any B g (k * 257) _ (vs k) _ hsec)
      have HL := hide hl8
      clear hDr hsec hl8
      go_wp2_with fail
      refine (unhide H1).mono ?_
      rintro e w2 ⟨rfl, hb⟩
      have hst := storeV w2 (bv D.secs[k].last) hl (bv_one _)
      have hrs := hR.below.size
      have hbs := hb.size
      have hown2 : (w2.alloc (.cells (bv D.secs[k].last).toArray 90)).ownsRow w'.heap.size 5 1 _ (k * 256) (bv (D.dumpTo k)) := (own_of_block hR.own (fun j hj => hb.block j (hR.own.lt j hj).2)).alloc _
      go_wp2_with (at_builtin; refine wpList_append_own _ rfl (.tmp 31) (.tmp 32) 43 rfl w'.heap.size 5 i0 (.int .u8 0) 1 1 Tryz.underlying43 hi hz0 hz1 hz2 rfl (by decide) _ _ _ rfl hown2 ⟨w2.heap.size, 0, none⟩ 256 256 (bv D.secs[k].last) rfl ?c0 ?c1 ?c2 ?c3 ?c4 ?c5 ?_)
      case c0 => rw [hl]
      case c1 => exact World.news_of_block (heap_alloc_last _ _)
      case c2 => exact bv_one _
      case c3 => unfold maxLen; omega
      case c4 => omega
      case c5 => simp; omega
      · intro v' w3 hown' hgrow _
        have R := hR.next hlt (unhide HL) hb rfl hown' hgrow
        clear hown' hgrow hR cr H1 HL hown2 hst hb
        go_wp2
        go_roundw
        case rel => exact ⟨k + 1, by omega, by go_num, R⟩
        case measure => simp [intOf]; omega
    · have hk' : k = D.secs.length := by omega
      subst hk'
      have hlen := hR.len
      have hown := hR.own
      rw [dumpTo_all] at hlen hown
      have HL := hide hlen
      clear hlen
      go_wp2
      go_ret
      exact ⟨_, rfl, unhide HL, hown, hR.below⟩

end Go.Proofs.YtfggahkimconfaaGreatDoor

/- What a settle does to a disk, and what a loop of them comes to. -/
namespace Go.Proofs.YtfggahkimconfaaGreatDoor
open Go.RowKit
set_option linter.unusedVariables false

theorem heap_setCells (b : Nat) (e : TypeId) : ∀ (vs : List Value) (o : Nat) (w : World) (cur : Array Value), w.heap[b]? = some (.cells cur e (0, 0)) → ∃ cur', (w.setCells b o vs).heap[b]? = some (.cells cur' e (0, 0)) ∧ cur'.size = cur.size
  | [], _, _, cur, h => ⟨cur, h, rfl⟩
  | v :: r, o, w, cur, h => by
    obtain ⟨cur', h1, h2⟩ := heap_setCells b e r (o + 1) (w.setCell ⟨b, o, none⟩ v) _ (heap_setCell_same w b o cur e v h)
    exact ⟨cur', h1, by simpa using h2⟩
theorem heap_setCells_other (b : Nat) : ∀ (vs : List Value) (o : Nat) (w : World) (k : Nat), k ≠ b → (w.setCells b o vs).heap[k]? = w.heap[k]?
  | [], _, _, _, _ => rfl
  | v :: r, o, w, k, h => (heap_setCells_other b r (o + 1) (w.setCell ⟨b, o, none⟩ v) k h).trans (Below.heap_setCell _ _ _ _ h)
theorem size_setCells (b : Nat) : ∀ (vs : List Value) (o : Nat) (w : World), (w.setCells b o vs).heap.size = w.heap.size
  | [], _, _ => rfl
  | v :: r, o, w => (size_setCells b r (o + 1) (w.setCell ⟨b, o, none⟩ v)).trans (by simp [World.setCell])

def settled (w : World) (g i : Nat) (x : List UInt8) : World :=
  ((w.alloc (.cells (bv x).toArray 90)).setCells g (i * 257 + 1) (bv x)).setCell ⟨g, i * 257, none⟩ (.slice none 0 0)

theorem cell_setCells_out (b o : Nat) (vs : List Value) (W : World) (x : Nat) (h : x < o ∨ o + vs.length ≤ x) : (W.setCells b o vs).cell? ⟨b, x, none⟩ = W.cell? ⟨b, x, none⟩ :=
  World.cell?_setCells_out b vs o W ⟨b, x, none⟩ (fun _ _ => h)

set_option maxRecDepth 100000 in
theorem side_of {i o L : Nat} (hL : L = 256) (ho : o < i * 257 ∨ (i + 1) * 257 ≤ o) : o < i * 257 + 1 ∨ i * 257 + 1 + L ≤ o := by omega
theorem off_of {i o : Nat} (ho : o < i * 257 ∨ (i + 1) * 257 ≤ o) : i * 257 ≠ o := by omega
theorem addr_ne {g a b : Nat} (h : a ≠ b) : (⟨g, a, none⟩ : Addr) ≠ ⟨g, b, none⟩ := by rw [ne_eq, Addr.mk.injEq]; exact fun e => h e.2.1

theorem setCells_os (g : Nat) : ∀ (vs : List Value) (o : Nat) (W : World), (W.setCells g o vs).os = W.os ∧ (W.setCells g o vs).tape = W.tape ∧ (W.setCells g o vs).output = W.output
  | [], _, _ => ⟨rfl, rfl, rfl⟩
  | _ :: r, o, _ => setCells_os g r (o + 1) _

theorem IsDisk.settled {w : World} {B p g : Nat} {vs : Nat → Value} {D : Dk} (h : IsDisk w B p g vs D) (i : Nat) (s : Sec) (hi : D.secs[i]? = some s) (k : Nat) (hk : k ≤ s.wait.length) :
    IsDisk (settled w g i (s.pick k)) B p g (upd vs i (.slice none 0 0)) (D.put i (s.settle k)) ∧ Fr B w (settled w g i (s.pick k)) ∧ (∀ j, j < w.heap.size → j ≠ g → (settled w g i (s.pick k)).heap[j]? = w.heap[j]?) ∧
      w.heap.size ≤ (settled w g i (s.pick k)).heap.size := by
  have hil := (List.getElem?_eq_some_iff.1 hi).1
  obtain ⟨lp, lg, lk⟩ := h.lt
  obtain ⟨k1, k2⟩ := h.kinds
  have hs := h.sec i s hi
  obtain ⟨cur, hcur, hcs⟩ := h.row
  have hl : (bv (s.pick k)).length = 256 := by rw [bv_length]; exact Sec.pick_len hs.ok k hk
  have hcur0 : (w.alloc (.cells (bv (s.pick k)).toArray 90)).heap[g]? = some (.cells cur 95 (0, 0)) := (Below.heap_alloc _ _ _ lg).trans hcur
  obtain ⟨cur1, hc1, hz1⟩ := heap_setCells g 95 (bv (s.pick k)) (i * 257 + 1) _ cur hcur0
  have hc2 := heap_setCell_same _ g (i * 257) cur1 _ (.slice none 0 0) hc1
  have hother : ∀ j, j < w.heap.size → j ≠ g → (Go.Proofs.YtfggahkimconfaaGreatDoor.settled w g i (s.pick k)).heap[j]? = w.heap[j]? := fun j hj hjg =>
    (Below.heap_setCell _ _ _ _ hjg).trans ((heap_setCells_other _ _ _ _ _ hjg).trans (Below.heap_alloc _ _ _ hj))
  have hsize : w.heap.size ≤ (Go.Proofs.YtfggahkimconfaaGreatDoor.settled w g i (s.pick k)).heap.size := by
    unfold Go.Proofs.YtfggahkimconfaaGreatDoor.settled
    have e : ∀ (W : World) a v, (W.setCell a v).heap.size = W.heap.size := fun W a v => by simp [World.setCell]
    rw [e, size_setCells]; simp
  have ht : (w.alloc (.cells (bv (s.pick k)).toArray 90)).there g (i * 257 + 1) (bv (s.pick k)).length := there_of_block hcur0 _ _ (by omega)
  have hin : ∀ j u, (bv (s.pick k))[j]? = some u → (Go.Proofs.YtfggahkimconfaaGreatDoor.settled w g i (s.pick k)).cell? ⟨g, i * 257 + 1 + j, none⟩ = some u := by
    intro j u hu
    unfold Go.Proofs.YtfggahkimconfaaGreatDoor.settled
    rw [World.cell?_setCell_other _ _ _ _ (by rw [ne_eq, Addr.mk.injEq]; omega)]
    exact World.rangeAt_setCells_same _ _ _ _ ht j u hu
  have hout : ∀ o, o < i * 257 ∨ (i + 1) * 257 ≤ o → (Go.Proofs.YtfggahkimconfaaGreatDoor.settled w g i (s.pick k)).cell? ⟨g, o, none⟩ = w.cell? ⟨g, o, none⟩ := by
    intro o ho
    have hside : o < i * 257 + 1 ∨ i * 257 + 1 + (bv (s.pick k)).length ≤ o := side_of hl ho
    unfold Go.Proofs.YtfggahkimconfaaGreatDoor.settled
    rw [World.cell?_setCell_other _ _ _ _ (addr_ne (off_of ho)), cell_setCells_out _ _ _ _ _ hside]
    exact World.cell?_of_block (w := w) (Below.heap_alloc _ _ _ lg)
  refine ⟨h.sector i hil _ _ (hother p lp k1) hsize ⟨_, hc2, by simpa [hz1] using hcs⟩ hout ?_ ?_ ?_, ⟨⟨(setCells_os g _ _ _).1, (setCells_os g _ _ _).2.1, (setCells_os g _ _ _).2.2, hsize, ?_⟩, ?_⟩, hother, hsize⟩
  · intro j q hj hji hq
    exact hother q (lk j q hj hq) (k2 j q hj hq).2
  · intro j q hj hji hq e; cases e
  · refine ⟨Sec.ok_settle hs.ok k hk, ?_, ?_, World.ownsRow_nil _ _ _ _⟩
    · unfold Go.Proofs.YtfggahkimconfaaGreatDoor.settled
      rw [cell_of_row _ _ _ _ _ _ hc2, Array.getElem?_setIfInBounds, if_pos rfl, if_pos (by omega)]
    · intro j u hu
      exact hin j u hu
  · intro j hj
    have := h.bg
    exact hother j (by omega) (by omega)
  · intro j c e f hj h1 h2 h3
    refine hother j (lt_of_heap hj) (fun e0 => ?_)
    subst e0
    have := hcur.symm.trans hj
    simp at this
    exact h3 this.2.1.symm

/-! The cached sectors, by their places. -/
theorem cachedTo_at (D : Dk) : ∀ (n k i : Nat), (cachedTo D n)[k]? = some i → i < n ∧ waits D i = true ∧ (cachedTo D i).length = k
  | 0, k, i, h => by simp [cachedTo] at h
  | n + 1, k, i, h => by
    cases hw : waits D n with
    | false =>
      rw [cachedTo_no D n hw] at h
      obtain ⟨a, b, c⟩ := cachedTo_at D n k i h
      exact ⟨by omega, b, c⟩
    | true =>
      rw [cachedTo_yes D n hw] at h
      by_cases hk : k < (cachedTo D n).length
      · rw [List.getElem?_append_left hk] at h
        obtain ⟨a, b, c⟩ := cachedTo_at D n k i h
        exact ⟨by omega, b, c⟩
      · rw [List.getElem?_append_right (by omega)] at h
        have hk0 : k - (cachedTo D n).length = 0 := by
          have := (List.getElem?_eq_some_iff.1 h).1
          simp at this; omega
        rw [hk0] at h
        simp at h
        subst h
        exact ⟨by omega, hw, by omega⟩
theorem cachedTo_mono (D : Dk) (i : Nat) (hw : waits D i = true) : ∀ n, i < n → (cachedTo D n)[(cachedTo D i).length]? = some i
  | 0, h => by omega
  | n + 1, h => by
    by_cases e : i = n
    · subst e
      rw [cachedTo_yes D i hw, List.getElem?_append_right (Nat.le_refl _)]
      simp
    · have ih := cachedTo_mono D i hw n (by omega)
      cases hn : waits D n with
      | false => rw [cachedTo_no D n hn]; exact ih
      | true => rw [cachedTo_yes D n hn, List.getElem?_append_left (List.getElem?_eq_some_iff.1 ih).1]; exact ih

/-- Behind k settles: of each cached sector among the first k a value was written; the others are as they were. -/
structure Part (D : Dk) (G : Nat → Sec → Nat → Prop) (k : Nat) (D' : Dk) : Prop where
  len : D'.secs.length = D.secs.length
  moves : D'.moves = D.moves
  trip : D'.trip = D.trip
  dark : D'.dark = D.dark
  did : ∀ i s, D.secs[i]? = some s → waits D i = true → (cachedTo D i).length < k → ∃ r, r ≤ s.wait.length ∧ G (cachedTo D i).length s r ∧ D'.secs[i]? = some (s.settle r)
  rest : ∀ i s, D.secs[i]? = some s → ¬ (waits D i = true ∧ (cachedTo D i).length < k) → D'.secs[i]? = some s

theorem Part.start (D : Dk) (G : Nat → Sec → Nat → Prop) : Part D G 0 D := ⟨rfl, rfl, rfl, rfl, fun _ _ _ _ h => by omega, fun _ _ h _ => h⟩

theorem Part.at {D D' : Dk} {G : Nat → Sec → Nat → Prop} {k i : Nat} (h : Part D G k D') (hi : D.cached[k]? = some i) : ∃ s, D.secs[i]? = some s ∧ D'.secs[i]? = some s ∧ waits D i = true ∧ (cachedTo D i).length = k := by
  obtain ⟨a, b, c⟩ := cachedTo_at D _ k i hi
  have hs := List.getElem?_eq_getElem a
  exact ⟨_, hs, h.rest i _ hs (fun x => by omega), b, c⟩

theorem Part.next {D D' : Dk} {G : Nat → Sec → Nat → Prop} {k i : Nat} (h : Part D G k D') (hi : D.cached[k]? = some i) (s : Sec) (hs : D.secs[i]? = some s) (r : Nat) (hr : r ≤ s.wait.length) (hG : G k s r) : Part D G (k + 1) (D'.put i (s.settle r)) := by
  obtain ⟨a, b, c⟩ := cachedTo_at D _ k i hi
  have hl : i < D'.secs.length := by rw [h.len]; exact a
  refine ⟨by simp [Dk.put, h.len], h.moves, h.trip, h.dark, ?_, ?_⟩
  · intro j t hj hw hk
    by_cases e : j = i
    · subst e
      have : t = s := by rw [hs] at hj; exact (Option.some.inj hj).symm
      subst this
      exact ⟨r, hr, by rw [c]; exact hG, by simp [Dk.put, hl]⟩
    · have hne : (cachedTo D j).length ≠ k := by
        intro e'
        have h1 := cachedTo_mono D j hw D.secs.length (List.getElem?_eq_some_iff.1 hj).1
        rw [e'] at h1
        have h2 : D.cached[k]? = some j := h1
        rw [hi] at h2
        exact e (Option.some.inj h2).symm
      obtain ⟨r', h1, h2, h3⟩ := h.did j t hj hw (by omega)
      exact ⟨r', h1, h2, by simpa [Dk.put, List.getElem?_set, Ne.symm e] using h3⟩
  · intro j t hj hn
    have e : j ≠ i := by
      intro e; subst e
      exact hn ⟨b, by omega⟩
    have := h.rest j t hj (fun x => hn ⟨x.1, by omega⟩)
    simpa [Dk.put, List.getElem?_set, Ne.symm e] using this

/-- Behind all of them. -/
theorem Part.all {D D' : Dk} {G : Nat → Sec → Nat → Prop} (h : Part D G D.cached.length D') (i : Nat) (s : Sec) (hi : D.secs[i]? = some s) :
    ∃ r, r ≤ s.wait.length ∧ (waits D i = true → G (cachedTo D i).length s r) ∧ D'.secs[i]? = some (s.settle r) := by
  cases hw : waits D i with
  | true =>
    have h1 := cachedTo_mono D i hw D.secs.length (List.getElem?_eq_some_iff.1 hi).1
    obtain ⟨r, a, b, c⟩ := h.did i s hi hw (List.getElem?_eq_some_iff.1 h1).1
    exact ⟨r, a, fun _ => b, c⟩
  | false =>
    have h0 : s.wait = [] := by
      unfold waits at hw
      rw [hi] at hw
      simpa using hw
    refine ⟨0, by omega, (fun x => by cases x), ?_⟩
    rw [h.rest i s hi (fun x => by rw [hw] at x; cases x.1)]
    cases s
    simp at h0
    subst h0
    rfl

end Go.Proofs.YtfggahkimconfaaGreatDoor

/- The contracts of Barrier and Crash. -/
namespace Go.Proofs.YtfggahkimconfaaGreatDoor
open Go.RowKit
set_option linter.unusedVariables false

/-- What is known behind k rounds of a loop that settles the cached sectors. -/
structure LRel (w : World) (B p g base : Nat) (v : Value) (D : Dk) (G : Nat → Sec → Nat → Prop) (k : Nat) (wr : World) : Prop where
  ex : ∃ vs D', IsDisk wr B p g vs D' ∧ Part D G k D'
  fr : Fr B w wr
  own : wr.ownsRow base 3 1 v D.cached.length (ints D.cached)
  oth : ∀ j, j < w.heap.size → j ≠ g → wr.heap[j]? = w.heap[j]?
  siz : w.heap.size ≤ wr.heap.size

theorem LRel.next {w wr : World} {B p g base : Nat} {v : Value} {D D' : Dk} {G : Nat → Sec → Nat → Prop} {k i r : Nat} {s : Sec} {vs : Nat → Value} (h : LRel w B p g base v D G k wr) (hD : IsDisk wr B p g vs D') (hP : Part D G k D')
    (hi : D.cached[k]? = some i) (hs : D.secs[i]? = some s) (hs' : D'.secs[i]? = some s) (hr : r ≤ s.wait.length) (hG : G k s r) : LRel w B p g base v D G (k + 1) (settled wr g i (s.pick r)) := by
  obtain ⟨a, b, c, d⟩ := hD.settled i s hs' r hr
  refine ⟨⟨_, _, a, hP.next hi s hs r hr hG⟩, h.fr.trans b, ?_, fun j hj hjg => (c j (Nat.lt_of_lt_of_le hj h.siz) hjg).trans (h.oth j hj hjg), Nat.le_trans h.siz d⟩
  refine own_of_block h.own (fun q hq => c q (h.own.lt q hq).2 ?_)
  intro e; subst e
  obtain ⟨cur, hc, _⟩ := hD.row
  rcases h.own.2 with ⟨e, _⟩ | ⟨q', cap, cur', e, _, hq', _⟩
  · rw [e] at hq; simp [Value.ownBlock] at hq
  · rw [e] at hq; simp [Value.ownBlock] at hq; subst hq
    have := hc.symm.trans hq'; simp at this

set_option maxRecDepth 100000 in
set_option maxHeartbeats 400000 in
theorem Barrier_dark (w : World) (B p g : Nat) (vs : Nat → Value) (D : Dk) (hD : IsDisk w B p g vs D) (hc : D.can = false) :
    Calls Tryz.prog 57 #[.pointer (some ⟨p, 0, none⟩)] w fun e w' => e = .returned (.int .i64 10) ∧ IsDisk w' B p g vs D.moved ∧ Fr B w w' := by
  go_enter Tryz.func57, Tryz.ntmps57
  go_wp2_with fail
  refine (made_any w B p g vs D hD).mono ?_
  rintro e w' ⟨rfl, rfl⟩
  go_wp2_with fail
  refine (move_any _ B p g vs D hD).mono ?_
  rw [hc]
  rintro e w1 ⟨rfl, h1, h2, _⟩
  go_wp2
  go_ret
  exact ⟨rfl, h1, h2⟩

def Gbar : Nat → Sec → Nat → Prop := fun _ s r => r = s.wait.length

set_option maxHeartbeats 800000 in
set_option maxRecDepth 100000 in
theorem Barrier_ok (w : World) (B p g : Nat) (vs : Nat → Value) (D : Dk) (hD : IsDisk w B p g vs D) (hc : D.can = true) :
    Calls Tryz.prog 57 #[.pointer (some ⟨p, 0, none⟩)] w fun e w' => e = .returned (.int .i64 0) ∧ (∃ vs' D', IsDisk w' B p g vs' D' ∧ Part D.moved Gbar D.moved.cached.length D') ∧ Fr B w w' := by
  go_enter Tryz.func57, Tryz.ntmps57
  go_wp2_with fail
  refine (made_any w B p g vs D hD).mono ?_
  rintro e w' ⟨rfl, rfl⟩
  go_wp2_with fail
  refine (move_any _ B p g vs D hD).mono ?_
  rw [hc]
  rintro e w1 ⟨rfl, h1, f1, _⟩
  go_wp2_with fail
  refine (Cached_any _ B p g vs _ h1).mono ?_
  rintro e w2 ⟨v, rfl, hown, hb⟩
  obtain ⟨a, c, rfl, hform⟩ := own_form hown
  have hmost := h1.most
  have hle : D.moved.cached.length ≤ D.moved.secs.length := cachedTo_le _ _
  have h2 := h1.below hb
  have hR0 : LRel w2 B p g w1.heap.size (.slice a D.moved.cached.length c) D.moved Gbar 0 w2 := ⟨⟨_, _, h2, Part.start _ _⟩, Fr.refl _ _, hown, fun _ _ _ => rfl, Nat.le_refl _⟩
  have f2 : Fr B w' w2 := f1.trans (Fr.of_below hb h1.bw)
  have F2 := hide f2
  clear f2 f1 hb hown hform h1 hc hD
  go_wp2
  go_loopw [15] (fun i wr => ∃ k : Nat, k ≤ D.moved.cached.length ∧ i = .int .i64 k ∧ LRel w2 B p g w1.heap.size (.slice a D.moved.cached.length c) D.moved Gbar k wr) (fun i _ => D.moved.cached.length - (intOf i).toNat)
  case atStart => exact ⟨0, Nat.zero_le _, rfl, hR0⟩
  case round =>
    clear hR0
    obtain ⟨k, hk, rfl, hR⟩ := hrel
    by_cases hlt : k < D.moved.cached.length
    · obtain ⟨vr, D', hDr, hP⟩ := hR.ex
      obtain ⟨a', c', e', hform⟩ := own_form hR.own
      injection e' with ea el ec
      subst ea
      subst ec
      clear el
      obtain ⟨q, hq, hcell⟩ := hform (by omega)
      have hi := List.getElem?_eq_getElem hlt
      obtain ⟨s, hs, hs', hw, hpos⟩ := hP.at hi
      have hil : D.moved.cached[k] < D'.secs.length := (List.getElem?_eq_some_iff.1 hs').1
      have hcq := hcell k (.int .i64 (D.moved.cached[k] : Int)) (by simp [ints, hlt])
      have R := hR.next hDr hP hi hs hs' (Nat.le_refl s.wait.length) rfl
      have cr := hDr.cells.1
      have hsec := hDr.sec _ s hs'
      obtain ⟨cur, hcur, hcs⟩ := hDr.row
      have H1 := hide (size_any B g (D.moved.cached[k] * 257) _ _ s hsec)
      have H2 := hide (settle_any B g (D.moved.cached[k] * 257) _ _ s hsec s.wait.length (Nat.le_refl _) (there_of_block hcur _ _ (by omega)))
      subst hq
      generalize D.moved.cached[k] = ix at *
      clear hcell hform hsec hcur hcs hs hs' hi hP hDr hR hw hpos
      go_wp2_with fail
      refine (unhide H1).mono ?_
      rintro e w3 ⟨rfl, rfl⟩
      go_wp2_with fail
      refine (unhide H2).mono ?_
      rintro e w4 ⟨rfl, rfl⟩
      go_wp2
      go_roundw
      case rel => exact ⟨k + 1, by omega, by go_num, R⟩
      case measure => simp [intOf]; omega
    · have hk' : k = D.moved.cached.length := by omega
      subst hk'
      go_wp2
      go_ret
      exact ⟨rfl, hR.ex, (unhide F2).trans hR.fr⟩

/-- What a crash's number tells: which of a sector's values is written. -/
def Wi (k : Int) (n r : Nat) : Prop := r ≤ n ∧ r = among k (n + 1)
def Gcr (kept : List Int) : Nat → Sec → Nat → Prop := fun pos s r => Wi (kept.getD pos 0) s.wait.length r
theorem gcr_of {kept : List Int} {k : Nat} {s : Sec} {kv : Int} {r : Nat} (hk : kept.getD k 0 = kv) (h1 : (r : Int) < (s.wait.length : Int) + 1) (h2 : r = among kv ((s.wait.length : Int) + 1).toNat) : Gcr kept k s r := by
  unfold Gcr; rw [hk]; exact ⟨by omega, h2⟩

set_option maxHeartbeats 800000 in
set_option maxRecDepth 100000 in
theorem Crash_at (w : World) (B p g : Nat) (vs : Nat → Value) (D : Dk) (hD : IsDisk w B p g vs D) (hW : ∀ (i : Nat) (s : Sec), D.secs[i]? = some s → s.wait.length ≤ 1000000) (kept : List Int) (kb ko kc : Nat)
    (hK : ∀ j, j < kept.length → w.cell? ⟨kb, ko + j, none⟩ = some (.int .i64 (kept.getD j 0))) (hkb : kb < w.heap.size) (hkg : kb ≠ g) (hB : ∀ j, j < kept.length → -9223372036854775808 ≤ kept.getD j 0 ∧ kept.getD j 0 ≤ 9223372036854775807) :
    Calls Tryz.prog 22 #[.pointer (some ⟨p, 0, none⟩), .slice (some ⟨kb, ko, none⟩) kept.length kc] w fun e w' => e = .returned (.int .i64 0) ∧ (∃ (vs' : Nat → Value) (E : Dk), IsDisk w' B p g vs' { E with dark := false, trip := -1 } ∧ Part D (Gcr kept) D.cached.length E) ∧ Fr B w w' := by
  have HW := hide hW
  have HB := hide hB
  go_enter Tryz.func22, Tryz.ntmps22
  go_wp2_with fail
  refine (made_any w B p g vs D hD).mono ?_
  rintro e w' ⟨rfl, rfl⟩
  go_wp2_with fail
  refine (Cached_any _ B p g vs _ hD).mono ?_
  rintro e w2 ⟨v, rfl, hown, hb⟩
  obtain ⟨a, c, rfl, hform⟩ := own_form hown
  have hmost := hD.most
  have hle : D.cached.length ≤ D.secs.length := cachedTo_le _ _
  have h2 := hD.below hb
  have hR0 : LRel w2 B p g w'.heap.size (.slice a D.cached.length c) D (Gcr kept) 0 w2 := ⟨⟨_, _, h2, Part.start _ _⟩, Fr.refl _ _, hown, fun _ _ _ => rfl, Nat.le_refl _⟩
  have F2 := hide (Fr.of_below hb hD.bw)
  have KB : Hid (kb < w2.heap.size ∧ kb ≠ g) := ⟨Nat.lt_of_lt_of_le hkb hb.size, hkg⟩
  have HK : Hid (∀ j, j < kept.length → w2.cell? ⟨kb, ko + j, none⟩ = some (.int .i64 (kept.getD j 0))) := fun j hj => (hb.cell (p := ⟨kb, ko + j, none⟩) hkb).trans (hK j hj)
  clear hW hB hK hkb hkg
  clear hb hown hform hD h2
  go_wp2
  go_loopw [15] (fun i wr => ∃ k : Nat, k ≤ D.cached.length ∧ i = .int .i64 k ∧ LRel w2 B p g w'.heap.size (.slice a D.cached.length c) D (Gcr kept) k wr) (fun i _ => D.cached.length - (intOf i).toNat)
  case atStart => exact ⟨0, Nat.zero_le _, rfl, hR0⟩
  case round =>
    clear hR0
    obtain ⟨k, hk, rfl, hR⟩ := hrel
    by_cases hlt : k < D.cached.length
    · obtain ⟨vr, D', hDr, hP⟩ := hR.ex
      obtain ⟨a', c', e', hform⟩ := own_form hR.own
      injection e' with ea el ec
      subst ea
      subst ec
      clear el
      obtain ⟨q, hq, hcell⟩ := hform (by omega)
      have hi := List.getElem?_eq_getElem hlt
      obtain ⟨s, hs, hs', hw, hpos⟩ := hP.at hi
      have hil : D.cached[k] < D'.secs.length := (List.getElem?_eq_some_iff.1 hs').1
      have hcq := hcell k (.int .i64 (D.cached[k] : Int)) (by simp [ints, hlt])
      have R := fun (r : Nat) hr hG => hR.next hDr hP hi hs hs' (r := r) hr hG
      have RR := hide R
      have cr := hDr.cells.1
      have hsec := hDr.sec _ s hs'
      have hwl : s.wait.length ≤ 1000000 := unhide HW _ s hs
      obtain ⟨cur, hcur, hcs⟩ := hDr.row
      have H1 := hide (size_any B g (D.cached[k] * 257) _ _ s hsec)
      have H2 := hide (fun (r : Nat) (hr : r ≤ s.wait.length) => settle_any B g (D.cached[k] * 257) _ _ s hsec r hr (there_of_block hcur _ _ (by omega)))
      have hkc : k < kept.length → wr.cell? ⟨kb, ko + k, none⟩ = some (.int .i64 (kept.getD k 0)) := fun h => (World.cell?_of_block (w := w2) (hR.oth kb (unhide KB).1 (unhide KB).2)).trans (unhide HK k h)
      subst hq
      generalize D.cached[k] = ix at *
      clear R hcell hform hsec hcur hcs hs hs' hi hP hDr hR hw hpos
      by_cases hj : k < kept.length
      · have hkc' := hkc hj
        have hb1 := (unhide HB k hj).1
        have hb2 := (unhide HB k hj).2
        clear hkc
        generalize hkv : kept.getD k 0 = kv at *
        have HKV := hide hkv
        clear hkv
        go_wp2_with fail
        refine (unhide H1).mono ?_
        rintro e w3 ⟨rfl, rfl⟩
        go_wp2_with fail
        refine (within_at kv _ _ (by omega) (by omega) hb1 hb2).mono ?_
        rintro e w4 ⟨r, rfl, hr1, hr2, rfl⟩
        have R := unhide RR r (by omega) (gcr_of (unhide HKV) hr1 hr2)
        clear hr2
        go_wp2_with fail
        refine (unhide H2 r (by omega)).mono ?_
        rintro e w5 ⟨rfl, rfl⟩
        go_wp2
        go_roundw
        case rel => exact ⟨k + 1, by omega, by go_num, R⟩
        case measure => simp [intOf]; omega
      · clear hkc
        have hkv : kept.getD k 0 = 0 := by rw [List.getD_eq_getElem?_getD, List.getElem?_eq_none (by omega)]; rfl
        have HKV := hide hkv
        clear hkv
        go_wp2_with fail
        refine (unhide H1).mono ?_
        rintro e w3 ⟨rfl, rfl⟩
        go_wp2_with fail
        refine (within_at 0 _ _ (by omega) (by omega) (by omega) (by omega)).mono ?_
        rintro e w4 ⟨r, rfl, hr1, hr2, rfl⟩
        have R := unhide RR r (by omega) (gcr_of (unhide HKV) hr1 hr2)
        clear hr2
        go_wp2_with fail
        refine (unhide H2 r (by omega)).mono ?_
        rintro e w5 ⟨rfl, rfl⟩
        go_wp2
        go_roundw
        case rel => exact ⟨k + 1, by omega, by go_num, R⟩
        case measure => simp [intOf]; omega
    · have hk' : k = D.cached.length := by omega
      subst hk'
      obtain ⟨vr, D', hDr, hP⟩ := hR.ex
      obtain ⟨_, _, c2, c3, cf⟩ := hDr.cells
      have cf2 := cf 2
      have cf3 := cf 3
      clear cf
      go_wp2
      go_ret
      have e1 := hDr.set (D' := { D' with dark := false }) 3 (.bool false) rfl hDr.lo hDr.hi rfl
      have e2 := e1.set (D' := { D' with dark := false, trip := -1 }) 2 (.int .i64 (-1)) rfl (by show (-1 : Int) ≤ -1; omega) (by show (-1 : Int) ≤ _; omega) rfl
      exact ⟨rfl, ⟨vr, D', e2, hP⟩, (unhide F2).trans (hR.fr.trans ((fr_setCell hDr.bp hDr.blk (.inl rfl)).trans (fr_setCell e1.bp e1.blk (.inl rfl))))⟩

set_option maxHeartbeats 800000 in
set_option maxRecDepth 100000 in
theorem Crash_none (w : World) (B p g : Nat) (vs : Nat → Value) (D : Dk) (hD : IsDisk w B p g vs D) (hW : ∀ (i : Nat) (s : Sec), D.secs[i]? = some s → s.wait.length ≤ 1000000) (ka : Option Addr) (kc : Nat) :
    Calls Tryz.prog 22 #[.pointer (some ⟨p, 0, none⟩), .slice ka 0 kc] w fun e w' => e = .returned (.int .i64 0) ∧ (∃ (vs' : Nat → Value) (E : Dk), IsDisk w' B p g vs' { E with dark := false, trip := -1 } ∧ Part D (Gcr []) D.cached.length E) ∧ Fr B w w' := by
  have HW := hide hW
  go_enter Tryz.func22, Tryz.ntmps22
  go_wp2_with fail
  refine (made_any w B p g vs D hD).mono ?_
  rintro e w' ⟨rfl, rfl⟩
  go_wp2_with fail
  refine (Cached_any _ B p g vs _ hD).mono ?_
  rintro e w2 ⟨v, rfl, hown, hb⟩
  obtain ⟨a, c, rfl, hform⟩ := own_form hown
  have hmost := hD.most
  have hle : D.cached.length ≤ D.secs.length := cachedTo_le _ _
  have h2 := hD.below hb
  have hR0 : LRel w2 B p g w'.heap.size (.slice a D.cached.length c) D (Gcr []) 0 w2 := ⟨⟨_, _, h2, Part.start _ _⟩, Fr.refl _ _, hown, fun _ _ _ => rfl, Nat.le_refl _⟩
  have F2 := hide (Fr.of_below hb hD.bw)
  clear hW
  clear hb hown hform hD h2
  go_wp2
  go_loopw [15] (fun i wr => ∃ k : Nat, k ≤ D.cached.length ∧ i = .int .i64 k ∧ LRel w2 B p g w'.heap.size (.slice a D.cached.length c) D (Gcr []) k wr) (fun i _ => D.cached.length - (intOf i).toNat)
  case atStart => exact ⟨0, Nat.zero_le _, rfl, hR0⟩
  case round =>
    clear hR0
    obtain ⟨k, hk, rfl, hR⟩ := hrel
    by_cases hlt : k < D.cached.length
    · obtain ⟨vr, D', hDr, hP⟩ := hR.ex
      obtain ⟨a', c', e', hform⟩ := own_form hR.own
      injection e' with ea el ec
      subst ea
      subst ec
      clear el
      obtain ⟨q, hq, hcell⟩ := hform (by omega)
      have hi := List.getElem?_eq_getElem hlt
      obtain ⟨s, hs, hs', hw, hpos⟩ := hP.at hi
      have hil : D.cached[k] < D'.secs.length := (List.getElem?_eq_some_iff.1 hs').1
      have hcq := hcell k (.int .i64 (D.cached[k] : Int)) (by simp [ints, hlt])
      have R := fun (r : Nat) hr hG => hR.next hDr hP hi hs hs' (r := r) hr hG
      have RR := hide R
      have cr := hDr.cells.1
      have hsec := hDr.sec _ s hs'
      have hwl : s.wait.length ≤ 1000000 := unhide HW _ s hs
      obtain ⟨cur, hcur, hcs⟩ := hDr.row
      have H1 := hide (size_any B g (D.cached[k] * 257) _ _ s hsec)
      have H2 := hide (fun (r : Nat) (hr : r ≤ s.wait.length) => settle_any B g (D.cached[k] * 257) _ _ s hsec r hr (there_of_block hcur _ _ (by omega)))
      subst hq
      generalize D.cached[k] = ix at *
      clear R hcell hform hsec hcur hcs hs hs' hi hP hDr hR hw hpos
      · have hge : ¬ ((k : Int) < 0) := by omega
        go_wp2_with fail
        refine (unhide H1).mono ?_
        rintro e w3 ⟨rfl, rfl⟩
        go_wp2_with fail
        refine (within_at 0 _ _ (by omega) (by omega) (by omega) (by omega)).mono ?_
        rintro e w4 ⟨r, rfl, hr1, hr2, rfl⟩
        have R := unhide RR r (by omega) (gcr_of rfl hr1 hr2)
        clear hr2
        go_wp2_with fail
        refine (unhide H2 r (by omega)).mono ?_
        rintro e w5 ⟨rfl, rfl⟩
        go_wp2
        go_roundw
        case rel => exact ⟨k + 1, by omega, by go_num, R⟩
        case measure => simp [intOf]; omega
    · have hk' : k = D.cached.length := by omega
      subst hk'
      obtain ⟨vr, D', hDr, hP⟩ := hR.ex
      obtain ⟨_, _, c2, c3, cf⟩ := hDr.cells
      have cf2 := cf 2
      have cf3 := cf 3
      clear cf
      go_wp2
      go_ret
      have e1 := hDr.set (D' := { D' with dark := false }) 3 (.bool false) rfl hDr.lo hDr.hi rfl
      have e2 := e1.set (D' := { D' with dark := false, trip := -1 }) 2 (.int .i64 (-1)) rfl (by show (-1 : Int) ≤ -1; omega) (by show (-1 : Int) ≤ _; omega) rfl
      exact ⟨rfl, ⟨vr, D', e2, hP⟩, (unhide F2).trans (hR.fr.trans ((fr_setCell hDr.bp hDr.blk (.inl rfl)).trans (fr_setCell e1.bp e1.blk (.inl rfl))))⟩

end Go.Proofs.YtfggahkimconfaaGreatDoor

/- The contracts of SameBytes, SameInts, Among, Bytes, Ints. -/
namespace Go.Proofs.YtfggahkimconfaaGreatDoor
open Go.RowKit
set_option linter.unusedVariables false

theorem take_snoc_eq {x y : List Int} {k : Nat} (hx : k < x.length) (hy : k < y.length) (h : x.take k = y.take k) (e : x.getD k 0 = y.getD k 0) : x.take (k + 1) = y.take (k + 1) := by
  rw [List.take_succ_eq_append_getElem hx, List.take_succ_eq_append_getElem hy, h]
  have : x[k] = y[k] := by simpa [List.getD_eq_getElem?_getD, List.getElem?_eq_getElem hx, List.getElem?_eq_getElem hy] using e
  rw [this]
theorem ne_of_at {x y : List Int} {k : Nat} (e : x.getD k 0 ≠ y.getD k 0) : x ≠ y := fun h => e (by rw [h])

end Go.Proofs.YtfggahkimconfaaGreatDoor

/- The chapter's example holds: works answers true. -/
namespace Go.Proofs.YtfggahkimconfaaGreatDoor
open Go.RowKit
set_option linter.unusedVariables false

def dA : Dk := ⟨[⟨nought, [allOf 1]⟩, ⟨nought, []⟩], 1, -1, false⟩
def dB : Dk := ⟨[⟨nought, [allOf 1, allOf 2]⟩, ⟨nought, []⟩], 2, -1, false⟩
theorem dA_is : (Dk.fresh 2).moved.put 0 (Sec.add ⟨nought, []⟩ (allOf 1)) = dA := by
  simp [Dk.fresh, Dk.moved, Dk.put, Sec.add, dA, wrap64, List.replicate_succ]
theorem dB_is : dA.moved.put 0 (Sec.add ⟨nought, [allOf 1]⟩ (allOf 2)) = dB := by
  simp [Dk.moved, Dk.put, Sec.add, dA, dB, wrap64]
theorem dB_cached : dB.cached = [0] := rfl
theorem dB_small : ∀ (i : Nat) (s : Sec), dB.secs[i]? = some s → s.wait.length ≤ 1000000 := by
  intro i s h
  match i, h with
  | 0, h => cases h; simp
  | 1, h => cases h; simp
theorem nought_of : nought = allOf 0 := rfl
theorem pickB (k : Nat) (hk : k < 3) : Sec.pick ⟨nought, [allOf 1, allOf 2]⟩ k = allOf (UInt8.ofNat k) := by
  match k, hk with
  | 0, _ => rfl
  | 1, _ => rfl
  | 2, _ => rfl
theorem partB {E : Dk} {k : Nat} (hk : k < 3) (h : Part dB (Gcr [(k : Int)]) dB.cached.length E) : E.secs[0]? = some ⟨allOf (UInt8.ofNat k), []⟩ ∧ E.secs.length = 2 := by
  refine ⟨?_, h.len⟩
  obtain ⟨r, hr, hG, hs⟩ := h.all 0 ⟨nought, [allOf 1, allOf 2]⟩ rfl
  have hw := (hG rfl).2
  have e0 : (cachedTo dB 0).length = 0 := rfl
  rw [e0] at hw
  have ha : among (k : Int) 3 = k := by
    match k, hk with
    | 0, _ => rfl
    | 1, _ => rfl
    | 2, _ => rfl
  have : r = k := hw.trans ha
  subst this
  rw [hs]
  simp only [Sec.settle, pickB r hk]

theorem of_nat (k : Nat) (hk : k < 256) (w : World) :
    Calls Tryz.prog 25 #[.int .u8 (k : Int)] w fun e w' => e = .returned (.slice (some ⟨w.heap.size, 0, none⟩) 256 256) ∧ w' = w.alloc (.cells (bv (allOf (UInt8.ofNat k))).toArray 5) := by
  have h := of_any (UInt8.ofNat k) w
  have e : ((UInt8.ofNat k).toNat : Int) = (k : Int) := by simp; omega
  rw [e] at h
  exact h
end Go.Proofs.YtfggahkimconfaaGreatDoor
