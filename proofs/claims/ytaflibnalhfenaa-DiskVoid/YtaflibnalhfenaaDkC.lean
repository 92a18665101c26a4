/- The contract of add: a value goes to the end of a sector's cache. -/
import Derived.Test.YtaflibnalhfenaaDkB
import Derived.Laws.CopyOwn
import Derived.Deep.AppendLies
import Derived.Great.BuildSlice
import Derived.Deep.RegionHeldLaw
namespace Go.Proofs.Ytaflibnalhfenaa
open Go.RowKit
set_option linter.unusedVariables false

theorem wpList_copy_new {w : World} {ops : Array Oper} {rest : List Oper} {o : Oper} {a : Act} {Q : Exit → Act → World → Prop} (hgd : o.guard = none) (d s : Operand)
    (ho : o.op = .call { callee := .builtin .copy, args := #[d, s], argTypes := #[37, 37] }) (ad : Addr) (c : Nat)
    (hd : a.eval d = .slice (some ⟨w.heap.size, 0, none⟩) 256 256) (hs : a.eval s = .slice (some ad) 256 c)
    (cs : List Value) (hl : cs.length = 256) (hsrc : ∀ j v, cs[j]? = some v → w.cell? (ad.add j) = some v) (h1 : ∀ v ∈ cs, v.oneCell' = true)
    (h : wpList Try.prog ops Q rest (a.put o.dst (goInt 256)) (w.alloc (.cells cs.toArray 75))) : wpList Try.prog ops Q (o :: rest) a (w.alloc (.cells zrow 75)) := by
  refine wpList_copy_own hgd d s _ _ ho 5 Try.underlying37 (by kernel_rfl) w.heap.size 0 256 256 ad 256 c hd hs zrow 75 (heap_alloc_last w _) cs (by simp [hl]) ?_ (by simp [hl, zrow_size]) h1 ?_
  · intro j v hv
    exact cell_alloc (hsrc j v hv) _
  · rw [World.setRow_alloc_new, hl]
    have : (zrow.toList.take 0 ++ (cs ++ zrow.toList.drop (0 + 256))).toArray = cs.toArray := by
      rw [List.drop_eq_nil_of_le (by simp [zrow_size])]; simp
    rw [this]
    exact h

theorem range_new (w : World) (cs : List Value) (t : TypeId) : (w.alloc (.cells cs.toArray t)).rangeAt w.heap.size 0 cs := fun j v hv => by
  rw [cell_of_row _ _ _ cs.toArray t (0, 0) (heap_alloc_last w _)]; simpa using hv
theorem infoV3 : (Try.prog.info? 75).map (fun i => (i.zero, i.size, i.bytes)) = some (some (.agg zrow), 256, 256) := by kernel_rfl

theorem foldl_set (l : List Value) : ∀ (k : Nat) (cs : Array Value) , k + l.length ≤ cs.size →
    ((l.zipIdx k).foldl (fun (cs : Array Value) (x : Value × Nat) => cs.setIfInBounds (0 + x.2) x.1) cs).toList = cs.toList.take k ++ l ++ cs.toList.drop (k + l.length) := by
  induction l with
  | nil => intro k cs _; simp
  | cons x l ih =>
    intro k cs h
    simp only [List.zipIdx_cons, List.foldl_cons, List.length_cons] at h ⊢
    rw [ih (k + 1) _ (by simp; omega)]
    simp only [Nat.zero_add, Array.toList_setIfInBounds]
    have hk : k < cs.toList.length := by simp; omega
    rw [List.take_set, List.take_succ_eq_append_getElem hk, List.drop_set_of_lt (by omega)]
    rw [List.set_append_right _ _ (List.length_take_le _ _)]
    simp [Nat.min_eq_left (show k ≤ cs.size by omega), Nat.add_assoc, Nat.add_comm 1]
theorem fillV (i0 : TypeInfo) (hz1 : i0.size = 256) (cs : List Value) (hl : cs.length = 256) :
    Instr.fill (fun i => some (i * i0.size, i0.size)) ((Array.range (1 * i0.size)).map ((Value.agg zrow).cells[· % (Value.agg zrow).cells.size]!)) [(0, Value.agg cs.toArray)] = some cs.toArray := by
  rw [hz1]
  generalize hX : (Array.range (1 * 256)).map ((Value.agg zrow).cells[· % (Value.agg zrow).cells.size]!) = X
  have hs : X.size = 256 := by rw [← hX]; simp
  have h2 := foldl_set cs 0 X (by omega)
  simp only [Instr.fill, Value.cells, Nat.zero_mul]
  rw [if_neg (by simp [hl, hs])]
  congr 1
  apply Array.toList_inj.1
  rw [← Array.foldl_toList, Array.toList_zipIdx]
  simp only
  rw [h2]
  have : (X.toList.drop (0 + cs.length)) = [] := List.drop_eq_nil_of_le (by simp [hl, hs])
  rw [this]; simp

theorem wp_buildV {o : Oper} {a : Act} {w : World} {K : Act → World → Prop} {Q : Exit → Act → World → Prop} (x : Operand) (ho : o.op = .buildSlice 71 1 #[(0, x)]) (cs : List Value) (hl : cs.length = 256)
    (hx : a.eval x = .agg cs.toArray) (h : K (a.put o.dst (.slice (some ⟨w.heap.size, 0, none⟩) 1 1)) (w.alloc (.cells cs.toArray 75))) : o.wp Try.prog a w K Q := by
  obtain ⟨i0, hi, hz0, hz1, hz2⟩ := info_parts infoV3
  refine wp_buildSlice _ 75 1 _ ho cs.toArray i0 (.agg zrow) Try.underlying71 hi hz0 (by rw [hz1]; decide) (by rw [hz1]; decide) ?_ h
  have e : (Array.map (fun (x : Nat × Operand) => match x with | (i, x) => (i, a.eval x)) #[(0, x)]).toList = [(0, Value.agg cs.toArray)] := by simp [hx]
  rw [e]
  exact fillV i0 hz1 cs hl

theorem grown2 {w W w1 : World} {C D : Obj} {row : Option Nat} (h : W.grownBy w1 row) (hh : W.heap = ((w.alloc C).alloc D).heap) (h1 : W.os = w.os) (h2 : W.tape = w.tape) (h3 : W.output = w.output) : w.grownBy w1 row := by
  have hs : W.heap.size = w.heap.size + 1 + 1 := by rw [hh]; simp
  refine ⟨h.os.trans h1, h.tape.trans h2, h.output.trans h3, Nat.le_trans (by omega) h.size, fun k hk hne => (h.block k (by omega) hne).trans ?_⟩
  rw [hh, Below.heap_alloc _ _ _ (by simp; omega)]
  exact Below.heap_alloc _ _ _ hk
theorem add_where {w W : World} {C D : Obj} {r : Option Nat} {q : Nat} (h : r = some q ∨ q = W.heap.size) (hh : W.heap = ((w.alloc C).alloc D).heap) : r = some q ∨ w.heap.size ≤ q := by
  rcases h with h | h
  · exact .inl h
  · right; rw [h, hh]; simp; omega

set_option maxRecDepth 100000 in
set_option maxHeartbeats 1000000 in
theorem add_at (g o B : Nat) (w : World) (v : Value) (n : Nat) (xs : List Value) (hc : w.cell? ⟨g, o, none⟩ = some v) (hf : w.frozen? ⟨g, o, none⟩ = false) (hgv : some g ≠ v.ownBlock)
    (hown : w.ownsRow B 75 256 v n xs) (hB : B ≤ w.heap.size) (hn : n ≤ 1000000) (ad : Addr) (c : Nat) (cs : List Value) (hl : cs.length = 256) (h1 : ∀ v ∈ cs, v.oneCell' = true)
    (hsrc : ∀ j u, cs[j]? = some u → w.cell? (ad.add j) = some u) :
    Calls Try.prog 42 #[.pointer (some ⟨g, o, none⟩), .slice (some ad) 256 c] w fun e w' => e = .returned (.tuple #[]) ∧
      ∃ q cap w1, w1.ownsRow B 75 256 (.slice (some ⟨q, 0, none⟩) (n + 1) cap) (n + 1) (xs ++ cs) ∧ w.grownBy w1 v.ownBlock ∧ (v.ownBlock = some q ∨ w.heap.size ≤ q) ∧
        w' = w1.setCell ⟨g, o, none⟩ (.slice (some ⟨q, 0, none⟩) (n + 1) cap) := by
  have hz := zeroV
  obtain ⟨i0, hi, hz0, hz1, hz2⟩ := info_parts infoV3
  have hlt := World.block_lt_of_cell? w _ hc
  have hvlt := hown.lt
  go_enter Try.func42, Try.ntmps42
  go_wp2_with (refine wpList_copy_new rfl (.tmp 5) (.tmp 6) rfl ad c rfl rfl cs hl hsrc h1 ?_)
  have hcW := cell_alloc hc (.cells cs.toArray 75)
  have hcW2 := cell_alloc hcW (.cells cs.toArray 75)
  have hfW2 : ((w.alloc (.cells cs.toArray 75)).alloc (.cells cs.toArray 75)).frozen? ⟨g, o, none⟩ = false := by
    rw [World.frozen?_alloc_past _ _ _ (by simp; omega), World.frozen?_alloc_past _ _ _ hlt]; exact hf
  have hr0 := range_new w cs 75
  refine wp_region_any (by kernel_rfl) ?_
  change wpAny _ _ _ _ _ _ _ (World.drew _)
  refine wpAny_take (i := 0) (v := ?_) rfl (by kernel_rfl) (by kernel_rfl) (by kernel_rfl) (fun _ _ _ h => h) (Or.inl ⟨by rfl, ?_⟩) ?_
  rotate_left
  · intro w; go_simp; rfl
  refine wpAny_take (i := 1) (v := ?_) rfl (by kernel_rfl) (by kernel_rfl) (by kernel_rfl) (fun _ _ _ h => h) (Or.inl ⟨by rfl, ?_⟩) ?_
  rotate_left
  · intro w; go_simp; rfl
  refine wpAny_take (i := 2) (v := ?_) rfl (by kernel_rfl) (by kernel_rfl) (by kernel_rfl) (fun _ _ _ h => h) (Or.inl ⟨by rfl, ?_⟩) ?_
  rotate_left
  · intro w; go_simp; rfl
  refine wpAny_take (i := 3) (v := ?_) rfl (by kernel_rfl) (by kernel_rfl) (by kernel_rfl) (fun _ _ _ h => h) (Or.inl ⟨by rfl, ?_⟩) ?_
  rotate_left
  · intro w; go_simp; rfl
  have hcd : (w.alloc (.cells cs.toArray 75)).drew.cell? ⟨g, o, none⟩ = some v := by simpa using hcW
  have hcd2 : ((w.alloc (.cells cs.toArray 75)).alloc (.cells cs.toArray 75)).drew.cell? ⟨g, o, none⟩ = some v := by simpa using hcW2
  have hrd : (w.alloc (.cells cs.toArray 75)).drew.rangeAt w.heap.size 0 cs := by simpa using hr0
  refine wpAny_ready (rs := [4, 5]) (by kernel_rfl) (by simp) ?_
  refine AllReady.cons rfl (fun K hK => ?_) (AllReady.cons rfl (fun K hK => ?_) AllReady.nil)
  · go_simp
    refine hK _ _ ?_; clear hK K
    refine wpAny_ready (rs := [5]) (by kernel_rfl) (by simp) ?_
    refine AllReady.cons rfl (fun K hK => ?_) AllReady.nil
    rw [if_pos (by rfl)]
    refine wp_load_mid _ _ rfl w.heap.size 0 rfl cs _ hrd Try.underlying75 rfl (sizeV hl) ?_
    refine hK _ _ ?_; clear hK K
    refine wpAny_ready (rs := [6]) (by kernel_rfl) (by simp) ?_
    refine AllReady.cons rfl (fun K hK => ?_) AllReady.nil
    rw [if_pos (by rfl)]
    refine wp_buildV (.tmp 13) rfl cs hl rfl ?_
    refine hK _ _ ?_; clear hK K
    exact (by
    refine wpAny_ready (rs := [7]) (by kernel_rfl) (by simp) ?_
    refine AllReady.cons rfl (fun K hK => ?_) AllReady.nil
    refine step_append_lies _ rfl (.tmp 12) (.tmp 14) 71 rfl B 75 i0 (.agg zrow) 256 256 Try.underlying71 hi hz0 hz1 hz2 zrow_size (by decide) v n xs rfl ?own _ 1 1 cs rfl ?len ?news h1 (by decide) ?b1 ?b2 ?base _ rfl ?next
    case own => first | exact (hown.alloc _).drew.alloc _ | exact ((hown.alloc _).alloc _).drew
    case len => rw [hl]
    case news => first | exact World.news_of_block (heap_alloc_last _ _) | exact World.news_of_block (heap_alloc2_new w _ _)
    case b1 => unfold maxLen; omega
    case b2 => omega
    case base => simp; omega
    case next =>
      intro q cap w1 hown1 hgrow hat hqlt
      have hk := (hgrow.cell_far ⟨g, o, none⟩ (by simp; omega) hgv).trans hcW2
      have hkf := (hgrow.frozen_far ⟨g, o, none⟩ (by simp; omega) hgv).trans hfW2
      refine hK _ _ ?_; clear hK K
      refine wpAny_ready (rs := [8]) (by kernel_rfl) (by simp) ?_
      refine AllReady.cons rfl (fun K hK => ?_) AllReady.nil
      go_simp
      refine hK _ _ ?_; clear hK K
      refine wpAny_ready (rs := [9]) (by kernel_rfl) (by simp) ?_
      refine AllReady.cons rfl (fun K hK => ?_) AllReady.nil
      go_simp
      refine hK _ _ ?_; clear hK K
      refine wpAny_ready (rs := [10]) (by kernel_rfl) (by simp) ?_
      refine AllReady.cons rfl (fun K hK => ?_) AllReady.nil
      go_simp
      refine hK _ _ ?_; clear hK K
      refine wpAny_done (by kernel_rfl) ?_ _
      go_wp2
      go_end0
      exact ⟨rfl, q, cap, w1, hown1, grown2 hgrow rfl rfl rfl rfl, add_where hat rfl, rfl⟩)
  · rw [if_pos (by rfl)]
    refine wp_load_mid _ _ rfl w.heap.size 0 rfl cs _ hrd Try.underlying75 rfl (sizeV hl) ?_
    refine hK _ _ ?_; clear hK K
    refine wpAny_ready (rs := [4, 6]) (by kernel_rfl) (by simp) ?_
    refine AllReady.cons rfl (fun K hK => ?_) (AllReady.cons rfl (fun K hK => ?_) AllReady.nil)
    · go_simp
      refine hK _ _ ?_; clear hK K
      refine wpAny_ready (rs := [6]) (by kernel_rfl) (by simp) ?_
      refine AllReady.cons rfl (fun K hK => ?_) AllReady.nil
      rw [if_pos (by rfl)]
      refine wp_buildV (.tmp 13) rfl cs hl rfl ?_
      refine hK _ _ ?_; clear hK K
      exact (by
    refine wpAny_ready (rs := [7]) (by kernel_rfl) (by simp) ?_
    refine AllReady.cons rfl (fun K hK => ?_) AllReady.nil
    refine step_append_lies _ rfl (.tmp 12) (.tmp 14) 71 rfl B 75 i0 (.agg zrow) 256 256 Try.underlying71 hi hz0 hz1 hz2 zrow_size (by decide) v n xs rfl ?own _ 1 1 cs rfl ?len ?news h1 (by decide) ?b1 ?b2 ?base _ rfl ?next
    case own => first | exact (hown.alloc _).drew.alloc _ | exact ((hown.alloc _).alloc _).drew
    case len => rw [hl]
    case news => first | exact World.news_of_block (heap_alloc_last _ _) | exact World.news_of_block (heap_alloc2_new w _ _)
    case b1 => unfold maxLen; omega
    case b2 => omega
    case base => simp; omega
    case next =>
      intro q cap w1 hown1 hgrow hat hqlt
      have hk := (hgrow.cell_far ⟨g, o, none⟩ (by simp; omega) hgv).trans hcW2
      have hkf := (hgrow.frozen_far ⟨g, o, none⟩ (by simp; omega) hgv).trans hfW2
      refine hK _ _ ?_; clear hK K
      refine wpAny_ready (rs := [8]) (by kernel_rfl) (by simp) ?_
      refine AllReady.cons rfl (fun K hK => ?_) AllReady.nil
      go_simp
      refine hK _ _ ?_; clear hK K
      refine wpAny_ready (rs := [9]) (by kernel_rfl) (by simp) ?_
      refine AllReady.cons rfl (fun K hK => ?_) AllReady.nil
      go_simp
      refine hK _ _ ?_; clear hK K
      refine wpAny_ready (rs := [10]) (by kernel_rfl) (by simp) ?_
      refine AllReady.cons rfl (fun K hK => ?_) AllReady.nil
      go_simp
      refine hK _ _ ?_; clear hK K
      refine wpAny_done (by kernel_rfl) ?_ _
      go_wp2
      go_end0
      exact ⟨rfl, q, cap, w1, hown1, grown2 hgrow rfl rfl rfl rfl, add_where hat rfl, rfl⟩)
    · rw [if_pos (by rfl)]
      refine wp_buildV (.tmp 13) rfl cs hl rfl ?_
      refine hK _ _ ?_; clear hK K
      refine wpAny_ready (rs := [4]) (by kernel_rfl) (by simp) ?_
      refine AllReady.cons rfl (fun K hK => ?_) AllReady.nil
      go_simp
      refine hK _ _ ?_; clear hK K
      exact (by
    refine wpAny_ready (rs := [7]) (by kernel_rfl) (by simp) ?_
    refine AllReady.cons rfl (fun K hK => ?_) AllReady.nil
    refine step_append_lies _ rfl (.tmp 12) (.tmp 14) 71 rfl B 75 i0 (.agg zrow) 256 256 Try.underlying71 hi hz0 hz1 hz2 zrow_size (by decide) v n xs rfl ?own _ 1 1 cs rfl ?len ?news h1 (by decide) ?b1 ?b2 ?base _ rfl ?next
    case own => first | exact (hown.alloc _).drew.alloc _ | exact ((hown.alloc _).alloc _).drew
    case len => rw [hl]
    case news => first | exact World.news_of_block (heap_alloc_last _ _) | exact World.news_of_block (heap_alloc2_new w _ _)
    case b1 => unfold maxLen; omega
    case b2 => omega
    case base => simp; omega
    case next =>
      intro q cap w1 hown1 hgrow hat hqlt
      have hk := (hgrow.cell_far ⟨g, o, none⟩ (by simp; omega) hgv).trans hcW2
      have hkf := (hgrow.frozen_far ⟨g, o, none⟩ (by simp; omega) hgv).trans hfW2
      refine hK _ _ ?_; clear hK K
      refine wpAny_ready (rs := [8]) (by kernel_rfl) (by simp) ?_
      refine AllReady.cons rfl (fun K hK => ?_) AllReady.nil
      go_simp
      refine hK _ _ ?_; clear hK K
      refine wpAny_ready (rs := [9]) (by kernel_rfl) (by simp) ?_
      refine AllReady.cons rfl (fun K hK => ?_) AllReady.nil
      go_simp
      refine hK _ _ ?_; clear hK K
      refine wpAny_ready (rs := [10]) (by kernel_rfl) (by simp) ?_
      refine AllReady.cons rfl (fun K hK => ?_) AllReady.nil
      go_simp
      refine hK _ _ ?_; clear hK K
      refine wpAny_done (by kernel_rfl) ?_ _
      go_wp2
      go_end0
      exact ⟨rfl, q, cap, w1, hown1, grown2 hgrow rfl rfl rfl rfl, add_where hat rfl, rfl⟩)

end Go.Proofs.Ytaflibnalhfenaa
