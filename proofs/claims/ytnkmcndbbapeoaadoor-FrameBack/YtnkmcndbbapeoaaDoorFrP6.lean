/- The program's own Scan: a loop over the iterator. -/
import Derived.Test.YtnkmcndbbapeoaaDoorFrP5
namespace Go.Proofs.YtnkmcndbbapeoaaDoor
open Go.RowKit Go.Shelf
set_option linter.unusedVariables false
attribute [local go_sem] Oper.semAt_some

set_option maxHeartbeats 800000 in
theorem records_in (N : Nat) (a : Option Addr) (n cap : Nat) (w : World) :
    CallsIn Fence.wide N Tryd.prog 34 #[.slice a n cap] w fun e w' => e = .returned (.func (.func 39) #[] #[.pointer (some ⟨w.heap.size, 0, none⟩)]) ∧ w' = w.alloc (.cells #[.slice a n cap] 25) := by
  refine callsIn_of_wp Tryd.func34 rfl trivial ?_ rfl
  simp only [Tryd.ntmps34, List.size_toArray, List.length_cons, List.length_nil, Nat.reduceAdd, Nat.reduceSub, Array.replicate_succ, Array.replicate_zero, List.push_toArray, List.append_toArray, List.nil_append, List.cons_append]
  gi_wp2
  go_ret
  exact ⟨rfl, rfl⟩

theorem records_stops (N : Nat) (hN : 1 ≤ N) (Bn : Nat) (w wd : World) (a : Option Addr) (n cap : Nat) (l : List UInt8) (hT : Tab w) (hA : Arg w a n cap l) (hn : n ≤ 20000) (hw : Below w.heap.size w wd) (hc : wd.cell? ⟨Bn, 0, none⟩ = some (.slice a n cap)) :
    SeqStopsK Fence.wide N Tryd.prog 39 #[.pointer (some ⟨Bn, 0, none⟩)] encI (KpB w.heap.size Bn) (fun xs => scanL l 0 = (xs.map (·.1), lastEnd xs)) (fun _ => True) (n + 1) wd := fun lp J Jx W hW hJ _ hY h0 =>
  records1_in N lp Bn hN w W a n cap l hT hA hn J Jx hY (fun s A B hs f => hJ s A B none hs (grown_of_below f) (fun r e => by cases e)) (bT hW hw) ((hW.cell (p := ⟨Bn, 0, none⟩) (World.block_lt_of_cell? wd _ hc)).trans hc) h0

theorem kpB_t {n₀ B : Nat} {X Y Z : World} (h : KpB n₀ B X Y) (k : KpB n₀ B Y Z) : KpB n₀ B X Z := ⟨h.1.trans k.1, k.2.trans h.2⟩
theorem kpB_b {n₀ B : Nat} {w : World} (hn : n₀ ≤ w.heap.size) (hB : B < w.heap.size) (W : World) (l : Nat) (o o' : Obj) (hl : w.heap.size ≤ l) (h : W.heap[l]? = some o) (h1 : o.isCells = false) (h2 : o.isWalk = false) : KpB n₀ B W (W.putObj l o') :=
  ⟨belowK_b hn W l o o' hl h h1 h2, World.cell?_of_block (w := W) ((grownBy_putObj' W l o').block B (by have := (Array.getElem?_eq_some_iff.1 h).1; omega) (fun e => by cases e; omega))⟩

/-- Between two rounds of Scan: the list, how many bytes it takes, the slice that is gone through. -/
def ScI (w : World) (a : Option Addr) (n cap : Nat) (pre : List Item) (W : World) : Prop :=
  (∃ v, Boxed W w.heap.size 22 v ∧ W.ownsRow w.heap.size 24 2 v pre.length (rv (pre.map (·.1))) ∧ True) ∧ (Boxed W (w.heap.size + 1) 3 (.int .i64 (lastEnd pre : Int)) ∧ (Boxed W (w.heap.size + 1 + 1) 25 (.slice a n cap) ∧ Below w.heap.size w W))
theorem scI_own (w : World) (a : Option Addr) (n cap B : Nat) (hB : w.heap.size ≤ B) : OwnFrom B (ScI w a n cap) :=
  OwnFrom.and (Own.from (holdsRow_own w.heap.size w.heap.size 22 24 2 (fun pre : List Item => pre.length) (fun pre => rv (pre.map (·.1))) (fun _ _ => True)) _)
    (OwnFrom.and (Own.from (boxed_own (w.heap.size + 1) 3 (fun pre : List Item => .int .i64 (lastEnd pre : Int))) _) (OwnFrom.and (Own.from (boxed_own (w.heap.size + 1 + 1) 25 (fun _ : List Item => .slice a n cap)) _) (ownFrom_below (Nat.le_refl _) hB)))
theorem ScI.next {w W w1 : World} {a : Option Addr} {n cap : Nat} {pre : List Item} {r : Rec} {en : Nat} {v v' : Value} {tmp : Obj} (hv : Boxed W w.heap.size 22 v) (hrow : W.ownsRow w.heap.size 24 2 v pre.length (rv (pre.map (·.1))))
    (hT : Boxed W (w.heap.size + 1) 3 (.int .i64 (lastEnd pre : Int))) (hb : Boxed W (w.heap.size + 1 + 1) 25 (.slice a n cap)) (hB : Below w.heap.size w W)
    (hown' : w1.ownsRow w.heap.size 24 2 v' (pre.length + 1) (rv (pre.map (·.1)) ++ [.int .i64 r.epoch, .string ⟨r.data.toArray⟩])) (hgrow : (W.alloc tmp).grownBy w1 v.ownBlock) :
    Boxed w1 w.heap.size 22 v ∧ Boxed (w1.setCell ⟨w.heap.size, 0, none⟩ v') (w.heap.size + 1) 3 (.int .i64 (lastEnd pre : Int)) ∧
    KeepsOthers W ((w1.setCell ⟨w.heap.size, 0, none⟩ v').setCell ⟨w.heap.size + 1, 0, none⟩ (.int .i64 (en : Int))) ∧
    KpB w.heap.size (w.heap.size + 1 + 1) W ((w1.setCell ⟨w.heap.size, 0, none⟩ v').setCell ⟨w.heap.size + 1, 0, none⟩ (.int .i64 (en : Int))) ∧
    ScI w a n cap (pre ++ [(r, en)]) ((w1.setCell ⟨w.heap.size, 0, none⟩ v').setCell ⟨w.heap.size + 1, 0, none⟩ (.int .i64 (en : Int))) := by
  obtain ⟨hv1, hv2, hr2, hk2, hb2⟩ := hv.appended (by decide) hrow hB.size (Nat.le_refl _) hown' hgrow
  have hT1 : Boxed w1 (w.heap.size + 1) 3 (.int .i64 (lastEnd pre : Int)) := (hT.alloc tmp).kept hgrow (hT.not_row (by decide) hrow)
  have hT2 := hT1.other (B' := w.heap.size) (by omega) v'
  have hb1 : Boxed w1 (w.heap.size + 1 + 1) 25 (.slice a n cap) := (hb.alloc tmp).kept hgrow (hb.not_row (by decide) hrow)
  have hb3 := (hb1.other (B' := w.heap.size) (by omega) v').other (B' := w.heap.size + 1) (by omega) (.int .i64 (en : Int))
  have hB3 : Below w.heap.size W ((w1.setCell ⟨w.heap.size, 0, none⟩ v').setCell ⟨w.heap.size + 1, 0, none⟩ (.int .i64 (en : Int))) := hb2.setCell (p := ⟨w.heap.size + 1, 0, none⟩) (by show w.heap.size ≤ w.heap.size + 1; omega) _
  refine ⟨hv1, hT2, hk2.trans (KeepsOthers.setCell _ _ _), ⟨hB3, hb3.cell.trans hb.cell.symm⟩, ⟨v', hv2.other (B' := w.heap.size + 1) (by omega) _, ?_, trivial⟩, ?_, hb3, hB.trans hB3⟩
  · have := hr2.kept (grownBy_setCell' _ (w.heap.size + 1) (.int .i64 (en : Int))) (.inr (hT2.not_row (by decide) hr2).symm)
    rw [List.map_append, rv_append, List.length_append]
    exact this
  · rw [lastEnd_snoc]
    exact hT2.set _

set_option maxRecDepth 100000 in
set_option maxHeartbeats 2000000 in
theorem fScan_in (w : World) (a : Option Addr) (n cap : Nat) (l : List UInt8) (hT : Tab w) (hA : Arg w a n cap l) (hn : n ≤ 20000) :
    CallsIn Fence.wide 5 Tryd.prog 19 #[.slice a n cap] w fun e w' => ∃ v, e = .returned (.tuple #[v, .int .i64 ((scanL l 0).2 : Int)]) ∧ w'.ownsRow w.heap.size 24 2 v (scanL l 0).1.length (rv (scanL l 0).1) ∧ Below w.heap.size w w' := by
  obtain ⟨i0, hi, hz0, hz1, hz2⟩ := info_parts infoR
  refine callsIn_of_wp_marks Tryd.func19 rfl trivial ?_ rfl
  simp only [Tryd.ntmps19, List.size_toArray, List.length_cons, List.length_nil, Nat.reduceAdd, Nat.reduceSub, Array.replicate_succ, Array.replicate_zero, List.push_toArray, List.append_toArray, List.nil_append, List.cons_append]
  gi_wp2_with fail
  refine ⟨trivial, (records_in _ a n cap _).mono ?_⟩
  rintro e w' ⟨rfl, rfl⟩
  gi_wp2
  have bO := Boxed.new w 22 (.slice none 0 0)
  have bN := Boxed.new (w.alloc (.cells #[.slice none 0 0] 22)) 3 (.int .i64 0)
  rw [World.size_alloc] at bN
  have bB := Boxed.new ((w.alloc (.cells #[.slice none 0 0] 22)).alloc (.cells #[.int .i64 0] 3)) 25 (.slice a n cap)
  rw [World.size_alloc, World.size_alloc] at bB
  have hB0 : Below w.heap.size w (((w.alloc (.cells #[.slice none 0 0] 22)).alloc (.cells #[.int .i64 0] 3)).alloc (.cells #[.slice a n cap] 25)) := bA (bA (bA (Below.refl _ w) _) _) _
  have hI0 : ScI w a n cap [] (((w.alloc (.cells #[.slice none 0 0] 22)).alloc (.cells #[.int .i64 0] 3)).alloc (.cells #[.slice a n cap] 25)) := ⟨⟨_, (bO.alloc _).alloc _, World.ownsRow_nil _ _ _ _, trivial⟩, bN.alloc _, bB, hB0⟩
  have hsz : (((w.alloc (.cells #[.slice none 0 0] 22)).alloc (.cells #[.int .i64 0] 3)).alloc (.cells #[.slice a n cap] 25)).heap.size = w.heap.size + 3 := by simp
  have hstops := records_stops 4 (by omega) (w.heap.size + 1 + 1) w _ a n cap l hT hA hn hB0 bB.cell
  clear bO bN bB hB0
  generalize ((w.alloc (.cells #[.slice none 0 0] 22)).alloc (.cells #[.int .i64 0] 3)).alloc (.cells #[.slice a n cap] 25) = W0 at *
  refine wpIn_rangeFunc_ownH rfl (by omega) (gf := 39) (lb := #[.pointer (some ⟨w.heap.size + 1 + 1, 0, none⟩)]) rfl trivial (enters_of Tryd.func39 (by kernel_rfl) rfl)
    hstops kpB_t (kpB_b (by omega) (by omega)) (Below.refl _ _) (fun _ => rfl)
    (ScI w a n cap) (fun _ _ _ => False) (scI_own w a n cap _ (by omega)) (fun _ _ _ _ _ hs _ _ => hs) hI0
    (fun x a' W => ∃ Bx, W.heap[Bx]? = some (.cells #[.int .i64 x.1.epoch, .string ⟨x.1.data.toArray⟩] 24 (0, 0)) ∧ a' = { tmps := #[.slice a n cap, undef, .slice none 0 0, .int .i64 0, .pointer (some ⟨w.heap.size, 0, none⟩), .pointer (some ⟨w.heap.size + 1, 0, none⟩), .pointer (some ⟨Bx, 0, none⟩), .int .i64 (x.2 : Int), .slice a n cap, .func (.func 39) #[] #[.pointer (some ⟨w.heap.size + 1 + 1, 0, none⟩)], recV x.1, .int .i64 (x.2 : Int), undef, undef, undef, undef, undef, undef, undef], defers := [] })
    (fun x a' s X Y row hs hg hr => by
      obtain ⟨Bx, h1, h2⟩ := hs
      refine ⟨Bx, (hg.block Bx (lt_of_heap h1) (fun e => ?_)).trans h1, h2⟩
      obtain ⟨_, o, ho, hc⟩ := hr Bx e.symm
      rw [h1] at ho
      cases ho
      cases hc) ?assign ?body ?done ?stop
  case assign =>
    rintro lp pre ⟨r, en⟩ W K hI hK
    gi_wp2
    have hb := hI.2.2.1
    exact hK _ _ ((KeepsOthers.alloc _ _).from _) ⟨(Below.refl _ W).alloc hI.2.2.2.size _, (hb.alloc _).cell.trans hb.cell.symm⟩ (scI_own w a n cap w.heap.size (Nat.le_refl _) pre W _ none hI (World.grownBy_alloc W _ none) (fun r e => by cases e)) ⟨W.heap.size, heap_alloc_last W _, rfl⟩
  case body =>
    rintro lp pre ⟨r, en⟩ a' W _ _ ⟨⟨v, hv, hrow, _⟩, hTk, hBb, hB⟩ ⟨Bx, hX, rfl⟩ hlt
    clear hstops hI0
    obtain ⟨oa, oc, rfl⟩ := own2_form hrow
    have hcv := hv.cell
    have cx0 : W.cell? ⟨Bx, 0, none⟩ = some (.int .i64 r.epoch) := by rw [cell_of_row _ _ _ _ _ _ hX]; rfl
    have cx1 : W.cell? ⟨Bx, 1, none⟩ = some (.string ⟨r.data.toArray⟩) := by rw [cell_of_row _ _ _ _ _ _ hX]; rfl
    have hrow1 := gen_below hrow (bA (Below.refl _ W) (.cells #[.int .i64 r.epoch, .string ⟨r.data.toArray⟩] 24))
    have hsrc : ∀ j u, [Value.int .i64 r.epoch, .string ⟨r.data.toArray⟩][j]? = some u → (W.alloc (.cells #[.int .i64 r.epoch, .string ⟨r.data.toArray⟩] 24)).cell? (Addr.add ⟨W.heap.size, 0, none⟩ j) = some u := World.news_of_block (heap_alloc_last W _)
    have hone : ∀ u ∈ [Value.int .i64 r.epoch, .string ⟨r.data.toArray⟩], u.oneCell' = true := by simp [Value.oneCell']
    have hc3 : pre.length + 1 ≤ maxLen := by unfold maxLen; omega
    have hc5 : w.heap.size ≤ (W.alloc (.cells #[.int .i64 r.epoch, .string ⟨r.data.toArray⟩] 24)).heap.size := by have := hB.size; simp; omega
    have HNX := hide (fun v' w1 => ScI.next (v' := v') (w1 := w1) (r := r) (en := en) (tmp := .cells #[.int .i64 r.epoch, .string ⟨r.data.toArray⟩] 24) hv hrow hTk hBb hB)
    clear hv hTk hBb hX hB hrow
    gi_wp2_with (gi_at_builtin; refine wpListIn_append_own _ rfl (.tmp 12) (.tmp 14) 22 rfl w.heap.size 24 i0 (.agg #[.int .i64 0, .string ⟨#[]⟩]) 2 24 Tryd.underlying22 hi hz0 hz1 hz2 rfl (by decide) _ _ _ rfl hrow1 ⟨W.heap.size, 0, none⟩ 1 1 [.int .i64 r.epoch, .string ⟨r.data.toArray⟩] rfl rfl hsrc hone hc3 (by omega) hc5 ?_; intro v' w1 hown' hgrow _; obtain ⟨g', cap', rfl⟩ := ownsRow_succ hown'; obtain ⟨hv1, hT2, hk2, hp2, hS2⟩ := unhide HNX _ _ hown' hgrow; have hc1 := hv1.cell; have hf1 := hv1.frozen; have hc2 := hT2.cell; have hf2 := hT2.frozen)
    exact ⟨hk2.from _, hp2, hS2⟩
  case done =>
    rintro D xs W hD hS ⟨⟨v, hv, hrow, _⟩, hTk, hBb, hB⟩ hK
    obtain ⟨oa, oc, rfl⟩ := own2_form hrow
    have hc1 := hv.cell
    have hc2 := hTk.cell
    have HS := hide hS
    have HR := hide hrow
    have HB := hide hB
    clear hS hstops hI0 hv hrow hTk hBb hB
    gi_wp2
    gi_region
    gi_wp2
    refine ⟨by simp, .inl ⟨_, _, rfl, run_takeDeferred (w := W.drew) hK, ?_⟩⟩
    refine ⟨_, results_tmp2 rfl _ _ _, .slice oa xs.length oc, ?_, ?_, ?_⟩
    · rw [unhide HS]; rfl
    · rw [unhide HS]
      have := ownsRow_putObj (W := W.drew) (unhide HR) (.deferred none) hK rfl
      simpa using this
    · exact (unhide HB).drew.trans (belowK_b (w := w) (Nat.le_refl _) W.drew D _ _ (by omega) hK rfl rfl)
  case stop =>
    rintro D c pre W _ _ h _
    exact h.elim

theorem fScan_any (w : World) (a : Option Addr) (n cap : Nat) (l : List UInt8) (hT : Tab w) (hA : Arg w a n cap l) (hn : n ≤ 20000) :
    Calls Tryd.prog 19 #[.slice a n cap] w fun e w' => ∃ v, e = .returned (.tuple #[v, .int .i64 ((scanL l 0).2 : Int)]) ∧ w'.ownsRow w.heap.size 24 2 v (scanL l 0).1.length (rv (scanL l 0).1) ∧ Below w.heap.size w w' :=
  callsIn_wide.1 (fScan_in w a n cap l hT hA hn)

/-- The program's frames are as the laws ask. -/
theorem frames : Frames Tab where
  below := fun _ _ h f => h.below f
  write := fun w r hT _ => fWrite_any w r hT
  first := fun w a n cap l hT hA hn => fFirst_any w a n cap l hT hA.room hA.most (by omega) hA.bs
  scan := fun w a n cap l hT hA hn => fScan_any w a n cap l hT hA hn
  all := fun w a n cap rs hT hA _ hn => fAll_any w a n cap rs hT hA hn
  size := fun w r _ _ => fSize_any w r

end Go.Proofs.YtnkmcndbbapeoaaDoor
