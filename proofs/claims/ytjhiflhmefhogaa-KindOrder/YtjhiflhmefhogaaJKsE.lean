/- The landed Above: what the iterator gives, collected. -/
import Derived.Test.YtjhiflhmefhogaaJKsD

namespace Go.Proofs.Ytjhiflhmefhogaa
open Go.RowKit Go.Shelf
set_option linter.unusedVariables false
set_option maxRecDepth 100000
attribute [local go_sem] Oper.semAt_some

theorem ku_t {n₀ : Nat} {X Y Z : World} (h : KU n₀ X Y) (k : KU n₀ Y Z) : KU n₀ X Z := ⟨h.1.trans k.1, fun q V T fr hT hq => k.2 q V T fr hT (h.2 q V T fr hT hq)⟩
theorem gu_cells {n₀ : Nat} (A C : World) (k : Nat) (o : Obj) (h : GU n₀ A C) (hk : A.heap[k]? = some o) (ho : o.isCells = false) : C.heap[k]? = some o :=
  h.2 k o hk (fun X fr e => by rw [e] at ho; cases ho)
theorem put_other {W : World} {l k : Nat} {o o' o2 : Obj} (hl : W.heap[l]? = some o) (ho : o.isCells = false) (hk : W.heap[k]? = some o2) (h2 : o2.isCells = true) : (W.putObj l o').heap[k]? = some o2 := by
  refine (World.putObj_heap_other (fun e => ?_)).trans hk
  subst e
  rw [hk] at hl
  injection hl with hl
  rw [hl, ho] at h2
  cases h2
theorem ku_b {n₀ : Nat} {w : World} (hn : n₀ ≤ w.heap.size) (W : World) (l : Nat) (o o' : Obj) (hl : w.heap.size ≤ l) (h : W.heap[l]? = some o) (h1 : o.isCells = false) : KU n₀ W (W.putObj l o') :=
  ⟨(Below.refl n₀ W).grown (grownBy_putObj' W l o') (by have := lt_of_heap h; omega) (fun k e => by cases e; omega), fun k X T fr hT hk => put_other h h1 hk rfl⟩
def stc (x : List UInt8) : List Value := [.string ⟨x.toArray⟩]
theorem rkS : Rk stc 9 43 1 16 (.string ⟨#[]⟩) := ⟨fun _ => rfl, fun x u hu => by simp [stc] at hu; subst hu; rfl, by decide, by kernel_rfl, rfl, Try.underlying43⟩
theorem orw_blk {α : Type} {cs : α → List Value} {e : TypeId} {sz : Nat} {w : World} {base : Nat} {v : Value} {l : List α} (h : Orw cs e sz w base v l) {k : Nat} (hk : v.ownBlock = some k) : ∃ X fr, w.heap[k]? = some (.cells X e fr) := by
  rcases h.2 with ⟨hv, _⟩ | ⟨g, cap, cur, hv, hb, hh, r⟩
  · rw [hv] at hk; cases hk
  · rw [hv] at hk
    injection hk with hk
    subst hk
    exact ⟨_, _, hh⟩
/-- Between two rounds: the list in its box. -/
def CI (w : World) (pre : List (List UInt8)) (W : World) : Prop := ∃ v, Boxed W w.heap.size 43 v ∧ Orw stc 9 1 W w.heap.size v pre ∧ Below w.heap.size w W
theorem ci_stays (w w0 : World) (hw : w.heap.size ≤ w0.heap.size) : Stays (α := List UInt8) w0.heap.size (GU w.heap.size) (CI w) := by
  refine ⟨fun s A C h g => ?_, fun s A l o o' h hl hk ho => ?_, fun s A o h => ?_⟩
  · obtain ⟨v, hb, hr, hB⟩ := h
    refine ⟨v, g.2 _ _ hb (fun X fr e => by injection e with _ e; cases e), hr.below (fun k hk => ?_), hB.trans g.1⟩
    obtain ⟨X, fr, hX⟩ := orw_blk hr hk
    rw [hX]
    exact g.2 _ _ hX (fun X fr e => by injection e with _ e; cases e)
  · obtain ⟨v, hb, hr, hB⟩ := h
    refine ⟨v, put_other hk ho hb rfl, hr.below (fun k hk' => ?_), hB.trans ((Below.refl _ A).grown (grownBy_putObj' A l o') hB.size (fun k e => by cases e; omega))⟩
    obtain ⟨X, fr, hX⟩ := orw_blk hr hk'
    rw [hX]
    exact put_other hk ho hX rfl
  · obtain ⟨v, hb, hr, hB⟩ := h
    exact ⟨v, hb.alloc o, orw_alloc hr o, hB.alloc hB.size o⟩
theorem ci_next {w W w1 : World} {pre : List (List UInt8)} {x : List UInt8} {v v' : Value} {tmp : Obj} (hv : Boxed W w.heap.size 43 v) (hrow : Orw stc 9 1 W w.heap.size v pre) (hB : Below w.heap.size w W)
    (hown' : w1.ownsRow w.heap.size 9 1 v' (pre.length + 1) (pre.flatMap stc ++ [.string ⟨x.toArray⟩])) (hgrow : (W.alloc tmp).grownBy w1 v.ownBlock) :
    Boxed w1 w.heap.size 43 v ∧ KeepsOthers W (w1.setCell ⟨w.heap.size, 0, none⟩ v') ∧ KU w.heap.size W (w1.setCell ⟨w.heap.size, 0, none⟩ v') ∧ CI w (pre ++ [x]) (w1.setCell ⟨w.heap.size, 0, none⟩ v') := by
  obtain ⟨hv1, hv2, hr2, hk2, hb2⟩ := hv.appended (by decide) hrow hB.size (Nat.le_refl _) hown' hgrow
  refine ⟨hv1, hk2, ⟨hb2, fun k X T fr hT hk => ?_⟩, v', hv2, ?_, hB.trans hb2⟩
  · have h1 : k ≠ w.heap.size := fun e => by
      subst e
      rw [show W.heap[w.heap.size]? = _ from hv] at hk
      injection hk with hk
      injection hk with _ hk
      rcases hT with h | h <;> (rw [h] at hk; cases hk)
    refine (Below.heap_setCell _ _ _ _ h1).trans ((hgrow.block k (by have := lt_of_heap hk; simp; omega) (fun e => ?_)).trans ((Below.heap_alloc W tmp k (lt_of_heap hk)).trans hk))
    obtain ⟨Y, fr', hY⟩ := orw_blk hrow e.symm
    rw [hk] at hY
    injection hY with hY
    injection hY with _ hY
    rcases hT with h | h <;> (rw [h] at hY; cases hY)
  · unfold Orw
    rw [List.length_append, List.flatMap_append]
    exact hr2
set_option maxHeartbeats 2000000 in
theorem appendSeq_in (w : World) (Bl Bn : Nat) (a : Option Addr) (n cap : Nat) (l : List Nc) (hL : Ls 5 ncc w a n l) (hn : n ≤ 40) (NM : ByteArray) (nm : List UInt8) (hNM : Str NM nm) (hB : w.heap[Bl]? = some (.cells #[.slice a n cap] 40 (0, 0))) (hB2 : w.cell? ⟨Bn, 0, none⟩ = some (.string NM)) :
    CallsIn Fence.wide 5 Try.prog 48 #[.slice none 0 0, .func (.func 49) #[] #[.pointer (some ⟨Bl, 0, none⟩), .pointer (some ⟨Bn, 0, none⟩)]] w fun e w' => ∃ v, e = .returned v ∧ Orw stc 9 1 w' w.heap.size v (upL l nm) ∧ Below w.heap.size w w' := by
  refine callsIn_of_wp_marks Try.func48 rfl trivial ?_ rfl
  simp only [Try.ntmps48, List.size_toArray, List.length_cons, List.length_nil, Nat.reduceAdd, Nat.reduceSub, Array.replicate_succ, Array.replicate_zero, List.push_toArray, List.append_toArray, List.nil_append, List.cons_append]
  obtain ⟨i0, hi, hz0, hz1, hz2⟩ := info_parts rkS.info
  gi_wp2
  have hbox := Boxed.new w 43 (.slice none 0 0)
  have hB0 : Below w.heap.size w (w.alloc (.cells #[.slice none 0 0] 43)) := bA (Below.refl _ _) _
  have hC0 : CI w [] (w.alloc (.cells #[.slice none 0 0] 43)) := ⟨_, hbox, Orw.nil _ _ _ _ _, hB0⟩
  have hsz : (w.alloc (.cells #[.slice none 0 0] 43)).heap.size = w.heap.size + 1 := by simp
  have hseq : Iter Fence.wide (5 - 1) Try.prog 49 #[.pointer (some ⟨Bl, 0, none⟩), .pointer (some ⟨Bn, 0, none⟩)] encN (GU w.heap.size) (KU w.heap.size) (fun xs => xs = upL l nm) (fun pre => ∃ rest, upL l nm = pre ++ rest) (n + 1) (w.alloc (.cells #[.slice none 0 0] 43)) := fun lp J Jx W hW hJ _ hY h0 => by
    have f := hB0.trans (hW.mono hB0.size)
    exact upwards1_in 4 lp Bl Bn (by omega) w W a n cap l hL hn NM nm hNM J Jx hY hJ f ((f.block _ (lt_of_heap hB)).trans hB) ((f.cell (World.block_lt_of_cell? w _ hB2)).trans hB2) h0
  clear hbox hB0 hB hB2 hNM hL
  generalize w.alloc (.cells #[.slice none 0 0] 43) = W0 at *
  refine range_over (α := List UInt8) (encs := encN) (G := GU w.heap.size) (Kp := KU w.heap.size) (S := fun xs => xs = upL l nm) (Sp := fun pre => ∃ rest, upL l nm = pre ++ rest) (N := n + 1) rfl (by omega) (gf := 49) (lb := #[.pointer (some ⟨Bl, 0, none⟩), .pointer (some ⟨Bn, 0, none⟩)]) rfl trivial (enters_of Try.func49 (by kernel_rfl) rfl) (fun _ => rfl) gu_cells (fun h k => ku_t h k) (ku_b (n₀ := w.heap.size) (w := W0) (by omega)) hseq (CI w) (fun _ _ _ => False) (ci_stays w W0 (by omega)) (fun _ => ⟨fun _ _ _ h _ => h, fun _ _ _ _ _ h _ _ _ => h, fun _ _ _ h => h⟩) hC0
    (fun x => { tmps := #[.slice none 0 0, .func (.func 49) #[] #[.pointer (some ⟨Bl, 0, none⟩), .pointer (some ⟨Bn, 0, none⟩)], .pointer (some ⟨w.heap.size, 0, none⟩), undef, .slice none 0 0, .string ⟨x.toArray⟩, .func (.func 49) #[] #[.pointer (some ⟨Bl, 0, none⟩), .pointer (some ⟨Bn, 0, none⟩)], .string ⟨x.toArray⟩, undef, undef, undef, undef, undef], defers := [] }) ?assign ?body ?done ?stop
  case assign =>
    intro lp x W K hK
    gi_wp2
    exact hK
  case body =>
    rintro lp pre x W ⟨v, hv, hrow, hB⟩ hlt
    clear hseq hC0
    obtain ⟨oa, oc, rfl, _, _, _⟩ := hrow.form
    have hcv := hv.cell
    have HNX := hide (fun v' w1 => ci_next (v' := v') (w1 := w1) (x := x) (tmp := .cells #[.string ⟨x.toArray⟩] 9) hv hrow hB)
    have hrow1 : (W.alloc (.cells #[.string ⟨x.toArray⟩] 9)).ownsRow w.heap.size 9 1 (.slice oa pre.length oc) pre.length (pre.flatMap stc) := orw_alloc hrow _
    have hsrc : ∀ j u, [Value.string ⟨x.toArray⟩][j]? = some u → (W.alloc (.cells #[.string ⟨x.toArray⟩] 9)).cell? (Addr.add ⟨W.heap.size, 0, none⟩ j) = some u := World.news_of_block (heap_alloc_last W _)
    have hone : ∀ u ∈ [Value.string ⟨x.toArray⟩], u.oneCell' = true := by simp [Value.oneCell']
    have hc3 : pre.length + 1 ≤ maxLen := by unfold maxLen; omega
    have hc5 : w.heap.size ≤ (W.alloc (.cells #[.string ⟨x.toArray⟩] 9)).heap.size := by have := hB.size; simp; omega
    clear hv hrow hB
    gi_wp2_with (gi_at_builtin; refine wpListIn_append_own _ rfl (.tmp 8) (.tmp 10) 43 rfl w.heap.size 9 i0 (.string ⟨#[]⟩) 1 16 Try.underlying43 hi hz0 hz1 hz2 rfl (by decide) _ _ _ rfl hrow1 ⟨W.heap.size, 0, none⟩ 1 1 [.string ⟨x.toArray⟩] rfl rfl hsrc hone hc3 (by omega) hc5 ?_; intro v' w1 hown' hgrow _; obtain ⟨g', cap', rfl⟩ := ownsRow_succ hown'; obtain ⟨hv1, hk2, hp2, hS2⟩ := unhide HNX _ _ hown' hgrow; have hc1 := hv1.cell; have hf1 := hv1.frozen)
    exact ⟨hk2.from _, hp2, hS2⟩
  case done =>
    rintro D xs W hD hS ⟨v, hv, hrow, hB⟩ hK
    have hc1 := hv.cell
    have HS := hide hS
    have HR := hide hrow
    have HB := hide hB
    clear hS hseq hC0 hv hrow hB
    gi_wp2
    refine ⟨by simp, .inl ⟨_, _, rfl, run_takeDeferred hK, ?_⟩⟩
    refine ⟨_, results_tmp rfl _ _ _, v, rfl, ?_, ?_⟩
    · have hx : xs = upL l nm := unhide HS
      rw [← hx]
      refine (unhide HR).below (fun k hk => ?_)
      obtain ⟨X, fr, hX⟩ := orw_blk (unhide HR) hk
      rw [hX]
      exact put_other hK rfl hX rfl
    · exact (unhide HB).trans ((Below.refl _ W).grown (grownBy_putObj' W D _) (unhide HB).size (fun k e => by cases e; omega))
  case stop =>
    rintro D c pre W _ _ h _
    exact h.elim
set_option maxHeartbeats 800000 in
theorem collect_in (w : World) (Bl Bn : Nat) (a : Option Addr) (n cap : Nat) (l : List Nc) (hL : Ls 5 ncc w a n l) (hn : n ≤ 40) (NM : ByteArray) (nm : List UInt8) (hNM : Str NM nm) (hB : w.heap[Bl]? = some (.cells #[.slice a n cap] 40 (0, 0))) (hB2 : w.cell? ⟨Bn, 0, none⟩ = some (.string NM)) :
    Calls Try.prog 42 #[.func (.func 49) #[] #[.pointer (some ⟨Bl, 0, none⟩), .pointer (some ⟨Bn, 0, none⟩)]] w fun e w' => ∃ v, e = .returned v ∧ Orw stc 9 1 w' w.heap.size v (upL l nm) ∧ Below w.heap.size w w' := by
  have HA := hide (callsIn_wide.1 (appendSeq_in w Bl Bn a n cap l hL hn NM nm hNM hB hB2))
  clear hL hNM hB hB2
  go_enter Try.func42, Try.ntmps42
  go_wp2_with fail
  refine (unhide HA).mono ?_
  rintro e w1 ⟨v, rfl, o1, f1⟩
  have O1 := hide o1
  have F1 := hide f1
  clear o1 f1
  go_wp2
  go_ret
  exact ⟨v, rfl, unhide O1, unhide F1⟩
set_option maxHeartbeats 800000 in
theorem yAbove_any (w : World) (a : Option Addr) (n cap : Nat) (l : List Nc) (hL : Ls 5 ncc w a n l) (hn : n ≤ 40) (NM : ByteArray) (nm : List UInt8) (hNM : Str NM nm) :
    Calls Try.prog 25 #[.slice a n cap, .string NM] w fun e w' => ∃ v, e = .returned v ∧ Orw stc 9 1 w' w.heap.size v (upL l nm) ∧ Below w.heap.size w w' := by
  have g : Below w.heap.size w ((w.alloc (.cells #[.slice a n cap] 40)).alloc (.cells #[.string NM] 9)) := bA (bA (Below.refl _ _) _) _
  have HU := hide (yupwards_any w a n cap NM)
  have hc2 : ((w.alloc (.cells #[.slice a n cap] 40)).alloc (.cells #[.string NM] 9)).cell? ⟨w.heap.size + 1, 0, none⟩ = some (.string NM) := by
    have t := heap_alloc_last (w.alloc (.cells #[.slice a n cap] 40)) (.cells #[.string NM] 9)
    rw [show (w.alloc (.cells #[.slice a n cap] 40)).heap.size = w.heap.size + 1 by simp] at t
    rw [cell_of_row _ _ _ _ _ _ t]
    rfl
  have HC := hide (collect_in _ w.heap.size (w.heap.size + 1) a n cap l (hL.below g) hn NM nm hNM ((heap_alloc_old _ _ (by simp)).trans (heap_alloc_last w _)) hc2)
  have G := hide g
  clear hL hNM g hc2
  go_enter Try.func25, Try.ntmps25
  go_wp2_with fail
  refine (unhide HU).mono ?_
  rintro e w1 ⟨rfl, rfl⟩
  go_wp2_with fail
  refine (unhide HC).mono ?_
  rintro e w2 ⟨v, rfl, o2, f2⟩
  have O2 := hide (o2.base (unhide G).size)
  have F2 := hide ((unhide G).trans (f2.mono (unhide G).size))
  clear o2 f2
  go_wp2
  go_ret
  exact ⟨v, rfl, unhide O2, unhide F2⟩
end Go.Proofs.Ytjhiflhmefhogaa
