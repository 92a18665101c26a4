/- Layer 15, the landed code: isFree, isFreeWithWords, member, endsFree. -/
import Derived.Test.YtgiohebbmjgefaaJHpA

namespace Go.Proofs.Ytgiohebbmjgefaa
open Go.RowKit
set_option linter.unusedVariables false
set_option maxRecDepth 100000

theorem ty_nil (t : List UInt8) : (⟨t.toArray⟩ : ByteArray).toList.isEmpty = t.isEmpty := by
  cases t <;> simp
theorem ty_eq (t u : List UInt8) : (⟨t.toArray⟩ : ByteArray).toList = t := by simp
set_option maxHeartbeats 400000 in
theorem isFree_any (w : World) (t : List UInt8) (s : Sl) :
    Calls Try.prog 39 #[.agg #[.string ⟨t.toArray⟩, s.v]] w fun e w' => e = .returned (.bool t.isEmpty) ∧ Below w.heap.size w w' := by
  obtain ⟨a, n, c⟩ := s
  unfold Sl.v
  simp only
  have h1 := ty_nil t
  generalize (⟨t.toArray⟩ : ByteArray) = st at *
  go_enter Try.func39, Try.ntmps39
  go_wp2
  go_ret
  exact ⟨by simp, (Below.refl _ _).alloc (Nat.le_refl _) _⟩
set_option maxHeartbeats 400000 in
theorem isFreeW_any (w : World) (t : List UInt8) (s : Sl) :
    Calls Try.prog 35 #[.agg #[.string ⟨t.toArray⟩, s.v]] w fun e w' => e = .returned (.bool (t.isEmpty && decide (0 < s.n))) ∧ Below w.heap.size w w' := by
  obtain ⟨a, n, c⟩ := s
  have HF := hide (fun W => isFree_any W t ⟨a, n, c⟩)
  unfold Sl.v at *
  simp only at HF ⊢
  generalize (⟨t.toArray⟩ : ByteArray) = st at *
  go_enter Try.func35, Try.ntmps35
  go_wp2_with fail
  refine (unhide HF _).mono ?_
  rintro e w1 ⟨rfl, f1⟩
  have HB := hide (((Below.refl _ _).alloc (Nat.le_refl _) _).trans (f1.mono (by simp)))
  have k0 : w1.heap[w.heap.size]? = some (.cells #[.string st, .slice a n c] 29 (0, 0)) := (f1.block _ (by simp)).trans (heap_alloc_last _ _)
  have k1 := bx_cell k0 1 _ rfl
  clear f1 k0
  cases ht : t.isEmpty
  · go_wp2
    go_ret
    exact ⟨by simp at ht ⊢; simp [ht], unhide HB⟩
  · go_wp2
    go_ret
    exact ⟨by simp at ht ⊢; simp [ht], unhide HB⟩
theorem memb_row {α : Type} {sz by_ : Nat} {cs : α → List Value} {ok : α → Prop} {w : World} {s : Sl} {l : List α} (h : LIn sz by_ cs ok w s l) {k : Nat} {x : α} (hx : l[k]? = some x) : ∃ b o, s.a = some ⟨b, o, none⟩ ∧ ∀ {w' : World}, Below w.heap.size w w' → RowAt w' b (o + k * sz) (cs x) := by
  have hn : s.n ≠ 0 := by
    have := h.ls.1
    have := (List.getElem?_eq_some_iff.1 hx).1
    omega
  obtain ⟨b, o, e, q⟩ := Ls.row h.ls (w' := w) hn
  exact ⟨b, o, e, fun f => q f k x hx⟩
theorem res_ct {fn : Func} {p u : Tmp} {ty : TypeId} (h : fn.results = #[.cell p ty, .tmp u]) (tmps : Array Value) (w : World) (g : Nat) (t : TypeId) (cs : Array Value) (fr : Nat × Nat) (fs : Array Field)
    (hp : tmps.getD p undef = .pointer (some ⟨g, 0, none⟩)) (hg : w.heap[g]? = some (.cells cs t fr))
    (hu : Try.prog.underlying ty = some (.struct fs)) (hi : (Try.prog.info? ty).map (·.size) = some cs.size) :
    (results fn tmps).run Try.prog w = .ok (.tuple #[.agg cs, tmps.getD u undef]) w := by
  have hp' : tmps[p]?.getD undef = .pointer (some ⟨g, 0, none⟩) := by simpa using hp
  simp [results, h, hp', asAddr, run_loadVar_row w g t ty cs fr _ hg hu rfl hi, Result.andThen]
theorem sizeOb : (Try.prog.info? 29).map (·.size) = some 2 := by kernel_rfl
theorem sizeVl : (Try.prog.info? 33).map (·.size) = some 2 := by kernel_rfl
theorem res_ot {fn : Func} {p u : Tmp} (h : fn.results = #[.cell p 29, .tmp u]) (W : World) (r : Nat) (x y : Value) (hb : W.heap[r]? = some (.cells #[x, y] 29 (0, 0))) (tmps : Array Value) (hp : tmps.getD p undef = .pointer (some ⟨r, 0, none⟩)) :
    (results fn tmps).run Try.prog W = .ok (.tuple #[.agg #[x, y], tmps.getD u undef]) W := res_ct h _ _ r 29 _ (0, 0) _ hp hb Try.underlying29 sizeOb
theorem res_o {fn : Func} {p : Tmp} (h : fn.results = #[.cell p 29]) (W : World) (r : Nat) (x y : Value) (hb : W.heap[r]? = some (.cells #[x, y] 29 (0, 0))) (tmps : Array Value) (hp : tmps.getD p undef = .pointer (some ⟨r, 0, none⟩)) :
    (results fn tmps).run Try.prog W = .ok (.agg #[x, y]) W := results_cell_row h _ _ r 29 _ (0, 0) _ hp hb Try.underlying29 rfl sizeOb
theorem res_vt {fn : Func} {p u : Tmp} (h : fn.results = #[.cell p 33, .tmp u]) (W : World) (r : Nat) (x y : Value) (hb : W.heap[r]? = some (.cells #[x, y] 33 (0, 0))) (tmps : Array Value) (hp : tmps.getD p undef = .pointer (some ⟨r, 0, none⟩)) :
    (results fn tmps).run Try.prog W = .ok (.tuple #[.agg #[x, y], tmps.getD u undef]) W := res_ct h _ _ r 33 _ (0, 0) _ hp hb Try.underlying33 sizeVl
theorem res_v {fn : Func} {p : Tmp} (h : fn.results = #[.cell p 33]) (W : World) (r : Nat) (x y : Value) (hb : W.heap[r]? = some (.cells #[x, y] 33 (0, 0))) (tmps : Array Value) (hp : tmps.getD p undef = .pointer (some ⟨r, 0, none⟩)) :
    (results fn tmps).run Try.prog W = .ok (.agg #[x, y]) W := results_cell_row h _ _ r 33 _ (0, 0) _ hp hb Try.underlying33 rfl sizeVl
def memO (w : World) (n : Nat) (rs : List ObR) (k : Int) (e : Ending) (w' : World) : Prop := Below w.heap.size w w' ∧ ((0 ≤ k ∧ k < (n : Int) ∧ ∃ r, rs[k.toNat]? = some r ∧ e = .returned (.tuple #[.agg #[.string ⟨r.ty.toArray⟩, r.s.v], .int .i64 0])) ∨ (¬ (0 ≤ k ∧ k < (n : Int)) ∧ e = .returned (.tuple #[.agg #[.string ⟨#[]⟩, .slice none 0 0], .int .i64 150])))
set_option maxHeartbeats 800000 in
theorem memberO_any (w : World) (s : Sl) (rs : List ObR) (h : HIn w s rs) (k : Int) (hk : fitI k) :
    Calls Try.prog 43 #[s.v, .int .i64 k] w (memO w s.n rs k) := by
  obtain ⟨a, n, c⟩ := s
  have hln := h.ls.1
  have hsm := h.small
  simp only at hln hsm
  have r0 : (w.alloc (.cells #[.string ⟨#[]⟩, .slice none 0 0] 29)).heap[w.heap.size]? = some (.cells #[.string ⟨#[]⟩, .slice none 0 0] 29 (0, 0)) := heap_alloc_last _ _
  have j0 := bx_cell r0 0 _ rfl
  have j1 := bx_cell r0 1 _ rfl
  have y0 := bx_thaw r0 0
  have y1 := bx_thaw r0 1
  by_cases hin : 0 ≤ k ∧ k < (n : Int)
  · obtain ⟨h0, h1⟩ := hin
    obtain ⟨j, rfl⟩ : ∃ j : Nat, k = (j : Int) := ⟨k.toNat, by omega⟩
    obtain ⟨x, hx⟩ : ∃ x, rs[j]? = some x := ⟨_, List.getElem?_eq_getElem (by omega)⟩
    obtain ⟨b, o, ea, q⟩ := memb_row h hx
    simp only at ea
    subst ea
    have q1 := q ((Below.refl w.heap.size w).alloc (Nat.le_refl _) (.cells #[.string ⟨#[]⟩, .slice none 0 0] 29))
    obtain ⟨ty, ⟨sa, sn, sc⟩, ws⟩ := x
    have d0 := q1.zero
    have d1 := q1 1 _ rfl
    simp only [Sl.v] at d0 d1 ⊢
    have HX : Hid (rs[j]? = some _) := hide hx
    have hlt0 : ¬ ((j : Int) < 0) := by omega
    clear h q q1 hx hk r0
    generalize hst : (⟨ty.toArray⟩ : ByteArray) = st at *
    go_enter Try.func43, Try.ntmps43
    go_wp2
    refine bodyPost_ret (res_ot Try.results43 _ w.heap.size _ _ (heap_alloc_last _ _) _ rfl) rfl ⟨(Below.refl _ _).alloc (Nat.le_refl _) _, ?_⟩
    refine .inl ⟨h0, h1, _, unhide HX, ?_⟩
    simp only [← hst]
    rfl
  · unfold Sl.v
    simp only
    clear h r0
    go_enter Try.func43, Try.ntmps43
    by_cases h0 : k < 0
    · go_wp2
      refine bodyPost_ret (res_ot Try.results43 _ w.heap.size _ _ ?_ _ rfl) rfl ⟨?_, .inr ⟨hin, rfl⟩⟩
      · exact (heap_alloc_old _ _ (by simp)).trans (heap_alloc_last _ _)
      · exact ((Below.refl _ _).alloc (Nat.le_refl _) _).alloc (by simp) _
    · have h1 : (n : Int) ≤ k := by omega
      go_wp2
      refine bodyPost_ret (res_ot Try.results43 _ w.heap.size _ _ ?_ _ rfl) rfl ⟨?_, .inr ⟨hin, rfl⟩⟩
      · exact (heap_alloc_old _ _ (by simp)).trans (heap_alloc_last _ _)
      · exact ((Below.refl _ _).alloc (Nat.le_refl _) _).alloc (by simp) _
def memV (w : World) (n : Nat) (rs : List Vl) (k : Int) (e : Ending) (w' : World) : Prop := Below w.heap.size w w' ∧ ((0 ≤ k ∧ k < (n : Int) ∧ ∃ r, rs[k.toNat]? = some r ∧ e = .returned (.tuple #[.agg #[.int .i64 r.kind, .int .i64 r.n], .int .i64 0])) ∨ (¬ (0 ≤ k ∧ k < (n : Int)) ∧ e = .returned (.tuple #[.agg #[.int .i64 0, .int .i64 0], .int .i64 150])))
set_option maxHeartbeats 800000 in
theorem memberV_any (w : World) (s : Sl) (rs : List Vl) (h : WsIn w s rs) (k : Int) (hk : fitI k) :
    Calls Try.prog 38 #[s.v, .int .i64 k] w (memV w s.n rs k) := by
  obtain ⟨a, n, c⟩ := s
  have hln := h.ls.1
  have hsm := h.small
  simp only at hln hsm
  have r0 : (w.alloc (.cells #[.int .i64 0, .int .i64 0] 33)).heap[w.heap.size]? = some (.cells #[.int .i64 0, .int .i64 0] 33 (0, 0)) := heap_alloc_last _ _
  have j0 := bx_cell r0 0 _ rfl
  have j1 := bx_cell r0 1 _ rfl
  have y0 := bx_thaw r0 0
  have y1 := bx_thaw r0 1
  by_cases hin : 0 ≤ k ∧ k < (n : Int)
  · obtain ⟨h0, h1⟩ := hin
    obtain ⟨j, rfl⟩ : ∃ j : Nat, k = (j : Int) := ⟨k.toNat, by omega⟩
    obtain ⟨x, hx⟩ : ∃ x, rs[j]? = some x := ⟨_, List.getElem?_eq_getElem (by omega)⟩
    obtain ⟨b, o, ea, q⟩ := memb_row h hx
    simp only at ea
    subst ea
    have q1 := q ((Below.refl w.heap.size w).alloc (Nat.le_refl _) (.cells #[.int .i64 0, .int .i64 0] 33))
    obtain ⟨kd, vn⟩ := x
    have d0 := q1.zero
    have d1 := q1 1 _ rfl
    simp only [Sl.v] at d0 d1 ⊢
    have HX : Hid (rs[j]? = some _) := hide hx
    have hlt0 : ¬ ((j : Int) < 0) := by omega
    clear h q q1 hx hk r0
    go_enter Try.func38, Try.ntmps38
    go_wp2
    refine bodyPost_ret (res_vt Try.results38 _ w.heap.size _ _ (heap_alloc_last _ _) _ rfl) rfl ⟨(Below.refl _ _).alloc (Nat.le_refl _) _, ?_⟩
    refine .inl ⟨h0, h1, _, unhide HX, ?_⟩
    rfl
  · unfold Sl.v
    simp only
    clear h r0
    go_enter Try.func38, Try.ntmps38
    by_cases h0 : k < 0
    · go_wp2
      refine bodyPost_ret (res_vt Try.results38 _ w.heap.size _ _ ?_ _ rfl) rfl ⟨?_, .inr ⟨hin, rfl⟩⟩
      · exact (heap_alloc_old _ _ (by simp)).trans (heap_alloc_last _ _)
      · exact ((Below.refl _ _).alloc (Nat.le_refl _) _).alloc (by simp) _
    · have h1 : (n : Int) ≤ k := by omega
      go_wp2
      refine bodyPost_ret (res_vt Try.results38 _ w.heap.size _ _ ?_ _ rfl) rfl ⟨?_, .inr ⟨hin, rfl⟩⟩
      · exact (heap_alloc_old _ _ (by simp)).trans (heap_alloc_last _ _)
      · exact ((Below.refl _ _).alloc (Nat.le_refl _) _).alloc (by simp) _
/-- A struct of two cells that stands in memory. -/
theorem stands2 {t : TypeId} (w1 : World) (x y : Value) : ∀ (W : World), Below (w1.alloc (.cells #[x, y] t)).heap.size (w1.alloc (.cells #[x, y] t)) W → W.cell? ⟨w1.heap.size, 0, none⟩ = some x ∧ W.cell? ⟨w1.heap.size, 1, none⟩ = some y := fun W f => by
  have h := (f.block w1.heap.size (by simp)).trans (heap_alloc_last w1 (.cells #[x, y] t))
  exact ⟨bx_cell h 0 _ rfl, bx_cell h 1 _ rfl⟩
end Go.Proofs.Ytgiohebbmjgefaa
