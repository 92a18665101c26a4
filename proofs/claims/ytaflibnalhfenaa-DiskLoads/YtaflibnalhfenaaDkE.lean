/- Contracts of behind, latest and settle over a sector as a plain value. -/
import Derived.Test.YtaflibnalhfenaaDkD
namespace Go.Proofs.Ytaflibnalhfenaa
open Go.RowKit
set_option linter.unusedVariables false

theorem flat_at : ∀ (l : List (List UInt8)) (m j : Nat), (∀ x ∈ l, x.length = 256) → m < l.length → j < 256 → (l.flatMap bv)[m * 256 + j]? = (bv (l.getD m []))[j]?
  | [], _, _, _, h, _ => by simp at h
  | x :: l, 0, j, hl, _, hj => by
    have hx : (bv x).length = 256 := by rw [bv_length]; exact hl x (by simp)
    simp only [List.flatMap_cons, Nat.zero_mul, Nat.zero_add, List.getD_cons_zero]
    rw [List.getElem?_append_left (by omega)]
  | x :: l, m + 1, j, hl, hm, hj => by
    have hx : (bv x).length = 256 := by rw [bv_length]; exact hl x (by simp)
    simp only [List.flatMap_cons, List.getD_cons_succ]
    rw [List.getElem?_append_right (by omega), hx, show (m + 1) * 256 + j - 256 = m * 256 + j by omega]
    exact flat_at l m j (fun y hy => hl y (by simp [hy])) (by simpa using hm) hj

theorem flat_len : ∀ (l : List (List UInt8)), (∀ x ∈ l, x.length = 256) → (l.flatMap bv).length = l.length * 256
  | [], _ => by simp
  | x :: l, h => by
    have hx : (bv x).length = 256 := by rw [bv_length]; exact h x (by simp)
    simp only [List.flatMap_cons, List.length_append, hx, List.length_cons, flat_len l (fun y hy => h y (by simp [hy]))]
    omega

theorem SecAt.form {w : World} {B g o : Nat} {v : Value} {s : Sec} (h : SecAt w B g o v s) (m : Nat) (hm : m < s.wait.length) :
    ∃ q cap, v = .slice (some ⟨q, 0, none⟩) s.wait.length cap ∧ s.wait.length ≤ 9223372036854775807 ∧ w.rangeAt q (m * 256) (bv (s.wait.getD m [])) := by
  rcases h.own.2 with ⟨_, h0⟩ | ⟨q, cap, cur, hv, hb, hq, hnc, hcm, hcs, htk⟩
  · omega
  · refine ⟨q, cap, hv, by unfold maxLen at hcm; omega, fun j u hu => ?_⟩
    have hl : (bv (s.wait.getD m [])).length = 256 := by rw [bv_length]; exact Sec.pick_len h.ok (m + 1) hm
    have hj := (List.getElem?_eq_some_iff.1 hu).1
    rw [cell_of_row _ _ _ cur _ _ hq]
    have e := flat_at s.wait m j h.ok.2 hm (by omega)
    rw [← htk, List.getElem?_take, if_pos (by omega)] at e
    rw [← hu, ← e]
    simp

theorem behind_any (B g o : Nat) (w : World) (v : Value) (s : Sec) (h : SecAt w B g o v s) (k : Nat) (hk : k ≤ s.wait.length) :
    Calls Try.prog 49 #[.pointer (some ⟨g, o, none⟩), .int .i64 k] w fun e w' => e = .returned (.agg (bv (s.pick k)).toArray) ∧ w' = w.alloc (.cells (bv (s.pick k)).toArray 75) := by
  cases k with
  | zero => exact behind_sure g o w (bv s.sure) (by rw [bv_length]; exact h.ok.1) (bv_one _) h.sure
  | succ m =>
    obtain ⟨q, cap, rfl, hn, hr⟩ := h.form m hk
    exact behind_wait g o w q s.wait.length cap (m + 1) (by omega) hk hn h.cell (bv (s.wait.getD m [])) (by rw [bv_length]; exact Sec.pick_len h.ok (m + 1) hk) (bv_one _) (by simpa using hr)

theorem SecAt.sl {w : World} {B g o : Nat} {v : Value} {s : Sec} (h : SecAt w B g o v s) : ∃ a cap, v = .slice a s.wait.length cap := by
  rcases h.own.2 with ⟨hv, h0⟩ | ⟨q, cap, cur, hv, _⟩
  · exact ⟨none, 0, by rw [hv, h0]⟩
  · exact ⟨_, cap, hv⟩

theorem size_any (B g o : Nat) (w : World) (v : Value) (s : Sec) (h : SecAt w B g o v s) :
    Calls Try.prog 45 #[.pointer (some ⟨g, o, none⟩)] w fun e w' => e = .returned (.int .i64 s.wait.length) ∧ w' = w := by
  obtain ⟨a, cap, rfl⟩ := h.sl
  exact size_at g o w a s.wait.length cap h.cell

theorem SecAt.alloc {w : World} {B g o : Nat} {v : Value} {s : Sec} (h : SecAt w B g o v s) (ob : Obj) : SecAt (w.alloc ob) B g o v s :=
  ⟨h.ok, cell_alloc h.cell ob, World.rangeAt_alloc h.sure ob, h.own.alloc ob⟩

theorem results_cell_mid {fn : Func} {p : Tmp} {ty : TypeId} (h : fn.results = #[.cell p ty]) (tmps : Array Value) (w : World) (g o : Nat) (cs : List Value) (d : TypeDesc)
    (hp : tmps.getD p undef = .pointer (some ⟨g, o, none⟩)) (hr : w.rangeAt g o cs) (hu : Try.prog.underlying ty = some d) (hd : d.isRow = true) (hi : (Try.prog.info? ty).map (·.size) = some cs.length) :
    (results fn tmps).run Try.prog w = .ok (.agg cs.toArray) w := by
  have hp' : tmps[p]?.getD undef = .pointer (some ⟨g, o, none⟩) := by simpa using hp
  simp [results, h, hp', asAddr, run_loadVar_mid w g o ty cs d hr hu hd hi]

theorem below_setCells {B b : Nat} : ∀ (vs : List Value) (o : Nat) {w0 w : World}, Below B w0 w → B ≤ b → Below B w0 (w.setCells b o vs)
  | [], _, _, _, h, _ => h
  | v :: r, o, _, _, h, hb => below_setCells r (o + 1) (h.setCell (p := ⟨b, o, none⟩) hb v) hb

theorem there_of_block {w : World} {b : Nat} {c : Array Value} {e : TypeId} (h : w.heap[b]? = some (.cells c e (0, 0))) (o n : Nat) (hn : o + n ≤ c.size) : w.there b o n := fun j hj =>
  ⟨by rw [cell_of_row _ _ _ _ _ _ h, Array.getElem?_eq_getElem (by omega)]; rfl, frozen_of_row _ _ _ _ _ h⟩

set_option maxRecDepth 100000 in
set_option maxHeartbeats 400000 in
theorem latest_any (B g o : Nat) (w : World) (v : Value) (s : Sec) (h : SecAt w B g o v s) :
    Calls Try.prog 47 #[.pointer (some ⟨g, o, none⟩)] w fun e w' => e = .returned (.agg (bv s.last).toArray) ∧ Below w.heap.size w w' := by
  have hz := zeroV
  have hl : (bv (s.pick s.wait.length)).length = 256 := by rw [bv_length]; exact Sec.pick_len h.ok _ (Nat.le_refl _)
  have hA := h.alloc (.cells zrow 75)
  have ht : ((w.alloc (.cells zrow 75)).alloc (.cells (bv (s.pick s.wait.length)).toArray 75)).there w.heap.size 0 (bv (s.pick s.wait.length)).toArray.size :=
    World.there_alloc (there_of_block (heap_alloc_last w _) 0 _ (by simp [hl, zrow_size])) _
  go_enter Try.func47, Try.ntmps47
  go_wp2_with fail
  refine (size_any B g o _ v s hA).mono ?_
  rintro e w' ⟨rfl, rfl⟩
  go_wp2_with fail
  refine (behind_any B g o _ v s hA s.wait.length (Nat.le_refl _)).mono ?_
  rintro e w' ⟨rfl, rfl⟩
  go_wp2_with (refine wpList_store_mid rfl 75 _ _ rfl w.heap.size 0 _ rfl rfl ht (sizeVa hl) (all_oneCell_toArray (bv_one _)) ?_)
  refine bodyPost_ret (v := .agg (bv s.last).toArray) ?_ rfl ⟨rfl, ?_⟩
  · exact results_cell_mid Try.results47 _ _ w.heap.size 0 _ _ rfl (World.rangeAt_setCells_same _ _ _ _ (by simpa using ht)) Try.underlying75 rfl (sizeV hl)
  · exact below_setCells _ _ (((Below.refl _ _).alloc (Nat.le_refl _) _).alloc (by simp) _) (Nat.le_refl _)

set_option maxRecDepth 100000 in
set_option maxHeartbeats 400000 in
theorem settle_any (B g o : Nat) (w : World) (v : Value) (s : Sec) (h : SecAt w B g o v s) (k : Nat) (hk : k ≤ s.wait.length) (ht : w.there g o 257) :
    Calls Try.prog 44 #[.pointer (some ⟨g, o, none⟩), .int .i64 k] w fun e w' => e = .returned (.tuple #[]) ∧
      w' = ((w.alloc (.cells (bv (s.pick k)).toArray 75)).setCells g (o + 1) (bv (s.pick k))).setCell ⟨g, o, none⟩ (.slice none 0 0) := by
  have hl : (bv (s.pick k)).length = 256 := by rw [bv_length]; exact Sec.pick_len h.ok _ hk
  have ht1 : (w.alloc (.cells (bv (s.pick k)).toArray 75)).there g (o + 1) (bv (s.pick k)).toArray.size := by
    refine World.there_alloc (fun j hj => ?_) _
    have := ht (1 + j) (by simp [hl] at hj; omega)
    rw [← Nat.add_assoc] at this
    exact this
  have hc : ((w.alloc (.cells (bv (s.pick k)).toArray 75)).setCells g (o + 1) (bv (s.pick k))).cell? ⟨g, o, none⟩ = some v := by
    rw [World.cell?_setCells_out _ _ _ _ _ (fun _ _ => .inl (by show o < o + 1; omega))]
    exact cell_alloc h.cell _
  have hf : ((w.alloc (.cells (bv (s.pick k)).toArray 75)).setCells g (o + 1) (bv (s.pick k))).frozen? ⟨g, o, none⟩ = false := by
    rw [World.frozen?_setCells, World.frozen?_alloc_past _ _ _ (World.block_lt_of_cell? w _ h.cell)]
    exact (ht 0 (by omega)).2
  go_enter Try.func44, Try.ntmps44
  go_wp2_with fail
  refine (behind_any B g o _ v s h k hk).mono ?_
  rintro e w' ⟨rfl, rfl⟩
  go_wp2_with (refine wpList_store_mid rfl 75 _ _ rfl g (o + 1) _ rfl rfl ht1 (sizeVa hl) (all_oneCell_toArray (bv_one _)) ?_)
  go_end0
  exact ⟨rfl, rfl⟩

end Go.Proofs.Ytaflibnalhfenaa
