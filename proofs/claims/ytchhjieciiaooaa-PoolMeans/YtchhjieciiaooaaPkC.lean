/- The landed pool: just, leadsRight. -/
import Derived.Test.YtchhjieciiaooaaPkB
namespace Go.Proofs.Ytchhjieciiaooaa
open Go.RowKit
set_option linter.unusedVariables false

theorem k3_bel (w : World) (X Y Z : Obj) : Below w.heap.size w (((w.alloc X).alloc Y).alloc Z) := (two_bel w X Y).alloc (by simp; omega) _
theorem k3_mid (w : World) (X Y Z : Obj) : (((w.alloc X).alloc Y).alloc Z).heap[w.heap.size + 1]? = some Y := (heap_alloc_old _ _ (by simp)).trans (heap_alloc2_new w X Y)
theorem sizeEnt : (Try.prog.info? 67).map (·.size) = some 5 := by kernel_rfl
set_option maxHeartbeats 3200000 in
set_option maxRecDepth 100000 in
theorem kjust_any (w : World) (x : Ent) :
    Calls Try.prog 63 #[entV x] w fun e w' => e = .returned (entV (justE x)) ∧ Below w.heap.size w w' := by
  obtain ⟨tag, text, n, a, b⟩ := x
  unfold entV
  simp only
  by_cases t1 : tag = 1
  case pos =>
    subst t1
    have e1 : justE ⟨1, text, n, a, b⟩ = ⟨1, text, 0, 0, 0⟩ := rfl
    rw [e1]
    simp only
    clear e1
    generalize (⟨text.toArray⟩ : ByteArray) = st at *
    go_enter Try.func63, Try.ntmps63
    go_wp2
    refine bodyPost_ret (v := .agg #[.int .i64 1, .string st, .int .i64 0, .int .i64 0, .int .i64 0]) ?_ rfl ⟨rfl, k3_bel w _ _ _⟩
    exact results_cell_row Try.results63 _ _ (w.heap.size + 1) 67 _ (0, 0) _ rfl (k3_mid w _ _ _) Try.underlying67 rfl sizeEnt
  by_cases t3 : tag = 3
  case pos =>
    subst t3
    have e1 : justE ⟨3, text, n, a, b⟩ = ⟨3, [], n, 0, 0⟩ := rfl
    rw [e1]
    simp only
    clear e1
    generalize (⟨text.toArray⟩ : ByteArray) = st at *
    go_enter Try.func63, Try.ntmps63
    go_wp2
    refine bodyPost_ret (v := .agg #[.int .i64 3, .string ⟨#[]⟩, .int .i64 n, .int .i64 0, .int .i64 0]) ?_ rfl ⟨rfl, k3_bel w _ _ _⟩
    exact results_cell_row Try.results63 _ _ (w.heap.size + 1) 67 _ (0, 0) _ rfl (k3_mid w _ _ _) Try.underlying67 rfl sizeEnt
  by_cases t5 : tag = 5
  case pos =>
    subst t5
    have e1 : justE ⟨5, text, n, a, b⟩ = ⟨5, [], n, 0, 0⟩ := rfl
    rw [e1]
    simp only
    clear e1
    generalize (⟨text.toArray⟩ : ByteArray) = st at *
    go_enter Try.func63, Try.ntmps63
    go_wp2
    refine bodyPost_ret (v := .agg #[.int .i64 5, .string ⟨#[]⟩, .int .i64 n, .int .i64 0, .int .i64 0]) ?_ rfl ⟨rfl, k3_bel w _ _ _⟩
    exact results_cell_row Try.results63 _ _ (w.heap.size + 1) 67 _ (0, 0) _ rfl (k3_mid w _ _ _) Try.underlying67 rfl sizeEnt
  by_cases t9 : tag = 9
  case pos =>
    subst t9
    have e1 : justE ⟨9, text, n, a, b⟩ = ⟨9, [], 0, a, b⟩ := rfl
    rw [e1]
    simp only
    clear e1
    generalize (⟨text.toArray⟩ : ByteArray) = st at *
    go_enter Try.func63, Try.ntmps63
    go_wp2
    refine bodyPost_ret (v := .agg #[.int .i64 9, .string ⟨#[]⟩, .int .i64 0, .int .i64 a, .int .i64 b]) ?_ rfl ⟨rfl, k3_bel w _ _ _⟩
    exact results_cell_row Try.results63 _ _ (w.heap.size + 1) 67 _ (0, 0) _ rfl (k3_mid w _ _ _) Try.underlying67 rfl sizeEnt
  by_cases t10 : tag = 10
  case pos =>
    subst t10
    have e1 : justE ⟨10, text, n, a, b⟩ = ⟨10, [], 0, a, b⟩ := rfl
    rw [e1]
    simp only
    clear e1
    generalize (⟨text.toArray⟩ : ByteArray) = st at *
    go_enter Try.func63, Try.ntmps63
    go_wp2
    refine bodyPost_ret (v := .agg #[.int .i64 10, .string ⟨#[]⟩, .int .i64 0, .int .i64 a, .int .i64 b]) ?_ rfl ⟨rfl, k3_bel w _ _ _⟩
    exact results_cell_row Try.results63 _ _ (w.heap.size + 1) 67 _ (0, 0) _ rfl (k3_mid w _ _ _) Try.underlying67 rfl sizeEnt
  by_cases t12 : tag = 12
  case pos =>
    subst t12
    have e1 : justE ⟨12, text, n, a, b⟩ = ⟨12, [], 0, a, b⟩ := rfl
    rw [e1]
    simp only
    clear e1
    generalize (⟨text.toArray⟩ : ByteArray) = st at *
    go_enter Try.func63, Try.ntmps63
    go_wp2
    refine bodyPost_ret (v := .agg #[.int .i64 12, .string ⟨#[]⟩, .int .i64 0, .int .i64 a, .int .i64 b]) ?_ rfl ⟨rfl, k3_bel w _ _ _⟩
    exact results_cell_row Try.results63 _ _ (w.heap.size + 1) 67 _ (0, 0) _ rfl (k3_mid w _ _ _) Try.underlying67 rfl sizeEnt
  by_cases t7 : tag = 7
  case pos =>
    subst t7
    have e1 : justE ⟨7, text, n, a, b⟩ = ⟨7, [], 0, a, 0⟩ := rfl
    rw [e1]
    simp only
    clear e1
    generalize (⟨text.toArray⟩ : ByteArray) = st at *
    go_enter Try.func63, Try.ntmps63
    go_wp2
    refine bodyPost_ret (v := .agg #[.int .i64 7, .string ⟨#[]⟩, .int .i64 0, .int .i64 a, .int .i64 0]) ?_ rfl ⟨rfl, k3_bel w _ _ _⟩
    exact results_cell_row Try.results63 _ _ (w.heap.size + 1) 67 _ (0, 0) _ rfl (k3_mid w _ _ _) Try.underlying67 rfl sizeEnt
  have e1 : justE ⟨tag, text, n, a, b⟩ = ent0 := by
    unfold justE
    simp only
    rw [if_neg t1, if_neg (by omega), if_neg (by omega), if_neg t7]
  rw [e1]
  unfold ent0
  simp only
  have b1 : (tag == 1) = false := by simpa using t1
  have b3 : (tag == 3) = false := by simpa using t3
  have b5 : (tag == 5) = false := by simpa using t5
  have b9 : (tag == 9) = false := by simpa using t9
  have b10 : (tag == 10) = false := by simpa using t10
  have b12 : (tag == 12) = false := by simpa using t12
  have b7 : (tag == 7) = false := by simpa using t7
  clear e1 t1 t3 t5 t7 t9 t10 t12
  generalize (⟨text.toArray⟩ : ByteArray) = st at *
  go_enter Try.func63, Try.ntmps63
  go_wp2
  refine bodyPost_ret (v := .agg #[.int .i64 0, .string ⟨#[]⟩, .int .i64 0, .int .i64 0, .int .i64 0]) ?_ rfl ⟨rfl, k3_bel w _ _ _⟩
  exact results_cell_row Try.results63 _ _ (w.heap.size + 1) 67 _ (0, 0) _ rfl (k3_mid w _ _ _) Try.underlying67 rfl sizeEnt

set_option maxHeartbeats 3200000 in
set_option maxRecDepth 100000 in
theorem kleads_any (w : World) (a : Option Addr) (n c : Nat) (l : List Ent) (h : Es w a n l) (x : Ent) (hx : EntFit x) (hn : n ≤ 140737488351232) :
    Calls Try.prog 65 #[.slice a n c, entV x] w fun e w' => e = .returned (.bool (leadsE l x)) ∧ Below w.heap.size w w' := by
  have HA : Hid (∀ W, Below w.heap.size w W → Calls Try.prog 44 #[.slice a n c, .int .i64 x.a] W fun e w' => e = .returned (.int .i64 (tagE l x.a)) ∧ w' = W) := fun W f => ktagAt_any W a n c l (h.below f) x.a hx.2.2.1 hn
  have HB : Hid (∀ W, Below w.heap.size w W → Calls Try.prog 44 #[.slice a n c, .int .i64 x.b] W fun e w' => e = .returned (.int .i64 (tagE l x.b)) ∧ w' = W) := fun W f => ktagAt_any W a n c l (h.below f) x.b hx.2.2.2 hn
  unfold leadsE
  generalize tagE l x.a = TA at *
  generalize tagE l x.b = TB at *
  obtain ⟨tag, text, nn, aa, bb⟩ := x
  unfold entV
  simp only at HA HB ⊢
  clear h hx
  have dec : ∀ (x y : Int), decide (x = y) = (x == y) := fun x y => by rw [Bool.eq_iff_iff]; simp
  simp only [dec]
  have b0 : Below w.heap.size w (w.alloc (.cells #[.int .i64 tag, .string ⟨text.toArray⟩, .int .i64 nn, .int .i64 aa, .int .i64 bb] 67)) := (Below.refl _ _).alloc (Nat.le_refl _) _
  have B0 := hide b0
  clear b0 dec
  generalize (⟨text.toArray⟩ : ByteArray) = st at *
  by_cases t9 : tag = 9
  case pos =>
    subst t9
    rw [if_pos (by omega)]
    by_cases h7 : TA = 7
    · subst h7
      go_enter Try.func65, Try.ntmps65
      go_wp2_with fail
      refine (unhide HA _ (unhide B0)).mono ?_
      rintro e w1 ⟨rfl, e0⟩
      have e0' := e0.symm
      clear e0
      subst e0'
      go_wp2_with fail
      refine (unhide HB _ (unhide B0)).mono ?_
      rintro e w1 ⟨rfl, e0⟩
      have e0' := e0.symm
      clear e0
      subst e0'
      go_wp2
      go_ret
      exact ⟨rfl, unhide B0⟩
    · have h7' : (TA == 7) = false := by simpa using h7
      rw [h7', Bool.false_and]
      clear h7
      go_enter Try.func65, Try.ntmps65
      go_wp2_with fail
      refine (unhide HA _ (unhide B0)).mono ?_
      rintro e w1 ⟨rfl, e0⟩
      have e0' := e0.symm
      clear e0
      subst e0'
      go_wp2
      go_ret
      exact ⟨rfl, unhide B0⟩
  by_cases t10 : tag = 10
  case pos =>
    subst t10
    rw [if_pos (by omega)]
    by_cases h7 : TA = 7
    · subst h7
      go_enter Try.func65, Try.ntmps65
      go_wp2_with fail
      refine (unhide HA _ (unhide B0)).mono ?_
      rintro e w1 ⟨rfl, e0⟩
      have e0' := e0.symm
      clear e0
      subst e0'
      go_wp2_with fail
      refine (unhide HB _ (unhide B0)).mono ?_
      rintro e w1 ⟨rfl, e0⟩
      have e0' := e0.symm
      clear e0
      subst e0'
      go_wp2
      go_ret
      exact ⟨rfl, unhide B0⟩
    · have h7' : (TA == 7) = false := by simpa using h7
      rw [h7', Bool.false_and]
      clear h7
      go_enter Try.func65, Try.ntmps65
      go_wp2_with fail
      refine (unhide HA _ (unhide B0)).mono ?_
      rintro e w1 ⟨rfl, e0⟩
      have e0' := e0.symm
      clear e0
      subst e0'
      go_wp2
      go_ret
      exact ⟨rfl, unhide B0⟩
  rw [if_neg (by omega)]
  by_cases t12 : tag = 12
  case pos =>
    subst t12
    rw [if_pos rfl]
    by_cases h1 : TB = 1
    · subst h1
      go_enter Try.func65, Try.ntmps65
      go_wp2_with fail
      refine (unhide HB _ (unhide B0)).mono ?_
      rintro e w1 ⟨rfl, e0⟩
      have e0' := e0.symm
      clear e0
      subst e0'
      go_wp2_with fail
      refine (unhide HA _ (unhide B0)).mono ?_
      rintro e w1 ⟨rfl, e0⟩
      have e0' := e0.symm
      clear e0
      subst e0'
      go_wp2
      go_ret
      exact ⟨rfl, unhide B0⟩
    · have h1' : (TB == 1) = false := by simpa using h1
      rw [h1', Bool.false_and]
      clear h1
      go_enter Try.func65, Try.ntmps65
      go_wp2_with fail
      refine (unhide HB _ (unhide B0)).mono ?_
      rintro e w1 ⟨rfl, e0⟩
      have e0' := e0.symm
      clear e0
      subst e0'
      go_wp2
      go_ret
      exact ⟨rfl, unhide B0⟩
  rw [if_neg t12]
  by_cases t7 : tag = 7
  case pos =>
    subst t7
    rw [if_pos rfl]
    go_enter Try.func65, Try.ntmps65
    go_wp2_with fail
    refine (unhide HA _ (unhide B0)).mono ?_
    rintro e w1 ⟨rfl, e0⟩
    have e0' := e0.symm
    clear e0
    subst e0'
    go_wp2
    go_ret
    exact ⟨rfl, unhide B0⟩
  rw [if_neg t7]
  have b9 : (tag == 9) = false := by simpa using t9
  have b10 : (tag == 10) = false := by simpa using t10
  have b12 : (tag == 12) = false := by simpa using t12
  have b7 : (tag == 7) = false := by simpa using t7
  clear t7 t9 t10 t12
  go_enter Try.func65, Try.ntmps65
  go_wp2
  go_ret
  exact ⟨rfl, unhide B0⟩

end Go.Proofs.Ytchhjieciiaooaa
