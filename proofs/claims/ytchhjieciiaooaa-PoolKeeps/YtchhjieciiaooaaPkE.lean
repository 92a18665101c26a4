/- The landed pool: meaning. -/
import Derived.Test.YtchhjieciiaooaaPkD
import Derived.Deep.RegionLaw
namespace Go.Proofs.Ytchhjieciiaooaa
open Go.RowKit
set_option linter.unusedVariables false

theorem kc3 {w : World} {p : Addr} {v : Value} (h : w.cell? p = some v) : ∀ X Y Z, (((w.alloc X).alloc Y).alloc Z).cell? p = some v := fun X Y Z => cell_alloc (cell_alloc (cell_alloc h X) Y) Z
theorem k3_first (w : World) (X Y Z : Obj) : (((w.alloc X).alloc Y).alloc Z).heap[w.heap.size]? = some X := (heap_alloc_old _ _ (by simp; omega)).trans (two_heap w X Y)
theorem k3_last (w : World) (X Y Z : Obj) : (((w.alloc X).alloc Y).alloc Z).heap[w.heap.size + 1 + 1]? = some Z := by
  have := heap_alloc_last ((w.alloc X).alloc Y) Z
  simpa using this

set_option maxHeartbeats 6400000 in
set_option maxRecDepth 100000 in
theorem kmeaning_none (w : World) (a : Option Addr) (n c : Nat) (l : List Ent) (h : Es w a n l) (hr : rightL l) (x : Ent) (ht : x.tag = 0 ∨ x.tag = 1) (hn : n ≤ 140737488351232) :
    Calls Try.prog 45 #[.slice a n c, entV x] w fun e w' => e = .returned (cstV (meanN l x)) ∧ Below w.heap.size w w' := by
  have e1 : meanN l x = ⟨x.tag, 0, [], [], []⟩ := by
    unfold meanN
    rw [if_neg (by omega), if_neg (by omega), if_neg (by omega), if_neg (by omega)]
  rw [e1]
  obtain ⟨tag, text, nn, aa, bb⟩ := x
  simp only at ht
  unfold entV cstV
  simp only
  clear h hr e1
  have b3 : (tag == 3) = false := by rw [beq_eq_false_iff_ne]; omega
  have b5 : (tag == 5) = false := by rw [beq_eq_false_iff_ne]; omega
  have b7 : (tag == 7) = false := by rw [beq_eq_false_iff_ne]; omega
  have b9 : (tag == 9) = false := by rw [beq_eq_false_iff_ne]; omega
  have b10 : (tag == 10) = false := by rw [beq_eq_false_iff_ne]; omega
  have b12 : (tag == 12) = false := by rw [beq_eq_false_iff_ne]; omega
  clear ht
  generalize (⟨text.toArray⟩ : ByteArray) = st at *
  go_enter Try.func45, Try.ntmps45
  go_wp2
  refine bodyPost_ret (v := .agg #[.int .i64 tag, .int .i64 0, .string ⟨#[]⟩, .string ⟨#[]⟩, .string ⟨#[]⟩]) ?_ rfl ⟨rfl, k3_bel w _ _ _⟩
  exact results_cell_row Try.results45 _ _ (w.heap.size + 1) 50 _ (0, 0) _ rfl (k3_mid w _ _ _) Try.underlying50 rfl sizeCst

set_option maxHeartbeats 6400000 in
set_option maxRecDepth 100000 in
theorem kmeaning_num3 (w : World) (a : Option Addr) (n c : Nat) (l : List Ent) (h : Es w a n l) (hr : rightL l) (x : Ent) (ht : x.tag = 3) (hn : n ≤ 140737488351232) :
    Calls Try.prog 45 #[.slice a n c, entV x] w fun e w' => e = .returned (cstV (meanN l x)) ∧ Below w.heap.size w w' := by
  have e1 : meanN l x = ⟨3, x.n, [], [], []⟩ := by
    unfold meanN
    rw [if_pos (by omega), ht]
  rw [e1]
  obtain ⟨tag, text, nn, aa, bb⟩ := x
  simp only at ht
  subst ht
  unfold entV cstV
  simp only
  clear h hr e1
  generalize (⟨text.toArray⟩ : ByteArray) = st at *
  go_enter Try.func45, Try.ntmps45
  go_wp2
  refine bodyPost_ret (v := .agg #[.int .i64 3, .int .i64 nn, .string ⟨#[]⟩, .string ⟨#[]⟩, .string ⟨#[]⟩]) ?_ rfl ⟨rfl, k3_bel w _ _ _⟩
  exact results_cell_row Try.results45 _ _ (w.heap.size + 1) 50 _ (0, 0) _ rfl (k3_mid w _ _ _) Try.underlying50 rfl sizeCst

set_option maxHeartbeats 6400000 in
set_option maxRecDepth 100000 in
theorem kmeaning_num5 (w : World) (a : Option Addr) (n c : Nat) (l : List Ent) (h : Es w a n l) (hr : rightL l) (x : Ent) (ht : x.tag = 5) (hn : n ≤ 140737488351232) :
    Calls Try.prog 45 #[.slice a n c, entV x] w fun e w' => e = .returned (cstV (meanN l x)) ∧ Below w.heap.size w w' := by
  have e1 : meanN l x = ⟨5, x.n, [], [], []⟩ := by
    unfold meanN
    rw [if_pos (by omega), ht]
  rw [e1]
  obtain ⟨tag, text, nn, aa, bb⟩ := x
  simp only at ht
  subst ht
  unfold entV cstV
  simp only
  clear h hr e1
  generalize (⟨text.toArray⟩ : ByteArray) = st at *
  go_enter Try.func45, Try.ntmps45
  go_wp2
  refine bodyPost_ret (v := .agg #[.int .i64 5, .int .i64 nn, .string ⟨#[]⟩, .string ⟨#[]⟩, .string ⟨#[]⟩]) ?_ rfl ⟨rfl, k3_bel w _ _ _⟩
  exact results_cell_row Try.results45 _ _ (w.heap.size + 1) 50 _ (0, 0) _ rfl (k3_mid w _ _ _) Try.underlying50 rfl sizeCst

set_option maxHeartbeats 6400000 in
set_option maxRecDepth 100000 in
theorem kmeaning_class (w : World) (a : Option Addr) (n c : Nat) (l : List Ent) (h : Es w a n l) (hr : rightL l) (x : Ent) (ht : x.tag = 7) (hok : okE l x = true) (hn : n ≤ 140737488351232) :
    Calls Try.prog 45 #[.slice a n c, entV x] w fun e w' => e = .returned (cstV (meanN l x)) ∧ Below w.heap.size w w' := by
  have hln := h.1
  have hlen := right_len hr
  obtain ⟨b, o, rfl, hE⟩ := h.2.resolve_left (by omega)
  have hget : ∀ (q : Int), (atE l q).tag ≠ 0 → ∃ r : Nat, q = r ∧ r < n ∧ l[r]? = some (atE l q) := fun q hq => by
    obtain ⟨r, e1, e2, e3⟩ := atE_in hq
    exact ⟨r, e1, by omega, e3⟩
  have hro : ∀ q : Int, (atE l q).tag ≠ 0 → okE l (atE l q) = true := fun q hq => right_ok hr hq
  have e1 : meanN l x = ⟨7, 0, (atE l x.a).text, [], []⟩ := by
    unfold meanN
    rw [if_neg (by omega), if_pos ht]
  rw [e1]
  have ho : (atE l x.a).tag = 1 := by
    unfold okE at hok
    simp [ht] at hok
    exact hok.1
  obtain ⟨tag, text, nn, aa, bb⟩ := x
  simp only at ht ho ⊢
  subst ht
  obtain ⟨r, rfl, hrn, hrr⟩ := hget aa (by omega)
  obtain ⟨_, g1, _, _, _⟩ := ents_get hE hrr
  have q1 := kc3 g1
  have hrn' : (r : Int) < (n : Int) := by omega
  unfold entV cstV
  simp only
  generalize (atE l (r : Int)).text = tx at *
  clear hget hro hok hE hrr g1 ho e1 h hr
  generalize (⟨text.toArray⟩ : ByteArray) = st at *
  generalize (⟨tx.toArray⟩ : ByteArray) = st2 at *
  go_enter Try.func45, Try.ntmps45
  go_wp2
  refine bodyPost_ret (v := .agg #[.int .i64 7, .int .i64 0, .string st2, .string ⟨#[]⟩, .string ⟨#[]⟩]) ?_ rfl ⟨rfl, k3_bel w _ _ _⟩
  exact results_cell_row Try.results45 _ _ (w.heap.size + 1) 50 _ (0, 0) _ rfl (k3_mid w _ _ _) Try.underlying50 rfl sizeCst

set_option maxHeartbeats 6400000 in
set_option maxRecDepth 100000 in
theorem kmeaning_name (w : World) (a : Option Addr) (n c : Nat) (l : List Ent) (h : Es w a n l) (hr : rightL l) (x : Ent) (ht : x.tag = 12) (hok : okE l x = true) (hn : n ≤ 140737488351232) :
    Calls Try.prog 45 #[.slice a n c, entV x] w fun e w' => e = .returned (cstV (meanN l x)) ∧ Below w.heap.size w w' := by
  have hln := h.1
  have hlen := right_len hr
  obtain ⟨b, o, rfl, hE⟩ := h.2.resolve_left (by omega)
  have hget : ∀ (q : Int), (atE l q).tag ≠ 0 → ∃ r : Nat, q = r ∧ r < n ∧ l[r]? = some (atE l q) := fun q hq => by
    obtain ⟨r, e1, e2, e3⟩ := atE_in hq
    exact ⟨r, e1, by omega, e3⟩
  have hro : ∀ q : Int, (atE l q).tag ≠ 0 → okE l (atE l q) = true := fun q hq => right_ok hr hq
  have e1 : meanN l x = ⟨12, 0, [], (atE l x.a).text, (atE l x.b).text⟩ := by
    unfold meanN
    rw [if_neg (by omega), if_neg (by omega), if_neg (by omega), if_pos ht]
  rw [e1]
  have ho : (atE l x.a).tag = 1 ∧ (atE l x.b).tag = 1 := by
    unfold okE at hok
    simp [ht] at hok
    exact hok.1
  obtain ⟨tag, text, nn, aa, bb⟩ := x
  simp only at ht ho ⊢
  subst ht
  obtain ⟨s1, rfl, hs1n, hs1⟩ := hget aa (by omega)
  obtain ⟨s2, rfl, hs2n, hs2⟩ := hget bb (by omega)
  obtain ⟨_, u1, _, _, _⟩ := ents_get hE hs1
  obtain ⟨_, v1, _, _, _⟩ := ents_get hE hs2
  have i4 : (s1 : Int) < (n : Int) := by omega
  have i5 : (s2 : Int) < (n : Int) := by omega
  unfold entV cstV
  simp only
  generalize (atE l (s1 : Int)).text = tx2 at *
  generalize (atE l (s2 : Int)).text = tx3 at *
  clear hget hro hok hE hs1 hs2 ho e1 h hr
  generalize (⟨text.toArray⟩ : ByteArray) = st at *
  generalize (⟨tx2.toArray⟩ : ByteArray) = z2 at *
  generalize (⟨tx3.toArray⟩ : ByteArray) = z3 at *
  have x1 := kc3 u1
  have y1 := kc3 v1
  go_enter Try.func45, Try.ntmps45
  go_wp2
  have hX := k3_first w (.cells #[.int .i64 12, .string st, .int .i64 nn, .int .i64 (s1 : Int), .int .i64 (s2 : Int)] 67) (.cells #[.int .i64 0, .int .i64 0, .string ⟨#[]⟩, .string ⟨#[]⟩, .string ⟨#[]⟩] 50) (.cells #[.int .i64 12, .int .i64 0, .string ⟨#[]⟩, .string ⟨#[]⟩, .string ⟨#[]⟩] 50)
  have hR := k3_mid w (.cells #[.int .i64 12, .string st, .int .i64 nn, .int .i64 (s1 : Int), .int .i64 (s2 : Int)] 67) (.cells #[.int .i64 0, .int .i64 0, .string ⟨#[]⟩, .string ⟨#[]⟩, .string ⟨#[]⟩] 50) (.cells #[.int .i64 12, .int .i64 0, .string ⟨#[]⟩, .string ⟨#[]⟩, .string ⟨#[]⟩] 50)
  have hC := k3_last w (.cells #[.int .i64 12, .string st, .int .i64 nn, .int .i64 (s1 : Int), .int .i64 (s2 : Int)] 67) (.cells #[.int .i64 0, .int .i64 0, .string ⟨#[]⟩, .string ⟨#[]⟩, .string ⟨#[]⟩] 50) (.cells #[.int .i64 12, .int .i64 0, .string ⟨#[]⟩, .string ⟨#[]⟩, .string ⟨#[]⟩] 50)
  have hB := k3_bel w (.cells #[.int .i64 12, .string st, .int .i64 nn, .int .i64 (s1 : Int), .int .i64 (s2 : Int)] 67) (.cells #[.int .i64 0, .int .i64 0, .string ⟨#[]⟩, .string ⟨#[]⟩, .string ⟨#[]⟩] 50) (.cells #[.int .i64 12, .int .i64 0, .string ⟨#[]⟩, .string ⟨#[]⟩, .string ⟨#[]⟩] 50)
  have x1' := x1 (.cells #[.int .i64 12, .string st, .int .i64 nn, .int .i64 (s1 : Int), .int .i64 (s2 : Int)] 67) (.cells #[.int .i64 0, .int .i64 0, .string ⟨#[]⟩, .string ⟨#[]⟩, .string ⟨#[]⟩] 50) (.cells #[.int .i64 12, .int .i64 0, .string ⟨#[]⟩, .string ⟨#[]⟩, .string ⟨#[]⟩] 50)
  have y1' := y1 (.cells #[.int .i64 12, .string st, .int .i64 nn, .int .i64 (s1 : Int), .int .i64 (s2 : Int)] 67) (.cells #[.int .i64 0, .int .i64 0, .string ⟨#[]⟩, .string ⟨#[]⟩, .string ⟨#[]⟩] 50) (.cells #[.int .i64 12, .int .i64 0, .string ⟨#[]⟩, .string ⟨#[]⟩, .string ⟨#[]⟩] 50)
  generalize ((w.alloc (.cells #[.int .i64 12, .string st, .int .i64 nn, .int .i64 (s1 : Int), .int .i64 (s2 : Int)] 67)).alloc (.cells #[.int .i64 0, .int .i64 0, .string ⟨#[]⟩, .string ⟨#[]⟩, .string ⟨#[]⟩] 50)).alloc (.cells #[.int .i64 12, .int .i64 0, .string ⟨#[]⟩, .string ⟨#[]⟩, .string ⟨#[]⟩] 50) = W3 at *
  have l3 : W3.cell? ⟨w.heap.size, 3, none⟩ = some (.int .i64 (s1 : Int)) := by rw [cell_of_row _ _ _ _ _ _ hX]; rfl
  have l4 : W3.cell? ⟨w.heap.size, 4, none⟩ = some (.int .i64 (s2 : Int)) := by rw [cell_of_row _ _ _ _ _ _ hX]; rfl
  have nb : ¬ b = w.heap.size + 1 + 1 := fun e => by
    have := World.block_lt_of_cell? w _ u1
    simp at this
    omega
  have nb' : ¬ w.heap.size + 1 + 1 = b := fun e => nb e.symm
  have nh : ¬ w.heap.size = w.heap.size + 1 + 1 := by omega
  have nh' : ¬ w.heap.size + 1 + 1 = w.heap.size := by omega
  have fz : ∀ j, W3.frozen? ⟨w.heap.size + 1 + 1, j, none⟩ = false := fun j => frozen_of_row _ _ _ _ _ hC
  have k3 : W3.cell? ⟨w.heap.size + 1 + 1, 3, none⟩ = some (.string ⟨#[]⟩) := by rw [cell_of_row _ _ _ _ _ _ hC]; rfl
  have k4 : W3.cell? ⟨w.heap.size + 1 + 1, 4, none⟩ = some (.string ⟨#[]⟩) := by rw [cell_of_row _ _ _ _ _ _ hC]; rfl
  have HR := hide hR
  have HC := hide hC
  have HB := hide hB
  clear x1 y1 hR hB hC hX u1 v1
  go_region_held_law (fun W => W.cell? ⟨w.heap.size, 3, none⟩ = some (.int .i64 (s1 : Int)) ∧ W.cell? ⟨w.heap.size, 4, none⟩ = some (.int .i64 (s2 : Int)) ∧ W.cell? ⟨b, o + s1 * 5 + 1, none⟩ = some (.string z2) ∧ W.cell? ⟨b, o + s2 * 5 + 1, none⟩ = some (.string z3)) (go_keep)
    (first | (fail))
  have hC4 : ((W3.setCell ⟨w.heap.size + 1 + 1, 3, none⟩ (.string z2)).setCell ⟨w.heap.size + 1 + 1, 4, none⟩ (.string z3)).drew.heap[w.heap.size + 1 + 1]? = some (.cells #[.int .i64 12, .int .i64 0, .string ⟨#[]⟩, .string z2, .string z3] 50 (0, 0)) := heap_setCell_same _ _ 4 _ _ (.string z3) (heap_setCell_same _ _ 3 _ _ (.string z2) (unhide HC))
  have hR4 : ((W3.setCell ⟨w.heap.size + 1 + 1, 3, none⟩ (.string z2)).setCell ⟨w.heap.size + 1 + 1, 4, none⟩ (.string z3)).drew.heap[w.heap.size + 1]? = _ := (Below.heap_setCell _ _ _ _ (by simp)).trans ((Below.heap_setCell _ _ _ _ (by simp)).trans (unhide HR))
  have hB4 : Below w.heap.size w ((W3.setCell ⟨w.heap.size + 1 + 1, 3, none⟩ (.string z2)).setCell ⟨w.heap.size + 1 + 1, 4, none⟩ (.string z3)).drew := (((unhide HB).setCell (p := ⟨w.heap.size + 1 + 1, 3, none⟩) (by simp; omega) _).setCell (p := ⟨w.heap.size + 1 + 1, 4, none⟩) (by simp; omega) _).drew
  generalize ((W3.setCell ⟨w.heap.size + 1 + 1, 3, none⟩ (.string z2)).setCell ⟨w.heap.size + 1 + 1, 4, none⟩ (.string z3)).drew = W4 at *
  have e0 : W4.cell? ⟨w.heap.size + 1 + 1, 0, none⟩ = some (.int .i64 12) := by rw [cell_of_row _ _ _ _ _ _ hC4]; rfl
  have e1 : W4.cell? ⟨w.heap.size + 1 + 1, 1, none⟩ = some (.int .i64 0) := by rw [cell_of_row _ _ _ _ _ _ hC4]; rfl
  have e2 : W4.cell? ⟨w.heap.size + 1 + 1, 2, none⟩ = some (.string ⟨#[]⟩) := by rw [cell_of_row _ _ _ _ _ _ hC4]; rfl
  have e3 : W4.cell? ⟨w.heap.size + 1 + 1, 3, none⟩ = some (.string z2) := by rw [cell_of_row _ _ _ _ _ _ hC4]; rfl
  have e4 : W4.cell? ⟨w.heap.size + 1 + 1, 4, none⟩ = some (.string z3) := by rw [cell_of_row _ _ _ _ _ _ hC4]; rfl
  obtain ⟨r0, r1', r2, r3, r4⟩ := cstC (x := cst0) hR4
  have fzr : ∀ j, W4.frozen? ⟨w.heap.size + 1, j, none⟩ = false := fun j => frozen_of_row _ _ _ _ _ hR4
  have HR4 := hide hR4
  have HB4 := hide hB4
  clear hC4 hR4 hB4 HR HC HB l3 l4 x1' y1' k3 k4 fz
  go_wp2
  refine bodyPost_ret (v := .agg #[.int .i64 12, .int .i64 0, .string ⟨#[]⟩, .string z2, .string z3]) ?_ rfl ⟨rfl, five_bel _ _ _ _ _ (unhide HB4) (by omega)⟩
  exact results_cell_row Try.results45 _ _ (w.heap.size + 1) 50 _ (0, 0) _ rfl (five_set _ _ _ _ _ (unhide HR4)) Try.underlying50 rfl sizeCst

set_option maxHeartbeats 6400000 in
set_option maxRecDepth 100000 in
theorem kmeaning_ref9 (w : World) (a : Option Addr) (n c : Nat) (l : List Ent) (h : Es w a n l) (hr : rightL l) (x : Ent) (ht : x.tag = 9) (hok : okE l x = true) (hn : n ≤ 140737488351232) :
    Calls Try.prog 45 #[.slice a n c, entV x] w fun e w' => e = .returned (cstV (meanN l x)) ∧ Below w.heap.size w w' := by
  have hln := h.1
  have hlen := right_len hr
  obtain ⟨b, o, rfl, hE⟩ := h.2.resolve_left (by omega)
  have hget : ∀ (q : Int), (atE l q).tag ≠ 0 → ∃ r : Nat, q = r ∧ r < n ∧ l[r]? = some (atE l q) := fun q hq => by
    obtain ⟨r, e1, e2, e3⟩ := atE_in hq
    exact ⟨r, e1, by omega, e3⟩
  have hro : ∀ q : Int, (atE l q).tag ≠ 0 → okE l (atE l q) = true := fun q hq => right_ok hr hq
  have e1 : meanN l x = ⟨9, 0, (atE l (atE l x.a).a).text, (atE l (atE l x.b).a).text, (atE l (atE l x.b).b).text⟩ := by
    unfold meanN
    rw [if_neg (by omega), if_neg (by omega), if_pos (by omega), ht]
  rw [e1]
  have ho : (atE l x.a).tag = 7 ∧ (atE l x.b).tag = 12 := by
    unfold okE at hok
    simp [ht] at hok
    exact hok.1
  obtain ⟨tag, text, nn, aa, bb⟩ := x
  simp only at ht ho ⊢
  subst ht
  have oa := hro aa (by omega)
  have ob := hro bb (by omega)
  have oa1 : (atE l (atE l aa).a).tag = 1 := by
    unfold okE at oa
    simp [ho.1] at oa
    exact oa.1
  have ob1 : (atE l (atE l bb).a).tag = 1 ∧ (atE l (atE l bb).b).tag = 1 := by
    unfold okE at ob
    simp [ho.2] at ob
    exact ob.1
  obtain ⟨r, rfl, hrn, hrr⟩ := hget aa (by omega)
  obtain ⟨s, rfl, hsn, hs⟩ := hget bb (by omega)
  obtain ⟨r1, e1', hr1n, hr1⟩ := hget _ (by rw [oa1]; decide)
  obtain ⟨s1, e2, hs1n, hs1⟩ := hget (atE l (s : Int)).a (by rw [ob1.1]; decide)
  obtain ⟨s2, e3, hs2n, hs2⟩ := hget (atE l (s : Int)).b (by rw [ob1.2]; decide)
  obtain ⟨_, _, _, g3, _⟩ := ents_get hE hrr
  obtain ⟨f0, f1, f2, f3, f4⟩ := ents_get hE hs
  obtain ⟨_, g1, _, _, _⟩ := ents_get hE hr1
  obtain ⟨_, u1, _, _, _⟩ := ents_get hE hs1
  obtain ⟨_, v1, _, _, _⟩ := ents_get hE hs2
  rw [e1'] at g3
  rw [e2] at f3
  rw [e3] at f4
  unfold entV cstV
  simp only
  rw [e1', e2, e3]
  rw [e1'] at g1
  rw [e2] at u1
  rw [e3] at v1
  have p0 := kc3 f0
  have p1 := kc3 f1
  have p2 := kc3 f2
  have p3 := kc3 f3
  have p4 := kc3 f4
  have q3 := kc3 g3
  have q1 := kc3 g1
  have x1 := kc3 u1
  have y1 := kc3 v1
  have i1 : (r : Int) < (n : Int) := by omega
  have i2 : (s : Int) < (n : Int) := by omega
  have i3 : (r1 : Int) < (n : Int) := by omega
  have i4 : (s1 : Int) < (n : Int) := by omega
  have i5 : (s2 : Int) < (n : Int) := by omega
  generalize (atE l (r1 : Int)).text = tx1 at *
  generalize (atE l (s1 : Int)).text = tx2 at *
  generalize (atE l (s2 : Int)).text = tx3 at *
  generalize (atE l (s : Int)).text = tx4 at *
  generalize (atE l (s : Int)).tag = tg4 at *
  generalize (atE l (s : Int)).n = n4 at *
  clear hget hro hok hE hrr hs hr1 hs1 hs2 ho oa ob oa1 ob1 e1 e1' e2 e3 f0 f1 f2 f3 f4 g1 g3 h hr
  generalize (⟨text.toArray⟩ : ByteArray) = st at *
  generalize (⟨tx1.toArray⟩ : ByteArray) = z1 at *
  generalize (⟨tx2.toArray⟩ : ByteArray) = z2 at *
  generalize (⟨tx3.toArray⟩ : ByteArray) = z3 at *
  generalize (⟨tx4.toArray⟩ : ByteArray) = z4 at *
  go_enter Try.func45, Try.ntmps45
  go_wp2
  have hX := k3_first w (.cells #[.int .i64 tg4, .string z4, .int .i64 n4, .int .i64 (s1 : Int), .int .i64 (s2 : Int)] 67) (.cells #[.int .i64 0, .int .i64 0, .string ⟨#[]⟩, .string ⟨#[]⟩, .string ⟨#[]⟩] 50) (.cells #[.int .i64 9, .int .i64 0, .string z1, .string ⟨#[]⟩, .string ⟨#[]⟩] 50)
  have hR := k3_mid w (.cells #[.int .i64 tg4, .string z4, .int .i64 n4, .int .i64 (s1 : Int), .int .i64 (s2 : Int)] 67) (.cells #[.int .i64 0, .int .i64 0, .string ⟨#[]⟩, .string ⟨#[]⟩, .string ⟨#[]⟩] 50) (.cells #[.int .i64 9, .int .i64 0, .string z1, .string ⟨#[]⟩, .string ⟨#[]⟩] 50)
  have hC := k3_last w (.cells #[.int .i64 tg4, .string z4, .int .i64 n4, .int .i64 (s1 : Int), .int .i64 (s2 : Int)] 67) (.cells #[.int .i64 0, .int .i64 0, .string ⟨#[]⟩, .string ⟨#[]⟩, .string ⟨#[]⟩] 50) (.cells #[.int .i64 9, .int .i64 0, .string z1, .string ⟨#[]⟩, .string ⟨#[]⟩] 50)
  have hB := k3_bel w (.cells #[.int .i64 tg4, .string z4, .int .i64 n4, .int .i64 (s1 : Int), .int .i64 (s2 : Int)] 67) (.cells #[.int .i64 0, .int .i64 0, .string ⟨#[]⟩, .string ⟨#[]⟩, .string ⟨#[]⟩] 50) (.cells #[.int .i64 9, .int .i64 0, .string z1, .string ⟨#[]⟩, .string ⟨#[]⟩] 50)
  have x1' := x1 (.cells #[.int .i64 tg4, .string z4, .int .i64 n4, .int .i64 (s1 : Int), .int .i64 (s2 : Int)] 67) (.cells #[.int .i64 0, .int .i64 0, .string ⟨#[]⟩, .string ⟨#[]⟩, .string ⟨#[]⟩] 50) (.cells #[.int .i64 9, .int .i64 0, .string z1, .string ⟨#[]⟩, .string ⟨#[]⟩] 50)
  have y1' := y1 (.cells #[.int .i64 tg4, .string z4, .int .i64 n4, .int .i64 (s1 : Int), .int .i64 (s2 : Int)] 67) (.cells #[.int .i64 0, .int .i64 0, .string ⟨#[]⟩, .string ⟨#[]⟩, .string ⟨#[]⟩] 50) (.cells #[.int .i64 9, .int .i64 0, .string z1, .string ⟨#[]⟩, .string ⟨#[]⟩] 50)
  generalize ((w.alloc (.cells #[.int .i64 tg4, .string z4, .int .i64 n4, .int .i64 (s1 : Int), .int .i64 (s2 : Int)] 67)).alloc (.cells #[.int .i64 0, .int .i64 0, .string ⟨#[]⟩, .string ⟨#[]⟩, .string ⟨#[]⟩] 50)).alloc (.cells #[.int .i64 9, .int .i64 0, .string z1, .string ⟨#[]⟩, .string ⟨#[]⟩] 50) = W3 at *
  have l3 : W3.cell? ⟨w.heap.size, 3, none⟩ = some (.int .i64 (s1 : Int)) := by rw [cell_of_row _ _ _ _ _ _ hX]; rfl
  have l4 : W3.cell? ⟨w.heap.size, 4, none⟩ = some (.int .i64 (s2 : Int)) := by rw [cell_of_row _ _ _ _ _ _ hX]; rfl
  have nb : ¬ b = w.heap.size + 1 + 1 := fun e => by
    have := World.block_lt_of_cell? w _ u1
    simp at this
    omega
  have nb' : ¬ w.heap.size + 1 + 1 = b := fun e => nb e.symm
  have nh : ¬ w.heap.size = w.heap.size + 1 + 1 := by omega
  have nh' : ¬ w.heap.size + 1 + 1 = w.heap.size := by omega
  have fz : ∀ j, W3.frozen? ⟨w.heap.size + 1 + 1, j, none⟩ = false := fun j => frozen_of_row _ _ _ _ _ hC
  have k3 : W3.cell? ⟨w.heap.size + 1 + 1, 3, none⟩ = some (.string ⟨#[]⟩) := by rw [cell_of_row _ _ _ _ _ _ hC]; rfl
  have k4 : W3.cell? ⟨w.heap.size + 1 + 1, 4, none⟩ = some (.string ⟨#[]⟩) := by rw [cell_of_row _ _ _ _ _ _ hC]; rfl
  have HR := hide hR
  have HC := hide hC
  have HB := hide hB
  clear x1 y1 hR hB hC hX u1 v1
  go_region_held_law (fun W => W.cell? ⟨w.heap.size, 3, none⟩ = some (.int .i64 (s1 : Int)) ∧ W.cell? ⟨w.heap.size, 4, none⟩ = some (.int .i64 (s2 : Int)) ∧ W.cell? ⟨b, o + s1 * 5 + 1, none⟩ = some (.string z2) ∧ W.cell? ⟨b, o + s2 * 5 + 1, none⟩ = some (.string z3)) (go_keep)
    (first | (fail))
  have hC4 : ((W3.setCell ⟨w.heap.size + 1 + 1, 3, none⟩ (.string z2)).setCell ⟨w.heap.size + 1 + 1, 4, none⟩ (.string z3)).drew.heap[w.heap.size + 1 + 1]? = some (.cells #[.int .i64 9, .int .i64 0, .string z1, .string z2, .string z3] 50 (0, 0)) := heap_setCell_same _ _ 4 _ _ (.string z3) (heap_setCell_same _ _ 3 _ _ (.string z2) (unhide HC))
  have hR4 : ((W3.setCell ⟨w.heap.size + 1 + 1, 3, none⟩ (.string z2)).setCell ⟨w.heap.size + 1 + 1, 4, none⟩ (.string z3)).drew.heap[w.heap.size + 1]? = _ := (Below.heap_setCell _ _ _ _ (by simp)).trans ((Below.heap_setCell _ _ _ _ (by simp)).trans (unhide HR))
  have hB4 : Below w.heap.size w ((W3.setCell ⟨w.heap.size + 1 + 1, 3, none⟩ (.string z2)).setCell ⟨w.heap.size + 1 + 1, 4, none⟩ (.string z3)).drew := (((unhide HB).setCell (p := ⟨w.heap.size + 1 + 1, 3, none⟩) (by simp; omega) _).setCell (p := ⟨w.heap.size + 1 + 1, 4, none⟩) (by simp; omega) _).drew
  generalize ((W3.setCell ⟨w.heap.size + 1 + 1, 3, none⟩ (.string z2)).setCell ⟨w.heap.size + 1 + 1, 4, none⟩ (.string z3)).drew = W4 at *
  have e0 : W4.cell? ⟨w.heap.size + 1 + 1, 0, none⟩ = some (.int .i64 9) := by rw [cell_of_row _ _ _ _ _ _ hC4]; rfl
  have e1 : W4.cell? ⟨w.heap.size + 1 + 1, 1, none⟩ = some (.int .i64 0) := by rw [cell_of_row _ _ _ _ _ _ hC4]; rfl
  have e2 : W4.cell? ⟨w.heap.size + 1 + 1, 2, none⟩ = some (.string z1) := by rw [cell_of_row _ _ _ _ _ _ hC4]; rfl
  have e3 : W4.cell? ⟨w.heap.size + 1 + 1, 3, none⟩ = some (.string z2) := by rw [cell_of_row _ _ _ _ _ _ hC4]; rfl
  have e4 : W4.cell? ⟨w.heap.size + 1 + 1, 4, none⟩ = some (.string z3) := by rw [cell_of_row _ _ _ _ _ _ hC4]; rfl
  obtain ⟨r0, r1', r2, r3, r4⟩ := cstC (x := cst0) hR4
  have fzr : ∀ j, W4.frozen? ⟨w.heap.size + 1, j, none⟩ = false := fun j => frozen_of_row _ _ _ _ _ hR4
  have HR4 := hide hR4
  have HB4 := hide hB4
  clear hC4 hR4 hB4 HR HC HB l3 l4 x1' y1' k3 k4 fz
  go_wp2
  refine bodyPost_ret (v := .agg #[.int .i64 9, .int .i64 0, .string z1, .string z2, .string z3]) ?_ rfl ⟨rfl, five_bel _ _ _ _ _ (unhide HB4) (by omega)⟩
  exact results_cell_row Try.results45 _ _ (w.heap.size + 1) 50 _ (0, 0) _ rfl (five_set _ _ _ _ _ (unhide HR4)) Try.underlying50 rfl sizeCst

set_option maxHeartbeats 6400000 in
set_option maxRecDepth 100000 in
theorem kmeaning_ref10 (w : World) (a : Option Addr) (n c : Nat) (l : List Ent) (h : Es w a n l) (hr : rightL l) (x : Ent) (ht : x.tag = 10) (hok : okE l x = true) (hn : n ≤ 140737488351232) :
    Calls Try.prog 45 #[.slice a n c, entV x] w fun e w' => e = .returned (cstV (meanN l x)) ∧ Below w.heap.size w w' := by
  have hln := h.1
  have hlen := right_len hr
  obtain ⟨b, o, rfl, hE⟩ := h.2.resolve_left (by omega)
  have hget : ∀ (q : Int), (atE l q).tag ≠ 0 → ∃ r : Nat, q = r ∧ r < n ∧ l[r]? = some (atE l q) := fun q hq => by
    obtain ⟨r, e1, e2, e3⟩ := atE_in hq
    exact ⟨r, e1, by omega, e3⟩
  have hro : ∀ q : Int, (atE l q).tag ≠ 0 → okE l (atE l q) = true := fun q hq => right_ok hr hq
  have e1 : meanN l x = ⟨10, 0, (atE l (atE l x.a).a).text, (atE l (atE l x.b).a).text, (atE l (atE l x.b).b).text⟩ := by
    unfold meanN
    rw [if_neg (by omega), if_neg (by omega), if_pos (by omega), ht]
  rw [e1]
  have ho : (atE l x.a).tag = 7 ∧ (atE l x.b).tag = 12 := by
    unfold okE at hok
    simp [ht] at hok
    exact hok.1
  obtain ⟨tag, text, nn, aa, bb⟩ := x
  simp only at ht ho ⊢
  subst ht
  have oa := hro aa (by omega)
  have ob := hro bb (by omega)
  have oa1 : (atE l (atE l aa).a).tag = 1 := by
    unfold okE at oa
    simp [ho.1] at oa
    exact oa.1
  have ob1 : (atE l (atE l bb).a).tag = 1 ∧ (atE l (atE l bb).b).tag = 1 := by
    unfold okE at ob
    simp [ho.2] at ob
    exact ob.1
  obtain ⟨r, rfl, hrn, hrr⟩ := hget aa (by omega)
  obtain ⟨s, rfl, hsn, hs⟩ := hget bb (by omega)
  obtain ⟨r1, e1', hr1n, hr1⟩ := hget _ (by rw [oa1]; decide)
  obtain ⟨s1, e2, hs1n, hs1⟩ := hget (atE l (s : Int)).a (by rw [ob1.1]; decide)
  obtain ⟨s2, e3, hs2n, hs2⟩ := hget (atE l (s : Int)).b (by rw [ob1.2]; decide)
  obtain ⟨_, _, _, g3, _⟩ := ents_get hE hrr
  obtain ⟨f0, f1, f2, f3, f4⟩ := ents_get hE hs
  obtain ⟨_, g1, _, _, _⟩ := ents_get hE hr1
  obtain ⟨_, u1, _, _, _⟩ := ents_get hE hs1
  obtain ⟨_, v1, _, _, _⟩ := ents_get hE hs2
  rw [e1'] at g3
  rw [e2] at f3
  rw [e3] at f4
  unfold entV cstV
  simp only
  rw [e1', e2, e3]
  rw [e1'] at g1
  rw [e2] at u1
  rw [e3] at v1
  have p0 := kc3 f0
  have p1 := kc3 f1
  have p2 := kc3 f2
  have p3 := kc3 f3
  have p4 := kc3 f4
  have q3 := kc3 g3
  have q1 := kc3 g1
  have x1 := kc3 u1
  have y1 := kc3 v1
  have i1 : (r : Int) < (n : Int) := by omega
  have i2 : (s : Int) < (n : Int) := by omega
  have i3 : (r1 : Int) < (n : Int) := by omega
  have i4 : (s1 : Int) < (n : Int) := by omega
  have i5 : (s2 : Int) < (n : Int) := by omega
  generalize (atE l (r1 : Int)).text = tx1 at *
  generalize (atE l (s1 : Int)).text = tx2 at *
  generalize (atE l (s2 : Int)).text = tx3 at *
  generalize (atE l (s : Int)).text = tx4 at *
  generalize (atE l (s : Int)).tag = tg4 at *
  generalize (atE l (s : Int)).n = n4 at *
  clear hget hro hok hE hrr hs hr1 hs1 hs2 ho oa ob oa1 ob1 e1 e1' e2 e3 f0 f1 f2 f3 f4 g1 g3 h hr
  generalize (⟨text.toArray⟩ : ByteArray) = st at *
  generalize (⟨tx1.toArray⟩ : ByteArray) = z1 at *
  generalize (⟨tx2.toArray⟩ : ByteArray) = z2 at *
  generalize (⟨tx3.toArray⟩ : ByteArray) = z3 at *
  generalize (⟨tx4.toArray⟩ : ByteArray) = z4 at *
  go_enter Try.func45, Try.ntmps45
  go_wp2
  have hX := k3_first w (.cells #[.int .i64 tg4, .string z4, .int .i64 n4, .int .i64 (s1 : Int), .int .i64 (s2 : Int)] 67) (.cells #[.int .i64 0, .int .i64 0, .string ⟨#[]⟩, .string ⟨#[]⟩, .string ⟨#[]⟩] 50) (.cells #[.int .i64 10, .int .i64 0, .string z1, .string ⟨#[]⟩, .string ⟨#[]⟩] 50)
  have hR := k3_mid w (.cells #[.int .i64 tg4, .string z4, .int .i64 n4, .int .i64 (s1 : Int), .int .i64 (s2 : Int)] 67) (.cells #[.int .i64 0, .int .i64 0, .string ⟨#[]⟩, .string ⟨#[]⟩, .string ⟨#[]⟩] 50) (.cells #[.int .i64 10, .int .i64 0, .string z1, .string ⟨#[]⟩, .string ⟨#[]⟩] 50)
  have hC := k3_last w (.cells #[.int .i64 tg4, .string z4, .int .i64 n4, .int .i64 (s1 : Int), .int .i64 (s2 : Int)] 67) (.cells #[.int .i64 0, .int .i64 0, .string ⟨#[]⟩, .string ⟨#[]⟩, .string ⟨#[]⟩] 50) (.cells #[.int .i64 10, .int .i64 0, .string z1, .string ⟨#[]⟩, .string ⟨#[]⟩] 50)
  have hB := k3_bel w (.cells #[.int .i64 tg4, .string z4, .int .i64 n4, .int .i64 (s1 : Int), .int .i64 (s2 : Int)] 67) (.cells #[.int .i64 0, .int .i64 0, .string ⟨#[]⟩, .string ⟨#[]⟩, .string ⟨#[]⟩] 50) (.cells #[.int .i64 10, .int .i64 0, .string z1, .string ⟨#[]⟩, .string ⟨#[]⟩] 50)
  have x1' := x1 (.cells #[.int .i64 tg4, .string z4, .int .i64 n4, .int .i64 (s1 : Int), .int .i64 (s2 : Int)] 67) (.cells #[.int .i64 0, .int .i64 0, .string ⟨#[]⟩, .string ⟨#[]⟩, .string ⟨#[]⟩] 50) (.cells #[.int .i64 10, .int .i64 0, .string z1, .string ⟨#[]⟩, .string ⟨#[]⟩] 50)
  have y1' := y1 (.cells #[.int .i64 tg4, .string z4, .int .i64 n4, .int .i64 (s1 : Int), .int .i64 (s2 : Int)] 67) (.cells #[.int .i64 0, .int .i64 0, .string ⟨#[]⟩, .string ⟨#[]⟩, .string ⟨#[]⟩] 50) (.cells #[.int .i64 10, .int .i64 0, .string z1, .string ⟨#[]⟩, .string ⟨#[]⟩] 50)
  generalize ((w.alloc (.cells #[.int .i64 tg4, .string z4, .int .i64 n4, .int .i64 (s1 : Int), .int .i64 (s2 : Int)] 67)).alloc (.cells #[.int .i64 0, .int .i64 0, .string ⟨#[]⟩, .string ⟨#[]⟩, .string ⟨#[]⟩] 50)).alloc (.cells #[.int .i64 10, .int .i64 0, .string z1, .string ⟨#[]⟩, .string ⟨#[]⟩] 50) = W3 at *
  have l3 : W3.cell? ⟨w.heap.size, 3, none⟩ = some (.int .i64 (s1 : Int)) := by rw [cell_of_row _ _ _ _ _ _ hX]; rfl
  have l4 : W3.cell? ⟨w.heap.size, 4, none⟩ = some (.int .i64 (s2 : Int)) := by rw [cell_of_row _ _ _ _ _ _ hX]; rfl
  have nb : ¬ b = w.heap.size + 1 + 1 := fun e => by
    have := World.block_lt_of_cell? w _ u1
    simp at this
    omega
  have nb' : ¬ w.heap.size + 1 + 1 = b := fun e => nb e.symm
  have nh : ¬ w.heap.size = w.heap.size + 1 + 1 := by omega
  have nh' : ¬ w.heap.size + 1 + 1 = w.heap.size := by omega
  have fz : ∀ j, W3.frozen? ⟨w.heap.size + 1 + 1, j, none⟩ = false := fun j => frozen_of_row _ _ _ _ _ hC
  have k3 : W3.cell? ⟨w.heap.size + 1 + 1, 3, none⟩ = some (.string ⟨#[]⟩) := by rw [cell_of_row _ _ _ _ _ _ hC]; rfl
  have k4 : W3.cell? ⟨w.heap.size + 1 + 1, 4, none⟩ = some (.string ⟨#[]⟩) := by rw [cell_of_row _ _ _ _ _ _ hC]; rfl
  have HR := hide hR
  have HC := hide hC
  have HB := hide hB
  clear x1 y1 hR hB hC hX u1 v1
  go_region_held_law (fun W => W.cell? ⟨w.heap.size, 3, none⟩ = some (.int .i64 (s1 : Int)) ∧ W.cell? ⟨w.heap.size, 4, none⟩ = some (.int .i64 (s2 : Int)) ∧ W.cell? ⟨b, o + s1 * 5 + 1, none⟩ = some (.string z2) ∧ W.cell? ⟨b, o + s2 * 5 + 1, none⟩ = some (.string z3)) (go_keep)
    (first | (fail))
  have hC4 : ((W3.setCell ⟨w.heap.size + 1 + 1, 3, none⟩ (.string z2)).setCell ⟨w.heap.size + 1 + 1, 4, none⟩ (.string z3)).drew.heap[w.heap.size + 1 + 1]? = some (.cells #[.int .i64 10, .int .i64 0, .string z1, .string z2, .string z3] 50 (0, 0)) := heap_setCell_same _ _ 4 _ _ (.string z3) (heap_setCell_same _ _ 3 _ _ (.string z2) (unhide HC))
  have hR4 : ((W3.setCell ⟨w.heap.size + 1 + 1, 3, none⟩ (.string z2)).setCell ⟨w.heap.size + 1 + 1, 4, none⟩ (.string z3)).drew.heap[w.heap.size + 1]? = _ := (Below.heap_setCell _ _ _ _ (by simp)).trans ((Below.heap_setCell _ _ _ _ (by simp)).trans (unhide HR))
  have hB4 : Below w.heap.size w ((W3.setCell ⟨w.heap.size + 1 + 1, 3, none⟩ (.string z2)).setCell ⟨w.heap.size + 1 + 1, 4, none⟩ (.string z3)).drew := (((unhide HB).setCell (p := ⟨w.heap.size + 1 + 1, 3, none⟩) (by simp; omega) _).setCell (p := ⟨w.heap.size + 1 + 1, 4, none⟩) (by simp; omega) _).drew
  generalize ((W3.setCell ⟨w.heap.size + 1 + 1, 3, none⟩ (.string z2)).setCell ⟨w.heap.size + 1 + 1, 4, none⟩ (.string z3)).drew = W4 at *
  have e0 : W4.cell? ⟨w.heap.size + 1 + 1, 0, none⟩ = some (.int .i64 10) := by rw [cell_of_row _ _ _ _ _ _ hC4]; rfl
  have e1 : W4.cell? ⟨w.heap.size + 1 + 1, 1, none⟩ = some (.int .i64 0) := by rw [cell_of_row _ _ _ _ _ _ hC4]; rfl
  have e2 : W4.cell? ⟨w.heap.size + 1 + 1, 2, none⟩ = some (.string z1) := by rw [cell_of_row _ _ _ _ _ _ hC4]; rfl
  have e3 : W4.cell? ⟨w.heap.size + 1 + 1, 3, none⟩ = some (.string z2) := by rw [cell_of_row _ _ _ _ _ _ hC4]; rfl
  have e4 : W4.cell? ⟨w.heap.size + 1 + 1, 4, none⟩ = some (.string z3) := by rw [cell_of_row _ _ _ _ _ _ hC4]; rfl
  obtain ⟨r0, r1', r2, r3, r4⟩ := cstC (x := cst0) hR4
  have fzr : ∀ j, W4.frozen? ⟨w.heap.size + 1, j, none⟩ = false := fun j => frozen_of_row _ _ _ _ _ hR4
  have HR4 := hide hR4
  have HB4 := hide hB4
  clear hC4 hR4 hB4 HR HC HB l3 l4 x1' y1' k3 k4 fz
  go_wp2
  refine bodyPost_ret (v := .agg #[.int .i64 10, .int .i64 0, .string z1, .string z2, .string z3]) ?_ rfl ⟨rfl, five_bel _ _ _ _ _ (unhide HB4) (by omega)⟩
  exact results_cell_row Try.results45 _ _ (w.heap.size + 1) 50 _ (0, 0) _ rfl (five_set _ _ _ _ _ (unhide HR4)) Try.underlying50 rfl sizeCst

theorem kmeaning_any (w : World) (a : Option Addr) (n c : Nat) (l : List Ent) (h : Es w a n l) (hr : rightL l) (x : Ent) (hx : x.tag = 0 ∨ okE l x = true) (hn : n ≤ 140737488351232) :
    Calls Try.prog 45 #[.slice a n c, entV x] w fun e w' => e = .returned (cstV (meanN l x)) ∧ Below w.heap.size w w' := by
  rcases hx with t | ho
  · exact kmeaning_none w a n c l h hr x (.inl t) hn
  · rcases okE_tag ho with t | t | t | t | t | t | t
    · exact kmeaning_none w a n c l h hr x (.inr t) hn
    · exact kmeaning_num3 w a n c l h hr x t hn
    · exact kmeaning_num5 w a n c l h hr x t hn
    · exact kmeaning_class w a n c l h hr x t ho hn
    · exact kmeaning_name w a n c l h hr x t ho hn
    · exact kmeaning_ref9 w a n c l h hr x t ho hn
    · exact kmeaning_ref10 w a n c l h hr x t ho hn

end Go.Proofs.Ytchhjieciiaooaa
