/- The document's own pool: mean. -/
import Derived.Test.YtjpimcglojneaaaJB
import Derived.Deep.RegionLaw

namespace Go.Proofs.Ytjpimcglojneaaa
open Go.RowKit
set_option linter.unusedVariables false

theorem three_heap (w : World) (X Y Z : Obj) : (((w.alloc X).alloc Y).alloc Z).heap[w.heap.size]? = some X := (heap_alloc_old _ _ (by simp; omega)).trans (two_heap w X Y)
theorem three_bel (w : World) (X Y Z : Obj) : Below w.heap.size w (((w.alloc X).alloc Y).alloc Z) := (two_bel w X Y).alloc (by simp; omega) _
theorem two_heap' (w : World) (X Y Z : Obj) : (((w.alloc X).alloc Y).alloc Z).heap[w.heap.size + 1]? = some Y := (heap_alloc_old _ _ (by simp)).trans (heap_alloc2_new w X Y)
theorem last_heap (w : World) (X Y Z : Obj) : (((w.alloc X).alloc Y).alloc Z).heap[w.heap.size + 1 + 1]? = some Z := by
  have := heap_alloc_last ((w.alloc X).alloc Y) Z
  simpa using this
/-- Cells of what was there, behind what is new. -/
theorem cell2 {w : World} {p : Addr} {v : Value} (h : w.cell? p = some v) : ∀ X Y, ((w.alloc X).alloc Y).cell? p = some v := fun X Y => cell_alloc (cell_alloc h X) Y
theorem cell3 {w : World} {p : Addr} {v : Value} (h : w.cell? p = some v) : ∀ X Y Z, (((w.alloc X).alloc Y).alloc Z).cell? p = some v := fun X Y Z => cell_alloc (cell_alloc (cell_alloc h X) Y) Z

set_option maxHeartbeats 25600000 in
set_option maxRecDepth 100000 in
theorem jmean_any (w : World) (a : Option Addr) (n c : Nat) (l : List Ent) (h : Es w a n l) (hr : rightL l) (i : Int) (hi : -9223372036854775808 ≤ i ∧ i ≤ 9223372036854775807) (hn : n ≤ 140737488351232) :
    Calls Try.prog 46 #[.slice a n c, .int .i64 i] w fun e w' => e = .returned (cstV (meanP l i)) ∧ Below w.heap.size w w' := by
  have HT : Hid (∀ W, Below w.heap.size w W → Calls Try.prog 40 #[.slice a n c, .int .i64 i] W fun e w' => e = .returned (.int .i64 (tagE l i)) ∧ w' = W) := fun W f => jtag_any W a n c l (h.below f) i hi hn
  by_cases h0 : tagE l i = 0
  case pos =>
    have e1 : meanP l i = cst0 := by
      unfold meanP
      have h0' : (atE l i).tag = 0 := h0
      simp [h0']
    rw [h0] at HT
    rw [e1]
    clear e1 h hr h0
    go_enter Try.func46, Try.ntmps46
    go_wp2_with fail
    refine (unhide HT _ (two_bel w _ _)).mono ?_
    rintro e w1 ⟨rfl, e0⟩
    have e0' := e0.symm
    clear e0
    subst e0'
    clear HT
    go_wp2
    refine bodyPost_ret (v := cstV cst0) ?_ rfl ⟨rfl, two_bel w _ _⟩
    exact results_cell_row Try.results46 _ _ w.heap.size 50 _ (0, 0) _ rfl (two_heap w _ _) Try.underlying50 rfl sizeCst
  have hok := right_ok hr (i := i) h0
  obtain ⟨k, rfl, hk, hx⟩ := atE_in h0
  obtain ⟨b, o, rfl, hE⟩ := h.2.resolve_left (by have := h.1; omega)
  have hln := h.1
  have hkn : (k : Int) < (n : Int) := by omega
  have hk0 : (0 : Int) ≤ (k : Int) := by omega
  have htg : tagE l (k : Int) = (atE l (k : Int)).tag := rfl
  have hmean : ∀ x, atE l (k : Int) = x → meanP l (k : Int) = (if x.tag = 3 ∨ x.tag = 5 then ⟨x.tag, x.n, [], [], []⟩ else if x.tag = 7 then ⟨7, 0, (atE l x.a).text, [], []⟩ else if x.tag = 9 ∨ x.tag = 10 then ⟨x.tag, 0, (atE l (atE l x.a).a).text, (atE l (atE l x.b).a).text, (atE l (atE l x.b).b).text⟩ else cst0) := fun x hx => by
    subst hx
    rfl
  obtain ⟨x, hxx⟩ : ∃ x, atE l (k : Int) = x := ⟨_, rfl⟩
  have hm := hmean x hxx
  rw [hxx] at hok hx htg
  rw [hm]
  rw [htg] at HT h0
  obtain ⟨c0, c1, c2, c3, c4⟩ := ents_get hE hx
  have d0 := cell2 c0
  have d1 := cell2 c1
  have d2 := cell2 c2
  have d3 := cell2 c3
  have d4 := cell2 c4
  have hget : ∀ (q : Int), (atE l q).tag ≠ 0 → ∃ r : Nat, q = r ∧ r < n ∧ EntsAt w (some ⟨b, o, none⟩) l ∧ l[r]? = some (atE l q) := fun q hq => by
    obtain ⟨r, e1, e2, e3⟩ := atE_in hq
    exact ⟨r, e1, by omega, hE, e3⟩
  have hro : ∀ q : Int, (atE l q).tag ≠ 0 → okE l (atE l q) = true := fun q hq => right_ok hr hq
  clear hm hmean hxx htg hx hE h hr c0 c1 c2 c3 c4 hk
  obtain ⟨tag, text, nn, aa, bb⟩ := x
  simp only at d0 d1 d2 d3 d4 HT h0
  rcases okE_tag hok with t | t | t | t | t | t | t
  · have t' : tag = 1 := t
    subst t'
    clear hget hro hok h0
    generalize (⟨text.toArray⟩ : ByteArray) = st at *
    go_enter Try.func46, Try.ntmps46
    go_wp2_with fail
    refine (unhide HT _ (two_bel w _ _)).mono ?_
    rintro e w1 ⟨rfl, e0⟩
    have e0' := e0.symm
    clear e0
    subst e0'
    clear HT
    go_wp2
    refine bodyPost_ret (v := cstV cst0) ?_ rfl ⟨rfl, two_bel w _ _⟩
    exact results_cell_row Try.results46 _ _ w.heap.size 50 _ (0, 0) _ rfl (two_heap w _ _) Try.underlying50 rfl sizeCst
  · have t' : tag = 3 := t
    subst t'
    clear hget hro hok h0
    generalize (⟨text.toArray⟩ : ByteArray) = st at *
    go_enter Try.func46, Try.ntmps46
    go_wp2_with fail
    refine (unhide HT _ (two_bel w _ _)).mono ?_
    rintro e w1 ⟨rfl, e0⟩
    have e0' := e0.symm
    clear e0
    subst e0'
    clear HT
    go_wp2
    refine bodyPost_ret (v := cstV ⟨3, nn, [], [], []⟩) ?_ rfl ⟨rfl, two_bel w _ _⟩
    exact results_cell_row Try.results46 _ _ w.heap.size 50 _ (0, 0) _ rfl (two_heap w _ _) Try.underlying50 rfl sizeCst
  · have t' : tag = 5 := t
    subst t'
    clear hget hro hok h0
    generalize (⟨text.toArray⟩ : ByteArray) = st at *
    go_enter Try.func46, Try.ntmps46
    go_wp2_with fail
    refine (unhide HT _ (two_bel w _ _)).mono ?_
    rintro e w1 ⟨rfl, e0⟩
    have e0' := e0.symm
    clear e0
    subst e0'
    clear HT
    go_wp2
    refine bodyPost_ret (v := cstV ⟨5, nn, [], [], []⟩) ?_ rfl ⟨rfl, two_bel w _ _⟩
    exact results_cell_row Try.results46 _ _ w.heap.size 50 _ (0, 0) _ rfl (two_heap w _ _) Try.underlying50 rfl sizeCst
  · have t' : tag = 7 := t
    subst t'
    have ho : tagE l aa = 1 := by
      unfold okE at hok
      simp at hok
      exact hok.1
    have ho' : (atE l aa).tag ≠ 0 := by
      unfold tagE at ho
      omega
    obtain ⟨r, rfl, hrn, hE, hr⟩ := hget aa ho'
    obtain ⟨_, g1, _, _, _⟩ := ents_get hE hr
    have q1 := cell2 g1
    have hrn' : (r : Int) < (n : Int) := by omega
    show Calls _ _ _ _ fun e w' => e = .returned (cstV ⟨7, 0, (atE l (r : Int)).text, [], []⟩) ∧ Below w.heap.size w w'
    generalize (atE l (r : Int)).text = tx at *
    clear hget hro hok h0 hE hr g1 ho ho'
    generalize (⟨text.toArray⟩ : ByteArray) = st at *
    unfold cstV
    generalize (⟨tx.toArray⟩ : ByteArray) = st2 at *
    go_enter Try.func46, Try.ntmps46
    go_wp2_with fail
    refine (unhide HT _ (two_bel w _ _)).mono ?_
    rintro e w1 ⟨rfl, e0⟩
    have e0' := e0.symm
    clear e0
    subst e0'
    clear HT
    go_wp2
    go_region_law (fail)
    all_goals
      go_wp2
      refine bodyPost_ret (v := .agg #[.int .i64 7, .int .i64 0, .string st2, .string ⟨#[]⟩, .string ⟨#[]⟩]) ?_ rfl ⟨rfl, (two_bel w _ _).drew⟩
      exact results_cell_row Try.results46 _ _ w.heap.size 50 _ (0, 0) _ rfl (two_heap w _ _) Try.underlying50 rfl sizeCst
  · have t' : tag = 12 := t
    subst t'
    clear hget hro hok h0
    generalize (⟨text.toArray⟩ : ByteArray) = st at *
    go_enter Try.func46, Try.ntmps46
    go_wp2_with fail
    refine (unhide HT _ (two_bel w _ _)).mono ?_
    rintro e w1 ⟨rfl, e0⟩
    have e0' := e0.symm
    clear e0
    subst e0'
    clear HT
    go_wp2
    refine bodyPost_ret (v := cstV cst0) ?_ rfl ⟨rfl, two_bel w _ _⟩
    exact results_cell_row Try.results46 _ _ w.heap.size 50 _ (0, 0) _ rfl (two_heap w _ _) Try.underlying50 rfl sizeCst
  · have t' : tag = 9 := t
    subst t'
    have ho : tagE l aa = 7 ∧ tagE l bb = 12 := by
      unfold okE at hok
      simp at hok
      exact hok.1
    have ha' : (atE l aa).tag = 7 := ho.1
    have hb' : (atE l bb).tag = 12 := ho.2
    have oa := hro aa (by omega)
    have ob := hro bb (by omega)
    have oa1 : (atE l (atE l aa).a).tag = 1 := by
      unfold okE at oa
      simp [ha'] at oa
      exact oa.1
    have ob1 : (atE l (atE l bb).a).tag = 1 ∧ (atE l (atE l bb).b).tag = 1 := by
      unfold okE at ob
      simp [hb'] at ob
      exact ob.1
    obtain ⟨r, rfl, hrn, hE, hr⟩ := hget aa (by omega)
    obtain ⟨s, rfl, hsn, _, hs⟩ := hget bb (by omega)
    obtain ⟨r1, e1, hr1n, _, hr1⟩ := hget _ (by rw [oa1]; decide)
    obtain ⟨s1, e2, hs1n, _, hs1⟩ := hget (atE l (s : Int)).a (by rw [ob1.1]; decide)
    obtain ⟨s2, e3, hs2n, _, hs2⟩ := hget (atE l (s : Int)).b (by rw [ob1.2]; decide)
    obtain ⟨_, _, _, g3, _⟩ := ents_get hE hr
    obtain ⟨f0, f1, f2, f3, f4⟩ := ents_get hE hs
    obtain ⟨_, g1, _, _, _⟩ := ents_get hE hr1
    obtain ⟨_, u1, _, _, _⟩ := ents_get hE hs1
    obtain ⟨_, v1, _, _, _⟩ := ents_get hE hs2
    rw [e1] at g3
    rw [e2] at f3
    rw [e3] at f4
    show Calls _ _ _ _ fun e w' => e = .returned (cstV ⟨9, 0, (atE l (atE l (r : Int)).a).text, (atE l (atE l (s : Int)).a).text, (atE l (atE l (s : Int)).b).text⟩) ∧ Below w.heap.size w w'
    rw [e1, e2, e3]
    rw [e1] at g1
    rw [e2] at u1
    rw [e3] at v1
    have nb : ¬ b = w.heap.size := Nat.ne_of_lt (World.block_lt_of_cell? w _ g3)
    have nb' : ¬ w.heap.size = b := fun e => nb e.symm
    have nq : ¬ w.heap.size + 1 = w.heap.size := by omega
    have nq' : ¬ w.heap.size + 1 + 1 = w.heap.size := by omega
    have p0 := cell2 f0
    have p1 := cell2 f1
    have p2 := cell2 f2
    have p3 := cell2 f3
    have p4 := cell2 f4
    have q3 := cell3 g3
    have q1 := cell3 g1
    have x1 := cell3 u1
    have y1 := cell3 v1
    have i1 : (r : Int) < (n : Int) := by omega
    have i2 : (s : Int) < (n : Int) := by omega
    have i3 : (r1 : Int) < (n : Int) := by omega
    have i4 : (s1 : Int) < (n : Int) := by omega
    have i5 : (s2 : Int) < (n : Int) := by omega
    generalize (atE l (r1 : Int)).text = tx1 at *
    generalize (atE l (s1 : Int)).text = tx2 at *
    generalize (atE l (s2 : Int)).text = tx3 at *
    generalize (atE l (s : Int)).text = tx4 at *
    generalize (atE l (s : Int)).tag = tg4 at *
    generalize (atE l (s : Int)).n = n4 at *
    clear hget hro hok h0 hE hr hs hr1 hs1 hs2 ho ha' hb' oa ob oa1 ob1 e1 e2 e3 f0 f1 f2 f3 f4 g1 g3 u1 v1
    obtain ⟨st, hst⟩ : ∃ st, (⟨text.toArray⟩ : ByteArray) = st := ⟨_, rfl⟩
    rw [hst] at d1
    unfold cstV
    generalize (⟨tx1.toArray⟩ : ByteArray) = z1 at *
    generalize (⟨tx2.toArray⟩ : ByteArray) = z2 at *
    generalize (⟨tx3.toArray⟩ : ByteArray) = z3 at *
    obtain ⟨z4, hz4⟩ : ∃ st, (⟨tx4.toArray⟩ : ByteArray) = st := ⟨_, rfl⟩
    rw [hz4] at p1
    have HST := hide hst
    have HZ4 := hide hz4
    clear hst hz4
    go_enter Try.func46, Try.ntmps46
    go_wp2_with fail
    refine (unhide HT _ (two_bel w _ _)).mono ?_
    rintro e w1 ⟨rfl, e0⟩
    have e0' := e0.symm
    clear e0
    subst e0'
    clear HT
    go_wp2
    have hR := three_heap w (.cells #[.int .i64 0, .int .i64 0, .string ⟨#[]⟩, .string ⟨#[]⟩, .string ⟨#[]⟩] 50) (.cells #[.int .i64 9, .string st, .int .i64 nn, .int .i64 (r : Int), .int .i64 (s : Int)] 67) (.cells #[.int .i64 tg4, .string z4, .int .i64 n4, .int .i64 (s1 : Int), .int .i64 (s2 : Int)] 67)
    have hb3 := three_bel w (.cells #[.int .i64 0, .int .i64 0, .string ⟨#[]⟩, .string ⟨#[]⟩, .string ⟨#[]⟩] 50) (.cells #[.int .i64 9, .string st, .int .i64 nn, .int .i64 (r : Int), .int .i64 (s : Int)] 67) (.cells #[.int .i64 tg4, .string z4, .int .i64 n4, .int .i64 (s1 : Int), .int .i64 (s2 : Int)] 67)
    obtain ⟨m0, _, _, m3, _⟩ := entC (x := ⟨9, text, nn, (r : Int), (s : Int)⟩) (by rw [unhide HST]; exact two_heap' w (.cells #[.int .i64 0, .int .i64 0, .string ⟨#[]⟩, .string ⟨#[]⟩, .string ⟨#[]⟩] 50) (.cells #[.int .i64 9, .string st, .int .i64 nn, .int .i64 (r : Int), .int .i64 (s : Int)] 67) (.cells #[.int .i64 tg4, .string z4, .int .i64 n4, .int .i64 (s1 : Int), .int .i64 (s2 : Int)] 67))
    obtain ⟨_, _, _, l3, l4⟩ := entC (x := ⟨tg4, tx4, n4, (s1 : Int), (s2 : Int)⟩) (by rw [unhide HZ4]; exact last_heap w (.cells #[.int .i64 0, .int .i64 0, .string ⟨#[]⟩, .string ⟨#[]⟩, .string ⟨#[]⟩] 50) (.cells #[.int .i64 9, .string st, .int .i64 nn, .int .i64 (r : Int), .int .i64 (s : Int)] 67) (.cells #[.int .i64 tg4, .string z4, .int .i64 n4, .int .i64 (s1 : Int), .int .i64 (s2 : Int)] 67))
    have q3' := q3 (.cells #[.int .i64 0, .int .i64 0, .string ⟨#[]⟩, .string ⟨#[]⟩, .string ⟨#[]⟩] 50) (.cells #[.int .i64 9, .string st, .int .i64 nn, .int .i64 (r : Int), .int .i64 (s : Int)] 67) (.cells #[.int .i64 tg4, .string z4, .int .i64 n4, .int .i64 (s1 : Int), .int .i64 (s2 : Int)] 67)
    have q1' := q1 (.cells #[.int .i64 0, .int .i64 0, .string ⟨#[]⟩, .string ⟨#[]⟩, .string ⟨#[]⟩] 50) (.cells #[.int .i64 9, .string st, .int .i64 nn, .int .i64 (r : Int), .int .i64 (s : Int)] 67) (.cells #[.int .i64 tg4, .string z4, .int .i64 n4, .int .i64 (s1 : Int), .int .i64 (s2 : Int)] 67)
    have x1' := x1 (.cells #[.int .i64 0, .int .i64 0, .string ⟨#[]⟩, .string ⟨#[]⟩, .string ⟨#[]⟩] 50) (.cells #[.int .i64 9, .string st, .int .i64 nn, .int .i64 (r : Int), .int .i64 (s : Int)] 67) (.cells #[.int .i64 tg4, .string z4, .int .i64 n4, .int .i64 (s1 : Int), .int .i64 (s2 : Int)] 67)
    have y1' := y1 (.cells #[.int .i64 0, .int .i64 0, .string ⟨#[]⟩, .string ⟨#[]⟩, .string ⟨#[]⟩] 50) (.cells #[.int .i64 9, .string st, .int .i64 nn, .int .i64 (r : Int), .int .i64 (s : Int)] 67) (.cells #[.int .i64 tg4, .string z4, .int .i64 n4, .int .i64 (s1 : Int), .int .i64 (s2 : Int)] 67)
    simp only at m0 m3 l3 l4
    generalize ((w.alloc (.cells #[.int .i64 0, .int .i64 0, .string ⟨#[]⟩, .string ⟨#[]⟩, .string ⟨#[]⟩] 50)).alloc (.cells #[.int .i64 9, .string st, .int .i64 nn, .int .i64 (r : Int), .int .i64 (s : Int)] 67)).alloc (.cells #[.int .i64 tg4, .string z4, .int .i64 n4, .int .i64 (s1 : Int), .int .i64 (s2 : Int)] 67) = W3 at *
    obtain ⟨rc0, rc1, rc2, rc3, rc4⟩ := cstC (x := cst0) hR
    have fz : ∀ j, W3.frozen? ⟨w.heap.size, j, none⟩ = false := fun j => frozen_of_row _ _ _ _ _ hR
    have HR3 := hide hR
    have HB3 := hide hb3
    clear hR hb3 q3 q1 x1 y1 d0 d1 d2 d3 d4 p0 p1 p2 p3 p4
    have HKEEP : Hid ((((((W3.setCell ⟨w.heap.size, 0, none⟩ (.int .i64 9)).setCell ⟨w.heap.size, 1, none⟩ (.int .i64 0)).setCell ⟨w.heap.size, 2, none⟩ (.string z1)).setCell ⟨w.heap.size, 3, none⟩ (.string z2)).setCell ⟨w.heap.size, 4, none⟩ (.string z3)).drew.cell? ⟨w.heap.size + 1, 0, none⟩ = some (.int .i64 9) ∧ (((((W3.setCell ⟨w.heap.size, 0, none⟩ (.int .i64 9)).setCell ⟨w.heap.size, 1, none⟩ (.int .i64 0)).setCell ⟨w.heap.size, 2, none⟩ (.string z1)).setCell ⟨w.heap.size, 3, none⟩ (.string z2)).setCell ⟨w.heap.size, 4, none⟩ (.string z3)).drew.cell? ⟨w.heap.size + 1, 3, none⟩ = some (.int .i64 (r : Int)) ∧ (((((W3.setCell ⟨w.heap.size, 0, none⟩ (.int .i64 9)).setCell ⟨w.heap.size, 1, none⟩ (.int .i64 0)).setCell ⟨w.heap.size, 2, none⟩ (.string z1)).setCell ⟨w.heap.size, 3, none⟩ (.string z2)).setCell ⟨w.heap.size, 4, none⟩ (.string z3)).drew.cell? ⟨b, o + r * 5 + 3, none⟩ = some (.int .i64 (r1 : Int)) ∧ (((((W3.setCell ⟨w.heap.size, 0, none⟩ (.int .i64 9)).setCell ⟨w.heap.size, 1, none⟩ (.int .i64 0)).setCell ⟨w.heap.size, 2, none⟩ (.string z1)).setCell ⟨w.heap.size, 3, none⟩ (.string z2)).setCell ⟨w.heap.size, 4, none⟩ (.string z3)).drew.cell? ⟨b, o + r1 * 5 + 1, none⟩ = some (.string z1) ∧ (((((W3.setCell ⟨w.heap.size, 0, none⟩ (.int .i64 9)).setCell ⟨w.heap.size, 1, none⟩ (.int .i64 0)).setCell ⟨w.heap.size, 2, none⟩ (.string z1)).setCell ⟨w.heap.size, 3, none⟩ (.string z2)).setCell ⟨w.heap.size, 4, none⟩ (.string z3)).drew.cell? ⟨w.heap.size + 1 + 1, 3, none⟩ = some (.int .i64 (s1 : Int)) ∧ (((((W3.setCell ⟨w.heap.size, 0, none⟩ (.int .i64 9)).setCell ⟨w.heap.size, 1, none⟩ (.int .i64 0)).setCell ⟨w.heap.size, 2, none⟩ (.string z1)).setCell ⟨w.heap.size, 3, none⟩ (.string z2)).setCell ⟨w.heap.size, 4, none⟩ (.string z3)).drew.cell? ⟨b, o + s1 * 5 + 1, none⟩ = some (.string z2) ∧ (((((W3.setCell ⟨w.heap.size, 0, none⟩ (.int .i64 9)).setCell ⟨w.heap.size, 1, none⟩ (.int .i64 0)).setCell ⟨w.heap.size, 2, none⟩ (.string z1)).setCell ⟨w.heap.size, 3, none⟩ (.string z2)).setCell ⟨w.heap.size, 4, none⟩ (.string z3)).drew.cell? ⟨w.heap.size + 1 + 1, 4, none⟩ = some (.int .i64 (s2 : Int)) ∧ (((((W3.setCell ⟨w.heap.size, 0, none⟩ (.int .i64 9)).setCell ⟨w.heap.size, 1, none⟩ (.int .i64 0)).setCell ⟨w.heap.size, 2, none⟩ (.string z1)).setCell ⟨w.heap.size, 3, none⟩ (.string z2)).setCell ⟨w.heap.size, 4, none⟩ (.string z3)).drew.cell? ⟨b, o + s2 * 5 + 1, none⟩ = some (.string z3)) := ⟨(five_farD _ _ _ _ _ nq).trans m0, (five_farD _ _ _ _ _ nq).trans m3, (five_farD _ _ _ _ _ nb).trans q3', (five_farD _ _ _ _ _ nb).trans q1', (five_farD _ _ _ _ _ nq').trans l3, (five_farD _ _ _ _ _ nb).trans x1', (five_farD _ _ _ _ _ nq').trans l4, (five_farD _ _ _ _ _ nb).trans y1'⟩
    go_region_held_law (fun W => W.cell? ⟨w.heap.size + 1, 0, none⟩ = some (.int .i64 9) ∧ W.cell? ⟨w.heap.size + 1, 3, none⟩ = some (.int .i64 (r : Int)) ∧ W.cell? ⟨b, o + r * 5 + 3, none⟩ = some (.int .i64 (r1 : Int)) ∧ W.cell? ⟨b, o + r1 * 5 + 1, none⟩ = some (.string z1) ∧ W.cell? ⟨w.heap.size + 1 + 1, 3, none⟩ = some (.int .i64 (s1 : Int)) ∧ W.cell? ⟨b, o + s1 * 5 + 1, none⟩ = some (.string z2) ∧ W.cell? ⟨w.heap.size + 1 + 1, 4, none⟩ = some (.int .i64 (s2 : Int)) ∧ W.cell? ⟨b, o + s2 * 5 + 1, none⟩ = some (.string z3)) (first | (go_keep; done) | exact unhide HKEEP)
      (first | (fail))
    go_wp2
    refine bodyPost_ret (v := .agg #[.int .i64 9, .int .i64 0, .string z1, .string z2, .string z3]) ?_ rfl ⟨rfl, five_bel _ _ _ _ _ (by first | exact (unhide HB3).drew | exact below_drewN (unhide HB3) _ | exact unhide HB3) (Nat.le_refl _)⟩
    exact results_cell_row Try.results46 _ _ w.heap.size 50 _ (0, 0) _ rfl (five_set _ _ _ _ _ (by exact unhide HR3)) Try.underlying50 rfl sizeCst
  · have t' : tag = 10 := t
    subst t'
    have ho : tagE l aa = 7 ∧ tagE l bb = 12 := by
      unfold okE at hok
      simp at hok
      exact hok.1
    have ha' : (atE l aa).tag = 7 := ho.1
    have hb' : (atE l bb).tag = 12 := ho.2
    have oa := hro aa (by omega)
    have ob := hro bb (by omega)
    have oa1 : (atE l (atE l aa).a).tag = 1 := by
      unfold okE at oa
      simp [ha'] at oa
      exact oa.1
    have ob1 : (atE l (atE l bb).a).tag = 1 ∧ (atE l (atE l bb).b).tag = 1 := by
      unfold okE at ob
      simp [hb'] at ob
      exact ob.1
    obtain ⟨r, rfl, hrn, hE, hr⟩ := hget aa (by omega)
    obtain ⟨s, rfl, hsn, _, hs⟩ := hget bb (by omega)
    obtain ⟨r1, e1, hr1n, _, hr1⟩ := hget _ (by rw [oa1]; decide)
    obtain ⟨s1, e2, hs1n, _, hs1⟩ := hget (atE l (s : Int)).a (by rw [ob1.1]; decide)
    obtain ⟨s2, e3, hs2n, _, hs2⟩ := hget (atE l (s : Int)).b (by rw [ob1.2]; decide)
    obtain ⟨_, _, _, g3, _⟩ := ents_get hE hr
    obtain ⟨f0, f1, f2, f3, f4⟩ := ents_get hE hs
    obtain ⟨_, g1, _, _, _⟩ := ents_get hE hr1
    obtain ⟨_, u1, _, _, _⟩ := ents_get hE hs1
    obtain ⟨_, v1, _, _, _⟩ := ents_get hE hs2
    rw [e1] at g3
    rw [e2] at f3
    rw [e3] at f4
    show Calls _ _ _ _ fun e w' => e = .returned (cstV ⟨10, 0, (atE l (atE l (r : Int)).a).text, (atE l (atE l (s : Int)).a).text, (atE l (atE l (s : Int)).b).text⟩) ∧ Below w.heap.size w w'
    rw [e1, e2, e3]
    rw [e1] at g1
    rw [e2] at u1
    rw [e3] at v1
    have nb : ¬ b = w.heap.size := Nat.ne_of_lt (World.block_lt_of_cell? w _ g3)
    have nb' : ¬ w.heap.size = b := fun e => nb e.symm
    have nq : ¬ w.heap.size + 1 = w.heap.size := by omega
    have nq' : ¬ w.heap.size + 1 + 1 = w.heap.size := by omega
    have p0 := cell2 f0
    have p1 := cell2 f1
    have p2 := cell2 f2
    have p3 := cell2 f3
    have p4 := cell2 f4
    have q3 := cell3 g3
    have q1 := cell3 g1
    have x1 := cell3 u1
    have y1 := cell3 v1
    have i1 : (r : Int) < (n : Int) := by omega
    have i2 : (s : Int) < (n : Int) := by omega
    have i3 : (r1 : Int) < (n : Int) := by omega
    have i4 : (s1 : Int) < (n : Int) := by omega
    have i5 : (s2 : Int) < (n : Int) := by omega
    generalize (atE l (r1 : Int)).text = tx1 at *
    generalize (atE l (s1 : Int)).text = tx2 at *
    generalize (atE l (s2 : Int)).text = tx3 at *
    generalize (atE l (s : Int)).text = tx4 at *
    generalize (atE l (s : Int)).tag = tg4 at *
    generalize (atE l (s : Int)).n = n4 at *
    clear hget hro hok h0 hE hr hs hr1 hs1 hs2 ho ha' hb' oa ob oa1 ob1 e1 e2 e3 f0 f1 f2 f3 f4 g1 g3 u1 v1
    obtain ⟨st, hst⟩ : ∃ st, (⟨text.toArray⟩ : ByteArray) = st := ⟨_, rfl⟩
    rw [hst] at d1
    unfold cstV
    generalize (⟨tx1.toArray⟩ : ByteArray) = z1 at *
    generalize (⟨tx2.toArray⟩ : ByteArray) = z2 at *
    generalize (⟨tx3.toArray⟩ : ByteArray) = z3 at *
    obtain ⟨z4, hz4⟩ : ∃ st, (⟨tx4.toArray⟩ : ByteArray) = st := ⟨_, rfl⟩
    rw [hz4] at p1
    have HST := hide hst
    have HZ4 := hide hz4
    clear hst hz4
    go_enter Try.func46, Try.ntmps46
    go_wp2_with fail
    refine (unhide HT _ (two_bel w _ _)).mono ?_
    rintro e w1 ⟨rfl, e0⟩
    have e0' := e0.symm
    clear e0
    subst e0'
    clear HT
    go_wp2
    have hR := three_heap w (.cells #[.int .i64 0, .int .i64 0, .string ⟨#[]⟩, .string ⟨#[]⟩, .string ⟨#[]⟩] 50) (.cells #[.int .i64 10, .string st, .int .i64 nn, .int .i64 (r : Int), .int .i64 (s : Int)] 67) (.cells #[.int .i64 tg4, .string z4, .int .i64 n4, .int .i64 (s1 : Int), .int .i64 (s2 : Int)] 67)
    have hb3 := three_bel w (.cells #[.int .i64 0, .int .i64 0, .string ⟨#[]⟩, .string ⟨#[]⟩, .string ⟨#[]⟩] 50) (.cells #[.int .i64 10, .string st, .int .i64 nn, .int .i64 (r : Int), .int .i64 (s : Int)] 67) (.cells #[.int .i64 tg4, .string z4, .int .i64 n4, .int .i64 (s1 : Int), .int .i64 (s2 : Int)] 67)
    obtain ⟨m0, _, _, m3, _⟩ := entC (x := ⟨10, text, nn, (r : Int), (s : Int)⟩) (by rw [unhide HST]; exact two_heap' w (.cells #[.int .i64 0, .int .i64 0, .string ⟨#[]⟩, .string ⟨#[]⟩, .string ⟨#[]⟩] 50) (.cells #[.int .i64 10, .string st, .int .i64 nn, .int .i64 (r : Int), .int .i64 (s : Int)] 67) (.cells #[.int .i64 tg4, .string z4, .int .i64 n4, .int .i64 (s1 : Int), .int .i64 (s2 : Int)] 67))
    obtain ⟨_, _, _, l3, l4⟩ := entC (x := ⟨tg4, tx4, n4, (s1 : Int), (s2 : Int)⟩) (by rw [unhide HZ4]; exact last_heap w (.cells #[.int .i64 0, .int .i64 0, .string ⟨#[]⟩, .string ⟨#[]⟩, .string ⟨#[]⟩] 50) (.cells #[.int .i64 10, .string st, .int .i64 nn, .int .i64 (r : Int), .int .i64 (s : Int)] 67) (.cells #[.int .i64 tg4, .string z4, .int .i64 n4, .int .i64 (s1 : Int), .int .i64 (s2 : Int)] 67))
    have q3' := q3 (.cells #[.int .i64 0, .int .i64 0, .string ⟨#[]⟩, .string ⟨#[]⟩, .string ⟨#[]⟩] 50) (.cells #[.int .i64 10, .string st, .int .i64 nn, .int .i64 (r : Int), .int .i64 (s : Int)] 67) (.cells #[.int .i64 tg4, .string z4, .int .i64 n4, .int .i64 (s1 : Int), .int .i64 (s2 : Int)] 67)
    have q1' := q1 (.cells #[.int .i64 0, .int .i64 0, .string ⟨#[]⟩, .string ⟨#[]⟩, .string ⟨#[]⟩] 50) (.cells #[.int .i64 10, .string st, .int .i64 nn, .int .i64 (r : Int), .int .i64 (s : Int)] 67) (.cells #[.int .i64 tg4, .string z4, .int .i64 n4, .int .i64 (s1 : Int), .int .i64 (s2 : Int)] 67)
    have x1' := x1 (.cells #[.int .i64 0, .int .i64 0, .string ⟨#[]⟩, .string ⟨#[]⟩, .string ⟨#[]⟩] 50) (.cells #[.int .i64 10, .string st, .int .i64 nn, .int .i64 (r : Int), .int .i64 (s : Int)] 67) (.cells #[.int .i64 tg4, .string z4, .int .i64 n4, .int .i64 (s1 : Int), .int .i64 (s2 : Int)] 67)
    have y1' := y1 (.cells #[.int .i64 0, .int .i64 0, .string ⟨#[]⟩, .string ⟨#[]⟩, .string ⟨#[]⟩] 50) (.cells #[.int .i64 10, .string st, .int .i64 nn, .int .i64 (r : Int), .int .i64 (s : Int)] 67) (.cells #[.int .i64 tg4, .string z4, .int .i64 n4, .int .i64 (s1 : Int), .int .i64 (s2 : Int)] 67)
    simp only at m0 m3 l3 l4
    generalize ((w.alloc (.cells #[.int .i64 0, .int .i64 0, .string ⟨#[]⟩, .string ⟨#[]⟩, .string ⟨#[]⟩] 50)).alloc (.cells #[.int .i64 10, .string st, .int .i64 nn, .int .i64 (r : Int), .int .i64 (s : Int)] 67)).alloc (.cells #[.int .i64 tg4, .string z4, .int .i64 n4, .int .i64 (s1 : Int), .int .i64 (s2 : Int)] 67) = W3 at *
    obtain ⟨rc0, rc1, rc2, rc3, rc4⟩ := cstC (x := cst0) hR
    have fz : ∀ j, W3.frozen? ⟨w.heap.size, j, none⟩ = false := fun j => frozen_of_row _ _ _ _ _ hR
    have HR3 := hide hR
    have HB3 := hide hb3
    clear hR hb3 q3 q1 x1 y1 d0 d1 d2 d3 d4 p0 p1 p2 p3 p4
    have HKEEP : Hid ((((((W3.setCell ⟨w.heap.size, 0, none⟩ (.int .i64 10)).setCell ⟨w.heap.size, 1, none⟩ (.int .i64 0)).setCell ⟨w.heap.size, 2, none⟩ (.string z1)).setCell ⟨w.heap.size, 3, none⟩ (.string z2)).setCell ⟨w.heap.size, 4, none⟩ (.string z3)).drew.cell? ⟨w.heap.size + 1, 0, none⟩ = some (.int .i64 10) ∧ (((((W3.setCell ⟨w.heap.size, 0, none⟩ (.int .i64 10)).setCell ⟨w.heap.size, 1, none⟩ (.int .i64 0)).setCell ⟨w.heap.size, 2, none⟩ (.string z1)).setCell ⟨w.heap.size, 3, none⟩ (.string z2)).setCell ⟨w.heap.size, 4, none⟩ (.string z3)).drew.cell? ⟨w.heap.size + 1, 3, none⟩ = some (.int .i64 (r : Int)) ∧ (((((W3.setCell ⟨w.heap.size, 0, none⟩ (.int .i64 10)).setCell ⟨w.heap.size, 1, none⟩ (.int .i64 0)).setCell ⟨w.heap.size, 2, none⟩ (.string z1)).setCell ⟨w.heap.size, 3, none⟩ (.string z2)).setCell ⟨w.heap.size, 4, none⟩ (.string z3)).drew.cell? ⟨b, o + r * 5 + 3, none⟩ = some (.int .i64 (r1 : Int)) ∧ (((((W3.setCell ⟨w.heap.size, 0, none⟩ (.int .i64 10)).setCell ⟨w.heap.size, 1, none⟩ (.int .i64 0)).setCell ⟨w.heap.size, 2, none⟩ (.string z1)).setCell ⟨w.heap.size, 3, none⟩ (.string z2)).setCell ⟨w.heap.size, 4, none⟩ (.string z3)).drew.cell? ⟨b, o + r1 * 5 + 1, none⟩ = some (.string z1) ∧ (((((W3.setCell ⟨w.heap.size, 0, none⟩ (.int .i64 10)).setCell ⟨w.heap.size, 1, none⟩ (.int .i64 0)).setCell ⟨w.heap.size, 2, none⟩ (.string z1)).setCell ⟨w.heap.size, 3, none⟩ (.string z2)).setCell ⟨w.heap.size, 4, none⟩ (.string z3)).drew.cell? ⟨w.heap.size + 1 + 1, 3, none⟩ = some (.int .i64 (s1 : Int)) ∧ (((((W3.setCell ⟨w.heap.size, 0, none⟩ (.int .i64 10)).setCell ⟨w.heap.size, 1, none⟩ (.int .i64 0)).setCell ⟨w.heap.size, 2, none⟩ (.string z1)).setCell ⟨w.heap.size, 3, none⟩ (.string z2)).setCell ⟨w.heap.size, 4, none⟩ (.string z3)).drew.cell? ⟨b, o + s1 * 5 + 1, none⟩ = some (.string z2) ∧ (((((W3.setCell ⟨w.heap.size, 0, none⟩ (.int .i64 10)).setCell ⟨w.heap.size, 1, none⟩ (.int .i64 0)).setCell ⟨w.heap.size, 2, none⟩ (.string z1)).setCell ⟨w.heap.size, 3, none⟩ (.string z2)).setCell ⟨w.heap.size, 4, none⟩ (.string z3)).drew.cell? ⟨w.heap.size + 1 + 1, 4, none⟩ = some (.int .i64 (s2 : Int)) ∧ (((((W3.setCell ⟨w.heap.size, 0, none⟩ (.int .i64 10)).setCell ⟨w.heap.size, 1, none⟩ (.int .i64 0)).setCell ⟨w.heap.size, 2, none⟩ (.string z1)).setCell ⟨w.heap.size, 3, none⟩ (.string z2)).setCell ⟨w.heap.size, 4, none⟩ (.string z3)).drew.cell? ⟨b, o + s2 * 5 + 1, none⟩ = some (.string z3)) := ⟨(five_farD _ _ _ _ _ nq).trans m0, (five_farD _ _ _ _ _ nq).trans m3, (five_farD _ _ _ _ _ nb).trans q3', (five_farD _ _ _ _ _ nb).trans q1', (five_farD _ _ _ _ _ nq').trans l3, (five_farD _ _ _ _ _ nb).trans x1', (five_farD _ _ _ _ _ nq').trans l4, (five_farD _ _ _ _ _ nb).trans y1'⟩
    go_region_held_law (fun W => W.cell? ⟨w.heap.size + 1, 0, none⟩ = some (.int .i64 10) ∧ W.cell? ⟨w.heap.size + 1, 3, none⟩ = some (.int .i64 (r : Int)) ∧ W.cell? ⟨b, o + r * 5 + 3, none⟩ = some (.int .i64 (r1 : Int)) ∧ W.cell? ⟨b, o + r1 * 5 + 1, none⟩ = some (.string z1) ∧ W.cell? ⟨w.heap.size + 1 + 1, 3, none⟩ = some (.int .i64 (s1 : Int)) ∧ W.cell? ⟨b, o + s1 * 5 + 1, none⟩ = some (.string z2) ∧ W.cell? ⟨w.heap.size + 1 + 1, 4, none⟩ = some (.int .i64 (s2 : Int)) ∧ W.cell? ⟨b, o + s2 * 5 + 1, none⟩ = some (.string z3)) (first | (go_keep; done) | exact unhide HKEEP)
      (first | (fail))
    go_wp2
    refine bodyPost_ret (v := .agg #[.int .i64 10, .int .i64 0, .string z1, .string z2, .string z3]) ?_ rfl ⟨rfl, five_bel _ _ _ _ _ (by first | exact (unhide HB3).drew | exact below_drewN (unhide HB3) _ | exact unhide HB3) (Nat.le_refl _)⟩
    exact results_cell_row Try.results46 _ _ w.heap.size 50 _ (0, 0) _ rfl (five_set _ _ _ _ _ (by exact unhide HR3)) Try.underlying50 rfl sizeCst

end Go.Proofs.Ytjpimcglojneaaa
