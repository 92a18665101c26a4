/- Joined: PkB PkC PkD PkE PkF. -/
import Derived.Test.YthenefjoidckkaaGreatDoorJA
import Derived.Test.YthenefjoidckkaaGreatDoorJB
import Derived.Deep.RegionLaw
import Derived.Laws.ResultCell

/- The landed pool: its small functions. -/
namespace Go.Proofs.YthenefjoidckkaaGreatDoor
open Go.RowKit
set_option linter.unusedVariables false

theorem ktagAt_any (w : World) (a : Option Addr) (n c : Nat) (l : List Ent) (h : Es w a n l) (i : Int) (hi : -9223372036854775808 ≤ i ∧ i ≤ 9223372036854775807) (hn : n ≤ 140737488351232) :
    Calls Tryz.prog 142 #[.slice a n c, .int .i64 i] w fun e w' => e = .returned (.int .i64 (tagE l i)) ∧ w' = w := by
  by_cases h0 : i < 0
  · have e1 : tagE l i = 0 := by unfold tagE atE; rw [if_neg (by omega)]; rfl
    rw [e1]
    clear e1 h
    go_enter Tryz.func142, Tryz.ntmps142
    go_wp2
    go_ret
    exact ⟨rfl, rfl⟩
  · by_cases h1 : (n : Int) ≤ i
    · have e1 : tagE l i = 0 := by
        unfold tagE atE
        rw [if_pos (by omega), List.getElem?_eq_none (by rw [h.1]; omega)]
        rfl
      rw [e1]
      clear e1 h
      go_enter Tryz.func142, Tryz.ntmps142
      go_wp2
      go_ret
      exact ⟨rfl, rfl⟩
    · obtain ⟨k, rfl⟩ : ∃ k : Nat, i = k := ⟨i.toNat, by omega⟩
      obtain ⟨b, o, rfl, hE⟩ := h.2.resolve_left (by omega)
      obtain ⟨x, hx⟩ : ∃ x, l[k]? = some x := ⟨_, List.getElem?_eq_getElem (by rw [h.1]; omega)⟩
      obtain ⟨c0, _, _, _, _⟩ := ents_get hE hx
      have e1 : tagE l (k : Int) = x.tag := by
        unfold tagE atE
        rw [if_pos (by omega), Int.toNat_natCast, hx]
        rfl
      rw [e1]
      generalize x.tag = T at *
      clear e1 hE hx h
      go_enter Tryz.func142, Tryz.ntmps142
      go_wp2
      go_ret
      exact ⟨rfl, rfl⟩


theorem ents_at {w : World} {b o : Nat} {l : List Ent} (h : EntsAt w (some ⟨b, o, none⟩) l) {k : Nat} (hk : k < l.length) :
    w.cell? ⟨b, o + k * 5, none⟩ = some (.int .i64 (atE l (k : Int)).tag) ∧ w.cell? ⟨b, o + k * 5 + 1, none⟩ = some (.string ⟨(atE l (k : Int)).text.toArray⟩) ∧ w.cell? ⟨b, o + k * 5 + 2, none⟩ = some (.int .i64 (atE l (k : Int)).n) ∧ w.cell? ⟨b, o + k * 5 + 3, none⟩ = some (.int .i64 (atE l (k : Int)).a) ∧ w.cell? ⟨b, o + k * 5 + 4, none⟩ = some (.int .i64 (atE l (k : Int)).b) := by
  have e : l[k]? = some (atE l (k : Int)) := by rw [atE_nat, List.getElem?_eq_getElem hk]; rfl
  exact ents_get h e
theorem knumbers_any (w : World) (t : Int) :
    Calls Tryz.prog 152 #[.int .i64 t] w fun e w' => e = .returned (.int .i64 (if t = 5 then 2 else 1)) ∧ w' = w := by
  by_cases h5 : t = 5
  · subst h5
    go_enter Tryz.func152, Tryz.ntmps152
    go_wp2
    go_ret
    exact ⟨rfl, rfl⟩
  · rw [if_neg h5]
    have h5' : (t == 5) = false := by simpa using h5
    clear h5
    go_enter Tryz.func152, Tryz.ntmps152
    go_wp2
    go_ret
    exact ⟨rfl, rfl⟩
theorem kisGap_any (w : World) (a : Option Addr) (n c : Nat) (l : List Ent) (h : Es w a n l) (k : Nat) (hk : k < n) (hn : n ≤ 140737488351232) :
    Calls Tryz.prog 146 #[.slice a n c, .int .i64 (k : Int)] w fun e w' => e = .returned (.bool (gapE l k)) ∧ w' = w := by
  cases k with
  | zero =>
    have e1 : gapE l 0 = true := rfl
    rw [e1]
    clear h e1
    go_enter Tryz.func146, Tryz.ntmps146
    go_wp2
    go_ret
    exact ⟨rfl, rfl⟩
  | succ k =>
    rw [gapE_succ]
    obtain ⟨b, o, rfl, hE⟩ := h.2.resolve_left (by omega)
    obtain ⟨c0, _, _, _, _⟩ := ents_at hE (k := k) (by have := h.1; omega)
    obtain ⟨T, hT⟩ : ∃ T, (atE l (k : Int)).tag = T := ⟨_, rfl⟩
    rw [hT] at c0 ⊢
    have hk0 : (((k + 1 : Nat) : Int) == 0) = false := by
      rw [beq_eq_false_iff_ne]
      omega
    have hk1 : ((k + 1 : Nat) : Int) - 1 = (k : Int) := by omega
    have hk2 : (k : Int) < (n : Int) := by omega
    have hk3 : (0 : Int) ≤ (k : Int) := by omega
    have e5 : decide (T = 5) = (T == 5) := by rw [Bool.eq_iff_iff]; simp
    rw [e5]
    obtain ⟨K, hK⟩ : ∃ K : Int, K = ((k + 1 : Nat) : Int) := ⟨_, rfl⟩
    rw [← hK] at hk0 hk1 ⊢
    have hK1 : 0 ≤ K := by omega
    have hK2 : K ≤ 140737488351232 := by omega
    clear hT hE h hK e5
    go_enter Tryz.func146, Tryz.ntmps146
    go_wp2
    go_ret
    exact ⟨rfl, rfl⟩
theorem khasRoom_any (w : World) (a : Option Addr) (n c : Nat) (l : List Ent) (h : Es w a n l) (k : Nat) (hk : k < n) (hn : n ≤ 140737488351232) :
    Calls Tryz.prog 151 #[.slice a n c, .int .i64 (k : Int)] w fun e w' => e = .returned (.bool (decide ((k : Int) + (if (atE l (k : Int)).tag = 5 then 2 else 1) ≤ (n : Int)))) ∧ w' = w := by
  obtain ⟨b, o, rfl, hE⟩ := h.2.resolve_left (by omega)
  obtain ⟨c0, _, _, _, _⟩ := ents_at hE (k := k) (by have := h.1; omega)
  have HN := hide (knumbers_any w (atE l (k : Int)).tag)
  obtain ⟨M, hM⟩ : ∃ M : Int, M = (if (atE l (k : Int)).tag = 5 then 2 else 1) := ⟨_, rfl⟩
  rw [← hM] at HN ⊢
  have hM1 : 1 ≤ M := by rw [hM]; split <;> omega
  have hM2 : M ≤ 2 := by rw [hM]; split <;> omega
  have hk2 : (k : Int) < (n : Int) := by omega
  have hk3 : (0 : Int) ≤ (k : Int) := by omega
  clear hM
  generalize (atE l (k : Int)).tag = T at *
  clear hE h
  go_enter Tryz.func151, Tryz.ntmps151
  go_wp2_with fail
  refine (unhide HN).mono ?_
  rintro e w1 ⟨rfl, e0⟩
  have e0' := e0.symm
  clear e0
  subst e0'
  go_wp2
  go_ret
  exact ⟨rfl, rfl⟩
theorem wrap32_eq (n : Int) (hn : -9223372036854775808 ≤ n ∧ n ≤ 9223372036854775807) : (wrap64 (wrap32 n) == n) = decide (-2147483648 ≤ n ∧ n ≤ 2147483647) := by
  rw [Bool.eq_iff_iff, beq_iff_eq, decide_eq_true_eq]
  unfold wrap64 wrap32
  omega
theorem kfits_any (w : World) (t n : Int) (hn : -9223372036854775808 ≤ n ∧ n ≤ 9223372036854775807) :
    Calls Tryz.prog 150 #[.int .i64 t, .int .i64 n] w fun e w' => e = .returned (.bool (fitsE t n)) ∧ w' = w := by
  unfold fitsE
  by_cases h3 : t = 3
  · subst h3
    go_enter Tryz.func150, Tryz.ntmps150
    go_wp2
    go_ret
    exact ⟨by rw [wrap32_eq n hn]; rfl, rfl⟩
  · have h3' : (t == 3) = false := by simpa using h3
    have h3'' : (t != 3) = true := by simpa using h3
    rw [decide_eq_true h3]
    clear h3
    go_enter Tryz.func150, Tryz.ntmps150
    go_wp2
    go_ret
    exact ⟨rfl, rfl⟩

set_option maxHeartbeats 1600000 in
theorem kisText_any (w : World) (s : List UInt8) (hs : s.length ≤ 140737488355328) :
    Calls Tryz.prog 148 #[.string ⟨s.toArray⟩] w fun e w' => e = .returned (.bool (textB s)) ∧ w' = w := by
  have hsz : (⟨s.toArray⟩ : ByteArray).size = s.length := by simp [ByteArray.size]
  have H := hide (fun k (hk : k < s.length) => strI s k s[k] (List.getElem?_eq_getElem hk))
  by_cases hl : 255 < s.length
  · have e1 : textB s = false := by
      rw [textB_eq, decide_eq_false (by omega), Bool.and_false]
    rw [e1]
    have hl' : (255 : Int) < (s.length : Int) := by omega
    clear e1 H
    generalize (⟨s.toArray⟩ : ByteArray) = st at *
    go_enter Tryz.func148, Tryz.ntmps148
    go_wp2
    go_ret
    exact ⟨rfl, rfl⟩
  have hl' : ¬ (255 : Int) < (s.length : Int) := by omega
  obtain ⟨T, hT⟩ : ∃ T, T = textB s := ⟨_, rfl⟩
  rw [← hT]
  rw [textB_eq, decide_eq_true (show s.length ≤ 255 by omega), Bool.and_true] at hT
  have HT := hide hT
  generalize (⟨s.toArray⟩ : ByteArray) = st at *
  clear hT
  go_enter Tryz.func148, Tryz.ntmps148
  go_wp2
  go_loopw [9] (fun i wr => ∃ k : Nat, k ≤ s.length ∧ i = .int .i64 k ∧ (∀ j b, j < k → s[j]? = some b → okB b = true) ∧ wr = w) (fun i _ => s.length - (intOf i).toNat)
  case atStart => exact ⟨0, by omega, rfl, fun j b h => by omega, rfl⟩
  case round =>
    obtain ⟨k, hk, rfl, hall, e0⟩ := hrel
    have e0' := e0.symm
    clear e0
    subst e0'
    by_cases hlt : k < s.length
    · have hlt1 : (k : Int) < (s.length : Int) := by omega
      have hidx := unhide H k hlt
      have hks : s[k]? = some s[k] := List.getElem?_eq_getElem hlt
      obtain ⟨b, hb⟩ : ∃ b, b = s[k] := ⟨_, rfl⟩
      rw [← hb] at hidx hks
      by_cases h1 : b.toNat < 33
      · have e1 : Hid (T = false) := by
          rw [unhide HT]
          rw [List.all_eq_false]
          exact ⟨b, List.mem_of_getElem? hks, by unfold okB; simp; omega⟩
        have h1' : (b.toNat : Int) < 33 := by omega
        clear hall hks hb h1
        generalize b.toNat = B at *
        go_wp2
        go_ret
        exact ⟨by rw [unhide e1]; rfl, rfl⟩
      · by_cases h2 : 126 < b.toNat
        · have e1 : Hid (T = false) := by
            rw [unhide HT]
            rw [List.all_eq_false]
            exact ⟨b, List.mem_of_getElem? hks, by unfold okB; simp; omega⟩
          have h1' : ¬ (b.toNat : Int) < 33 := by omega
          have h2' : (126 : Int) < (b.toNat : Int) := by omega
          clear hall hks hb h1 h2
          generalize b.toNat = B at *
          go_wp2
          go_ret
          exact ⟨by rw [unhide e1]; rfl, rfl⟩
        · have HA : Hid (∀ j b, j < k + 1 → s[j]? = some b → okB b = true) := fun j b' hj hb' => by
            by_cases hjk : j = k
            · subst hjk
              rw [hks] at hb'
              injection hb' with hb'
              subst hb'
              unfold okB
              simp
              omega
            · exact hall j b' (by omega) hb'
          have h1' : ¬ (b.toNat : Int) < 33 := by omega
          have h2' : ¬ (126 : Int) < (b.toNat : Int) := by omega
          clear hall hks hb h1 h2
          generalize b.toNat = B at *
          go_wp2
          go_roundw
          case rel => exact ⟨k + 1, by omega, by go_num, unhide HA, by first | rfl | trivial⟩
          case measure => simp [intOf]; omega
    · obtain rfl : k = s.length := by omega
      have e1 : Hid (T = true) := by
        rw [unhide HT]
        rw [List.all_eq_true]
        intro x hx
        obtain ⟨j, hj⟩ := List.mem_iff_getElem?.1 hx
        exact hall j x ((List.getElem?_eq_some_iff.1 hj).1) hj
      clear hall H
      generalize s.length = n at *
      go_wp2
      go_ret
      exact ⟨by rw [unhide e1]; rfl, rfl⟩

end Go.Proofs.YthenefjoidckkaaGreatDoor

/- The landed pool: just, leadsRight. -/
namespace Go.Proofs.YthenefjoidckkaaGreatDoor
open Go.RowKit
set_option linter.unusedVariables false

theorem k3_bel (w : World) (X Y Z : Obj) : Below w.heap.size w (((w.alloc X).alloc Y).alloc Z) := (two_bel w X Y).alloc (by simp; omega) _
theorem k3_mid (w : World) (X Y Z : Obj) : (((w.alloc X).alloc Y).alloc Z).heap[w.heap.size + 1]? = some Y := (heap_alloc_old _ _ (by simp)).trans (heap_alloc2_new w X Y)
theorem sizeEnt : (Tryz.prog.info? 136).map (·.size) = some 5 := by kernel_rfl
set_option maxHeartbeats 3200000 in
set_option maxRecDepth 100000 in
theorem kjust_any (w : World) (x : Ent) :
    Calls Tryz.prog 147 #[entV x] w fun e w' => e = .returned (entV (justE x)) ∧ Below w.heap.size w w' := by
  obtain ⟨tag, text, n, a, b⟩ := x
  unfold entV
  simp only
  by_cases t1 : tag = 1
  case pos =>
    subst t1
    have e1 : justE ⟨1, text, n, a, b⟩ = ⟨1, text, 0, 0, 0⟩ := rfl
    rw [e1]
    simp only
    clear e1
    generalize (⟨text.toArray⟩ : ByteArray) = st at *
    go_enter Tryz.func147, Tryz.ntmps147
    go_wp2
    refine bodyPost_ret (v := .agg #[.int .i64 1, .string st, .int .i64 0, .int .i64 0, .int .i64 0]) ?_ rfl ⟨rfl, k3_bel w _ _ _⟩
    exact results_cell_row Tryz.results147 _ _ (w.heap.size + 1) 136 _ (0, 0) _ rfl (k3_mid w _ _ _) Tryz.underlying136 rfl sizeEnt
  by_cases t3 : tag = 3
  case pos =>
    subst t3
    have e1 : justE ⟨3, text, n, a, b⟩ = ⟨3, [], n, 0, 0⟩ := rfl
    rw [e1]
    simp only
    clear e1
    generalize (⟨text.toArray⟩ : ByteArray) = st at *
    go_enter Tryz.func147, Tryz.ntmps147
    go_wp2
    refine bodyPost_ret (v := .agg #[.int .i64 3, .string ⟨#[]⟩, .int .i64 n, .int .i64 0, .int .i64 0]) ?_ rfl ⟨rfl, k3_bel w _ _ _⟩
    exact results_cell_row Tryz.results147 _ _ (w.heap.size + 1) 136 _ (0, 0) _ rfl (k3_mid w _ _ _) Tryz.underlying136 rfl sizeEnt
  by_cases t5 : tag = 5
  case pos =>
    subst t5
    have e1 : justE ⟨5, text, n, a, b⟩ = ⟨5, [], n, 0, 0⟩ := rfl
    rw [e1]
    simp only
    clear e1
    generalize (⟨text.toArray⟩ : ByteArray) = st at *
    go_enter Tryz.func147, Tryz.ntmps147
    go_wp2
    refine bodyPost_ret (v := .agg #[.int .i64 5, .string ⟨#[]⟩, .int .i64 n, .int .i64 0, .int .i64 0]) ?_ rfl ⟨rfl, k3_bel w _ _ _⟩
    exact results_cell_row Tryz.results147 _ _ (w.heap.size + 1) 136 _ (0, 0) _ rfl (k3_mid w _ _ _) Tryz.underlying136 rfl sizeEnt
  by_cases t9 : tag = 9
  case pos =>
    subst t9
    have e1 : justE ⟨9, text, n, a, b⟩ = ⟨9, [], 0, a, b⟩ := rfl
    rw [e1]
    simp only
    clear e1
    generalize (⟨text.toArray⟩ : ByteArray) = st at *
    go_enter Tryz.func147, Tryz.ntmps147
    go_wp2
    refine bodyPost_ret (v := .agg #[.int .i64 9, .string ⟨#[]⟩, .int .i64 0, .int .i64 a, .int .i64 b]) ?_ rfl ⟨rfl, k3_bel w _ _ _⟩
    exact results_cell_row Tryz.results147 _ _ (w.heap.size + 1) 136 _ (0, 0) _ rfl (k3_mid w _ _ _) Tryz.underlying136 rfl sizeEnt
  by_cases t10 : tag = 10
  case pos =>
    subst t10
    have e1 : justE ⟨10, text, n, a, b⟩ = ⟨10, [], 0, a, b⟩ := rfl
    rw [e1]
    simp only
    clear e1
    generalize (⟨text.toArray⟩ : ByteArray) = st at *
    go_enter Tryz.func147, Tryz.ntmps147
    go_wp2
    refine bodyPost_ret (v := .agg #[.int .i64 10, .string ⟨#[]⟩, .int .i64 0, .int .i64 a, .int .i64 b]) ?_ rfl ⟨rfl, k3_bel w _ _ _⟩
    exact results_cell_row Tryz.results147 _ _ (w.heap.size + 1) 136 _ (0, 0) _ rfl (k3_mid w _ _ _) Tryz.underlying136 rfl sizeEnt
  by_cases t12 : tag = 12
  case pos =>
    subst t12
    have e1 : justE ⟨12, text, n, a, b⟩ = ⟨12, [], 0, a, b⟩ := rfl
    rw [e1]
    simp only
    clear e1
    generalize (⟨text.toArray⟩ : ByteArray) = st at *
    go_enter Tryz.func147, Tryz.ntmps147
    go_wp2
    refine bodyPost_ret (v := .agg #[.int .i64 12, .string ⟨#[]⟩, .int .i64 0, .int .i64 a, .int .i64 b]) ?_ rfl ⟨rfl, k3_bel w _ _ _⟩
    exact results_cell_row Tryz.results147 _ _ (w.heap.size + 1) 136 _ (0, 0) _ rfl (k3_mid w _ _ _) Tryz.underlying136 rfl sizeEnt
  by_cases t7 : tag = 7
  case pos =>
    subst t7
    have e1 : justE ⟨7, text, n, a, b⟩ = ⟨7, [], 0, a, 0⟩ := rfl
    rw [e1]
    simp only
    clear e1
    generalize (⟨text.toArray⟩ : ByteArray) = st at *
    go_enter Tryz.func147, Tryz.ntmps147
    go_wp2
    refine bodyPost_ret (v := .agg #[.int .i64 7, .string ⟨#[]⟩, .int .i64 0, .int .i64 a, .int .i64 0]) ?_ rfl ⟨rfl, k3_bel w _ _ _⟩
    exact results_cell_row Tryz.results147 _ _ (w.heap.size + 1) 136 _ (0, 0) _ rfl (k3_mid w _ _ _) Tryz.underlying136 rfl sizeEnt
  have e1 : justE ⟨tag, text, n, a, b⟩ = ent0 := by
    unfold justE
    simp only
    rw [if_neg t1, if_neg (by omega), if_neg (by omega), if_neg t7]
  rw [e1]
  unfold ent0
  simp only
  have b1 : (tag == 1) = false := by simpa using t1
  have b3 : (tag == 3) = false := by simpa using t3
  have b5 : (tag == 5) = false := by simpa using t5
  have b9 : (tag == 9) = false := by simpa using t9
  have b10 : (tag == 10) = false := by simpa using t10
  have b12 : (tag == 12) = false := by simpa using t12
  have b7 : (tag == 7) = false := by simpa using t7
  clear e1 t1 t3 t5 t7 t9 t10 t12
  generalize (⟨text.toArray⟩ : ByteArray) = st at *
  go_enter Tryz.func147, Tryz.ntmps147
  go_wp2
  refine bodyPost_ret (v := .agg #[.int .i64 0, .string ⟨#[]⟩, .int .i64 0, .int .i64 0, .int .i64 0]) ?_ rfl ⟨rfl, k3_bel w _ _ _⟩
  exact results_cell_row Tryz.results147 _ _ (w.heap.size + 1) 136 _ (0, 0) _ rfl (k3_mid w _ _ _) Tryz.underlying136 rfl sizeEnt

set_option maxHeartbeats 3200000 in
set_option maxRecDepth 100000 in
theorem kleads_any (w : World) (a : Option Addr) (n c : Nat) (l : List Ent) (h : Es w a n l) (x : Ent) (hx : EntFit x) (hn : n ≤ 140737488351232) :
    Calls Tryz.prog 149 #[.slice a n c, entV x] w fun e w' => e = .returned (.bool (leadsE l x)) ∧ Below w.heap.size w w' := by
  have HA : Hid (∀ W, Below w.heap.size w W → Calls Tryz.prog 142 #[.slice a n c, .int .i64 x.a] W fun e w' => e = .returned (.int .i64 (tagE l x.a)) ∧ w' = W) := fun W f => ktagAt_any W a n c l (h.below f) x.a hx.2.2.1 hn
  have HB : Hid (∀ W, Below w.heap.size w W → Calls Tryz.prog 142 #[.slice a n c, .int .i64 x.b] W fun e w' => e = .returned (.int .i64 (tagE l x.b)) ∧ w' = W) := fun W f => ktagAt_any W a n c l (h.below f) x.b hx.2.2.2 hn
  unfold leadsE
  generalize tagE l x.a = TA at *
  generalize tagE l x.b = TB at *
  obtain ⟨tag, text, nn, aa, bb⟩ := x
  unfold entV
  simp only at HA HB ⊢
  clear h hx
  have dec : ∀ (x y : Int), decide (x = y) = (x == y) := fun x y => by rw [Bool.eq_iff_iff]; simp
  simp only [dec]
  have b0 : Below w.heap.size w (w.alloc (.cells #[.int .i64 tag, .string ⟨text.toArray⟩, .int .i64 nn, .int .i64 aa, .int .i64 bb] 136)) := (Below.refl _ _).alloc (Nat.le_refl _) _
  have B0 := hide b0
  clear b0 dec
  generalize (⟨text.toArray⟩ : ByteArray) = st at *
  by_cases t9 : tag = 9
  case pos =>
    subst t9
    rw [if_pos (by omega)]
    by_cases h7 : TA = 7
    · subst h7
      go_enter Tryz.func149, Tryz.ntmps149
      go_wp2_with fail
      refine (unhide HA _ (unhide B0)).mono ?_
      rintro e w1 ⟨rfl, e0⟩
      have e0' := e0.symm
      clear e0
      subst e0'
      go_wp2_with fail
      refine (unhide HB _ (unhide B0)).mono ?_
      rintro e w1 ⟨rfl, e0⟩
      have e0' := e0.symm
      clear e0
      subst e0'
      go_wp2
      go_ret
      exact ⟨rfl, unhide B0⟩
    · have h7' : (TA == 7) = false := by simpa using h7
      rw [h7', Bool.false_and]
      clear h7
      go_enter Tryz.func149, Tryz.ntmps149
      go_wp2_with fail
      refine (unhide HA _ (unhide B0)).mono ?_
      rintro e w1 ⟨rfl, e0⟩
      have e0' := e0.symm
      clear e0
      subst e0'
      go_wp2
      go_ret
      exact ⟨rfl, unhide B0⟩
  by_cases t10 : tag = 10
  case pos =>
    subst t10
    rw [if_pos (by omega)]
    by_cases h7 : TA = 7
    · subst h7
      go_enter Tryz.func149, Tryz.ntmps149
      go_wp2_with fail
      refine (unhide HA _ (unhide B0)).mono ?_
      rintro e w1 ⟨rfl, e0⟩
      have e0' := e0.symm
      clear e0
      subst e0'
      go_wp2_with fail
      refine (unhide HB _ (unhide B0)).mono ?_
      rintro e w1 ⟨rfl, e0⟩
      have e0' := e0.symm
      clear e0
      subst e0'
      go_wp2
      go_ret
      exact ⟨rfl, unhide B0⟩
    · have h7' : (TA == 7) = false := by simpa using h7
      rw [h7', Bool.false_and]
      clear h7
      go_enter Tryz.func149, Tryz.ntmps149
      go_wp2_with fail
      refine (unhide HA _ (unhide B0)).mono ?_
      rintro e w1 ⟨rfl, e0⟩
      have e0' := e0.symm
      clear e0
      subst e0'
      go_wp2
      go_ret
      exact ⟨rfl, unhide B0⟩
  rw [if_neg (by omega)]
  by_cases t12 : tag = 12
  case pos =>
    subst t12
    rw [if_pos rfl]
    by_cases h1 : TB = 1
    · subst h1
      go_enter Tryz.func149, Tryz.ntmps149
      go_wp2_with fail
      refine (unhide HB _ (unhide B0)).mono ?_
      rintro e w1 ⟨rfl, e0⟩
      have e0' := e0.symm
      clear e0
      subst e0'
      go_wp2_with fail
      refine (unhide HA _ (unhide B0)).mono ?_
      rintro e w1 ⟨rfl, e0⟩
      have e0' := e0.symm
      clear e0
      subst e0'
      go_wp2
      go_ret
      exact ⟨rfl, unhide B0⟩
    · have h1' : (TB == 1) = false := by simpa using h1
      rw [h1', Bool.false_and]
      clear h1
      go_enter Tryz.func149, Tryz.ntmps149
      go_wp2_with fail
      refine (unhide HB _ (unhide B0)).mono ?_
      rintro e w1 ⟨rfl, e0⟩
      have e0' := e0.symm
      clear e0
      subst e0'
      go_wp2
      go_ret
      exact ⟨rfl, unhide B0⟩
  rw [if_neg t12]
  by_cases t7 : tag = 7
  case pos =>
    subst t7
    rw [if_pos rfl]
    go_enter Tryz.func149, Tryz.ntmps149
    go_wp2_with fail
    refine (unhide HA _ (unhide B0)).mono ?_
    rintro e w1 ⟨rfl, e0⟩
    have e0' := e0.symm
    clear e0
    subst e0'
    go_wp2
    go_ret
    exact ⟨rfl, unhide B0⟩
  rw [if_neg t7]
  have b9 : (tag == 9) = false := by simpa using t9
  have b10 : (tag == 10) = false := by simpa using t10
  have b12 : (tag == 12) = false := by simpa using t12
  have b7 : (tag == 7) = false := by simpa using t7
  clear t7 t9 t10 t12
  go_enter Tryz.func149, Tryz.ntmps149
  go_wp2
  go_ret
  exact ⟨rfl, unhide B0⟩

end Go.Proofs.YthenefjoidckkaaGreatDoor

/- The landed pool: isRight, Check. -/
namespace Go.Proofs.YthenefjoidckkaaGreatDoor
open Go.RowKit
set_option linter.unusedVariables false

set_option maxHeartbeats 6400000 in
set_option maxRecDepth 100000 in
theorem kisRight_one (w : World) (a : Option Addr) (n c : Nat) (l : List Ent) (h : Es w a n l) (k : Nat) (hk : k < n) (hn : n ≤ 140737488351232) (hf : EntFit (atE l (k : Int))) (ht : (atE l (k : Int)).text.length ≤ 140737488355328)
    (b1 b2 b3 b4 b5 b6 : Bool) (h1 : ((atE l (k : Int)).tag != 0) = b1) (h2 : decide (atE l (k : Int) = justE (atE l (k : Int))) = b2) (h3 : textB (atE l (k : Int)).text = b3) (h4 : leadsE l (atE l (k : Int)) = b4) (h5 : fitsE (atE l (k : Int)).tag (atE l (k : Int)).n = b5)
    (h6 : decide ((k : Int) + (if (atE l (k : Int)).tag = 5 then 2 else 1) ≤ (n : Int)) = b6) (hg : gapE l k = false) :
    Calls Tryz.prog 145 #[.slice a n c, .int .i64 (k : Int)] w fun e w' => e = .returned (.bool (b1 && b2 && b3 && b4 && b5 && b6)) ∧ Below w.heap.size w w' := by
  obtain ⟨b, o, rfl, hE⟩ := h.2.resolve_left (by omega)
  obtain ⟨c0, c1, c2, c3, c4⟩ := ents_at hE (k := k) (by have := h.1; omega)
  obtain ⟨x, hx⟩ : ∃ x, atE l (k : Int) = x := ⟨_, rfl⟩
  have G : Hid (∀ W, Below w.heap.size w W → Calls Tryz.prog 146 #[.slice (some ⟨b, o, none⟩) n c, .int .i64 (k : Int)] W fun e w' => e = .returned (.bool false) ∧ w' = W) := fun W f => by
    have := kisGap_any W _ n c l (h.below f) k hk hn
    rw [hg] at this
    exact this
  have J2 : ∀ W, (binOp .eql 136 (entV x) (entV (justE x))).run Tryz.prog W = .ok (.bool b2) W := fun W => by
    have := ent_cmp W x (justE x)
    rw [← hx, h2] at this
    rw [← hx]
    exact this
  have J : Hid (∀ W, Calls Tryz.prog 147 #[entV x] W fun e w' => e = .returned (entV (justE x)) ∧ Below W.heap.size W w') := fun W => kjust_any W x
  have X : Hid (∀ W, Calls Tryz.prog 148 #[.string ⟨x.text.toArray⟩] W fun e w' => e = .returned (.bool b3) ∧ w' = W) := fun W => by
    have := kisText_any W (atE l (k : Int)).text ht
    rw [h3, hx] at this
    exact this
  have L : Hid (∀ W, Below w.heap.size w W → Calls Tryz.prog 149 #[.slice (some ⟨b, o, none⟩) n c, entV x] W fun e w' => e = .returned (.bool b4) ∧ Below W.heap.size W w') := fun W f => by
    have := kleads_any W _ n c l (h.below f) (atE l (k : Int)) hf hn
    rw [h4, hx] at this
    exact this
  have F : Hid (∀ W, Calls Tryz.prog 150 #[.int .i64 x.tag, .int .i64 x.n] W fun e w' => e = .returned (.bool b5) ∧ w' = W) := fun W => by
    have := kfits_any W (atE l (k : Int)).tag (atE l (k : Int)).n hf.2.1
    rw [h5, hx] at this
    exact this
  have R : Hid (∀ W, Below w.heap.size w W → Calls Tryz.prog 151 #[.slice (some ⟨b, o, none⟩) n c, .int .i64 (k : Int)] W fun e w' => e = .returned (.bool b6) ∧ w' = W) := fun W f => by
    have := khasRoom_any W _ n c l (h.below f) k hk hn
    rw [h6] at this
    exact this
  rw [hx] at c0 c1 c2 c3 c4 h1
  obtain ⟨tag, text, nn, aa, bb⟩ := x
  generalize justE ⟨tag, text, nn, aa, bb⟩ = y at *
  obtain ⟨jt, js, jn, ja, jb⟩ := y
  simp only [entV] at J J2 L X F c0 c1 c2 c3 c4 h1
  generalize (⟨text.toArray⟩ : ByteArray) = st at *
  generalize (⟨js.toArray⟩ : ByteArray) = sj at *
  clear hE h hx hf ht h2 h3 h4 h5 h6 hg
  have hk2 : (k : Int) < (n : Int) := by omega
  have hk3 : (0 : Int) ≤ (k : Int) := by omega
  have b0 : Below w.heap.size w (w.alloc (.cells #[.int .i64 tag, .string st, .int .i64 nn, .int .i64 aa, .int .i64 bb] 136)) := (Below.refl _ _).alloc (Nat.le_refl _) _
  have hX := heap_alloc_last w (.cells #[.int .i64 tag, .string st, .int .i64 nn, .int .i64 aa, .int .i64 bb] 136)
  have G1 := hide (unhide G _ b0)
  have HX := hide hX
  have B0 := hide b0
  clear G b0 hX hk
  go_enter Tryz.func145, Tryz.ntmps145
  go_wp2_with fail
  refine (unhide G1).mono ?_
  rintro e w1 ⟨rfl, e0⟩
  have e0' := e0.symm
  clear e0
  subst e0'
  clear G1 c0 c1 c2 c3 c4
  go_wp2
  generalize w.alloc (.cells #[.int .i64 tag, .string st, .int .i64 nn, .int .i64 aa, .int .i64 bb] 136) = w1 at *
  have KC : ∀ W, Below w1.heap.size w1 W → W.cell? ⟨w.heap.size, 0, none⟩ = some (.int .i64 tag) ∧ W.cell? ⟨w.heap.size, 1, none⟩ = some (.string st) ∧ W.cell? ⟨w.heap.size, 2, none⟩ = some (.int .i64 nn) ∧ W.cell? ⟨w.heap.size, 3, none⟩ = some (.int .i64 aa) ∧ W.cell? ⟨w.heap.size, 4, none⟩ = some (.int .i64 bb) := fun W f => by
    have hc := (f.block _ (lt_of_heap (unhide HX))).trans (unhide HX)
    exact ⟨by rw [cell_of_row _ _ _ _ _ _ hc]; rfl, by rw [cell_of_row _ _ _ _ _ _ hc]; rfl, by rw [cell_of_row _ _ _ _ _ _ hc]; rfl, by rw [cell_of_row _ _ _ _ _ _ hc]; rfl, by rw [cell_of_row _ _ _ _ _ _ hc]; rfl⟩
  obtain ⟨SS, hSS⟩ : ∃ SS : World → Prop, SS = fun W => Hid (Below w1.heap.size w1 W) ∧ W.cell? ⟨w.heap.size, 0, none⟩ = some (.int .i64 tag) ∧ W.cell? ⟨w.heap.size, 1, none⟩ = some (.string st) ∧ W.cell? ⟨w.heap.size, 2, none⟩ = some (.int .i64 nn) ∧ W.cell? ⟨w.heap.size, 3, none⟩ = some (.int .i64 aa) ∧ W.cell? ⟨w.heap.size, 4, none⟩ = some (.int .i64 bb) := ⟨_, rfl⟩
  have KI : Hid (∀ W, Below w1.heap.size w1 W → SS W) := fun W f => by rw [hSS]; exact ⟨f, KC W f⟩
  have KE : ∀ W, SS W → W.cell? ⟨w.heap.size, 0, none⟩ = some (.int .i64 tag) ∧ W.cell? ⟨w.heap.size, 1, none⟩ = some (.string st) ∧ W.cell? ⟨w.heap.size, 2, none⟩ = some (.int .i64 nn) ∧ W.cell? ⟨w.heap.size, 3, none⟩ = some (.int .i64 aa) ∧ W.cell? ⟨w.heap.size, 4, none⟩ = some (.int .i64 bb) := fun W h => by
    rw [hSS] at h
    exact h.2
  have KW : Hid (∀ W, SS W → Below w1.heap.size w1 W) := fun W h => by
    rw [hSS] at h
    exact h.1
  have KB : Hid (∀ W, SS W → Below w.heap.size w W) := fun W h => (unhide B0).trans ((unhide KW W h).mono (unhide B0).size)
  have KS : Hid (∀ W W', SS W → Below W.heap.size W W' → SS W') := fun W W' h f => unhide KI W' ((unhide KW W h).trans (f.mono (unhide KW W h).size))
  clear hSS KC HX
  have KE' := hide KE
  clear KE
  refine wp_region_seq SS (by kernel_rfl) (by kernel_rfl) (unhide KI _ (Below.drew (Below.refl _ _))) ?_
  have h1' : (tag == 0) = !b1 := by
    rw [← h1]
    cases hq : (tag == 0) <;> simp [bne, hq]
  cases b1
  case false =>
    repeat (first
      | (refine SeqDo.skips (by rfl) ?_; simp only [Act.put, List.setIfInBounds_toArray, List.set_cons_zero, List.set_cons_succ])
      | (refine SeqDo.yields (v := ?_) (by rfl) ?_ ?_; rotate_left; (focus ((intro W hSW; obtain ⟨q0, q1, q2, q3, q4⟩ := unhide KE' W hSW; go_simp) <;> with_reducible rfl)); simp only [Act.put, List.setIfInBounds_toArray, List.set_cons_zero, List.set_cons_succ])
      | (refine SeqDo.does (v := .agg #[.int .i64 jt, .string sj, .int .i64 jn, .int .i64 ja, .int .i64 jb]) (by rfl) (fun W hSW KK hKK => ?_) ?_; (focus (go_simp; go_wp2_with (go_at_call 147; refine (unhide J _).mono ?_; rintro e W' ⟨rfl, fJ⟩); exact hKK.out _ (unhide KS _ _ hSW fJ))); simp only [Act.put, List.setIfInBounds_toArray, List.set_cons_zero, List.set_cons_succ])
      | (refine SeqDo.does (v := .bool b3) (by rfl) (fun W hSW KK hKK => ?_) ?_; (focus (go_simp; go_wp2_with (go_at_call 148; refine (unhide X _).mono ?_; rintro e W' ⟨rfl, rfl⟩); exact hKK.out _ hSW)); simp only [Act.put, List.setIfInBounds_toArray, List.set_cons_zero, List.set_cons_succ])
      | (refine SeqDo.does (v := .bool b4) (by rfl) (fun W hSW KK hKK => ?_) ?_; (focus (go_simp; go_wp2_with (go_at_call 149; refine (unhide L _ (unhide KB _ hSW)).mono ?_; rintro e W' ⟨rfl, fJ⟩); exact hKK.out _ (unhide KS _ _ hSW fJ))); simp only [Act.put, List.setIfInBounds_toArray, List.set_cons_zero, List.set_cons_succ])
      | (refine SeqDo.does (v := .bool b5) (by rfl) (fun W hSW KK hKK => ?_) ?_; (focus (go_simp; go_wp2_with (go_at_call 150; refine (unhide F _).mono ?_; rintro e W' ⟨rfl, rfl⟩); exact hKK.out _ hSW)); simp only [Act.put, List.setIfInBounds_toArray, List.set_cons_zero, List.set_cons_succ])
      | (refine SeqDo.does (v := .bool b6) (by rfl) (fun W hSW KK hKK => ?_) ?_; (focus (go_simp; go_wp2_with (go_at_call 151; refine (unhide R _ (unhide KB _ hSW)).mono ?_; rintro e W' ⟨rfl, rfl⟩); exact hKK.out _ hSW)); simp only [Act.put, List.setIfInBounds_toArray, List.set_cons_zero, List.set_cons_succ]))
    intro W hSW
    go_wp2
    go_ret
    exact ⟨rfl, unhide KB _ hSW⟩
  cases b2
  case false =>
    repeat (first
      | (refine SeqDo.skips (by rfl) ?_; simp only [Act.put, List.setIfInBounds_toArray, List.set_cons_zero, List.set_cons_succ])
      | (refine SeqDo.yields (v := ?_) (by rfl) ?_ ?_; rotate_left; (focus ((intro W hSW; obtain ⟨q0, q1, q2, q3, q4⟩ := unhide KE' W hSW; go_simp) <;> with_reducible rfl)); simp only [Act.put, List.setIfInBounds_toArray, List.set_cons_zero, List.set_cons_succ])
      | (refine SeqDo.does (v := .agg #[.int .i64 jt, .string sj, .int .i64 jn, .int .i64 ja, .int .i64 jb]) (by rfl) (fun W hSW KK hKK => ?_) ?_; (focus (go_simp; go_wp2_with (go_at_call 147; refine (unhide J _).mono ?_; rintro e W' ⟨rfl, fJ⟩); exact hKK.out _ (unhide KS _ _ hSW fJ))); simp only [Act.put, List.setIfInBounds_toArray, List.set_cons_zero, List.set_cons_succ])
      | (refine SeqDo.does (v := .bool b3) (by rfl) (fun W hSW KK hKK => ?_) ?_; (focus (go_simp; go_wp2_with (go_at_call 148; refine (unhide X _).mono ?_; rintro e W' ⟨rfl, rfl⟩); exact hKK.out _ hSW)); simp only [Act.put, List.setIfInBounds_toArray, List.set_cons_zero, List.set_cons_succ])
      | (refine SeqDo.does (v := .bool b4) (by rfl) (fun W hSW KK hKK => ?_) ?_; (focus (go_simp; go_wp2_with (go_at_call 149; refine (unhide L _ (unhide KB _ hSW)).mono ?_; rintro e W' ⟨rfl, fJ⟩); exact hKK.out _ (unhide KS _ _ hSW fJ))); simp only [Act.put, List.setIfInBounds_toArray, List.set_cons_zero, List.set_cons_succ])
      | (refine SeqDo.does (v := .bool b5) (by rfl) (fun W hSW KK hKK => ?_) ?_; (focus (go_simp; go_wp2_with (go_at_call 150; refine (unhide F _).mono ?_; rintro e W' ⟨rfl, rfl⟩); exact hKK.out _ hSW)); simp only [Act.put, List.setIfInBounds_toArray, List.set_cons_zero, List.set_cons_succ])
      | (refine SeqDo.does (v := .bool b6) (by rfl) (fun W hSW KK hKK => ?_) ?_; (focus (go_simp; go_wp2_with (go_at_call 151; refine (unhide R _ (unhide KB _ hSW)).mono ?_; rintro e W' ⟨rfl, rfl⟩); exact hKK.out _ hSW)); simp only [Act.put, List.setIfInBounds_toArray, List.set_cons_zero, List.set_cons_succ]))
    intro W hSW
    go_wp2
    go_ret
    exact ⟨rfl, unhide KB _ hSW⟩
  cases b3
  case false =>
    repeat (first
      | (refine SeqDo.skips (by rfl) ?_; simp only [Act.put, List.setIfInBounds_toArray, List.set_cons_zero, List.set_cons_succ])
      | (refine SeqDo.yields (v := ?_) (by rfl) ?_ ?_; rotate_left; (focus ((intro W hSW; obtain ⟨q0, q1, q2, q3, q4⟩ := unhide KE' W hSW; go_simp) <;> with_reducible rfl)); simp only [Act.put, List.setIfInBounds_toArray, List.set_cons_zero, List.set_cons_succ])
      | (refine SeqDo.does (v := .agg #[.int .i64 jt, .string sj, .int .i64 jn, .int .i64 ja, .int .i64 jb]) (by rfl) (fun W hSW KK hKK => ?_) ?_; (focus (go_simp; go_wp2_with (go_at_call 147; refine (unhide J _).mono ?_; rintro e W' ⟨rfl, fJ⟩); exact hKK.out _ (unhide KS _ _ hSW fJ))); simp only [Act.put, List.setIfInBounds_toArray, List.set_cons_zero, List.set_cons_succ])
      | (refine SeqDo.does (v := .bool false) (by rfl) (fun W hSW KK hKK => ?_) ?_; (focus (go_simp; go_wp2_with (go_at_call 148; refine (unhide X _).mono ?_; rintro e W' ⟨rfl, rfl⟩); exact hKK.out _ hSW)); simp only [Act.put, List.setIfInBounds_toArray, List.set_cons_zero, List.set_cons_succ])
      | (refine SeqDo.does (v := .bool b4) (by rfl) (fun W hSW KK hKK => ?_) ?_; (focus (go_simp; go_wp2_with (go_at_call 149; refine (unhide L _ (unhide KB _ hSW)).mono ?_; rintro e W' ⟨rfl, fJ⟩); exact hKK.out _ (unhide KS _ _ hSW fJ))); simp only [Act.put, List.setIfInBounds_toArray, List.set_cons_zero, List.set_cons_succ])
      | (refine SeqDo.does (v := .bool b5) (by rfl) (fun W hSW KK hKK => ?_) ?_; (focus (go_simp; go_wp2_with (go_at_call 150; refine (unhide F _).mono ?_; rintro e W' ⟨rfl, rfl⟩); exact hKK.out _ hSW)); simp only [Act.put, List.setIfInBounds_toArray, List.set_cons_zero, List.set_cons_succ])
      | (refine SeqDo.does (v := .bool b6) (by rfl) (fun W hSW KK hKK => ?_) ?_; (focus (go_simp; go_wp2_with (go_at_call 151; refine (unhide R _ (unhide KB _ hSW)).mono ?_; rintro e W' ⟨rfl, rfl⟩); exact hKK.out _ hSW)); simp only [Act.put, List.setIfInBounds_toArray, List.set_cons_zero, List.set_cons_succ]))
    intro W hSW
    go_wp2
    go_ret
    exact ⟨rfl, unhide KB _ hSW⟩
  cases b4
  case false =>
    repeat (first
      | (refine SeqDo.skips (by rfl) ?_; simp only [Act.put, List.setIfInBounds_toArray, List.set_cons_zero, List.set_cons_succ])
      | (refine SeqDo.yields (v := ?_) (by rfl) ?_ ?_; rotate_left; (focus ((intro W hSW; obtain ⟨q0, q1, q2, q3, q4⟩ := unhide KE' W hSW; go_simp) <;> with_reducible rfl)); simp only [Act.put, List.setIfInBounds_toArray, List.set_cons_zero, List.set_cons_succ])
      | (refine SeqDo.does (v := .agg #[.int .i64 jt, .string sj, .int .i64 jn, .int .i64 ja, .int .i64 jb]) (by rfl) (fun W hSW KK hKK => ?_) ?_; (focus (go_simp; go_wp2_with (go_at_call 147; refine (unhide J _).mono ?_; rintro e W' ⟨rfl, fJ⟩); exact hKK.out _ (unhide KS _ _ hSW fJ))); simp only [Act.put, List.setIfInBounds_toArray, List.set_cons_zero, List.set_cons_succ])
      | (refine SeqDo.does (v := .bool true) (by rfl) (fun W hSW KK hKK => ?_) ?_; (focus (go_simp; go_wp2_with (go_at_call 148; refine (unhide X _).mono ?_; rintro e W' ⟨rfl, rfl⟩); exact hKK.out _ hSW)); simp only [Act.put, List.setIfInBounds_toArray, List.set_cons_zero, List.set_cons_succ])
      | (refine SeqDo.does (v := .bool false) (by rfl) (fun W hSW KK hKK => ?_) ?_; (focus (go_simp; go_wp2_with (go_at_call 149; refine (unhide L _ (unhide KB _ hSW)).mono ?_; rintro e W' ⟨rfl, fJ⟩); exact hKK.out _ (unhide KS _ _ hSW fJ))); simp only [Act.put, List.setIfInBounds_toArray, List.set_cons_zero, List.set_cons_succ])
      | (refine SeqDo.does (v := .bool b5) (by rfl) (fun W hSW KK hKK => ?_) ?_; (focus (go_simp; go_wp2_with (go_at_call 150; refine (unhide F _).mono ?_; rintro e W' ⟨rfl, rfl⟩); exact hKK.out _ hSW)); simp only [Act.put, List.setIfInBounds_toArray, List.set_cons_zero, List.set_cons_succ])
      | (refine SeqDo.does (v := .bool b6) (by rfl) (fun W hSW KK hKK => ?_) ?_; (focus (go_simp; go_wp2_with (go_at_call 151; refine (unhide R _ (unhide KB _ hSW)).mono ?_; rintro e W' ⟨rfl, rfl⟩); exact hKK.out _ hSW)); simp only [Act.put, List.setIfInBounds_toArray, List.set_cons_zero, List.set_cons_succ]))
    intro W hSW
    go_wp2
    go_ret
    exact ⟨rfl, unhide KB _ hSW⟩
  cases b5
  case false =>
    repeat (first
      | (refine SeqDo.skips (by rfl) ?_; simp only [Act.put, List.setIfInBounds_toArray, List.set_cons_zero, List.set_cons_succ])
      | (refine SeqDo.yields (v := ?_) (by rfl) ?_ ?_; rotate_left; (focus ((intro W hSW; obtain ⟨q0, q1, q2, q3, q4⟩ := unhide KE' W hSW; go_simp) <;> with_reducible rfl)); simp only [Act.put, List.setIfInBounds_toArray, List.set_cons_zero, List.set_cons_succ])
      | (refine SeqDo.does (v := .agg #[.int .i64 jt, .string sj, .int .i64 jn, .int .i64 ja, .int .i64 jb]) (by rfl) (fun W hSW KK hKK => ?_) ?_; (focus (go_simp; go_wp2_with (go_at_call 147; refine (unhide J _).mono ?_; rintro e W' ⟨rfl, fJ⟩); exact hKK.out _ (unhide KS _ _ hSW fJ))); simp only [Act.put, List.setIfInBounds_toArray, List.set_cons_zero, List.set_cons_succ])
      | (refine SeqDo.does (v := .bool true) (by rfl) (fun W hSW KK hKK => ?_) ?_; (focus (go_simp; go_wp2_with (go_at_call 148; refine (unhide X _).mono ?_; rintro e W' ⟨rfl, rfl⟩); exact hKK.out _ hSW)); simp only [Act.put, List.setIfInBounds_toArray, List.set_cons_zero, List.set_cons_succ])
      | (refine SeqDo.does (v := .bool true) (by rfl) (fun W hSW KK hKK => ?_) ?_; (focus (go_simp; go_wp2_with (go_at_call 149; refine (unhide L _ (unhide KB _ hSW)).mono ?_; rintro e W' ⟨rfl, fJ⟩); exact hKK.out _ (unhide KS _ _ hSW fJ))); simp only [Act.put, List.setIfInBounds_toArray, List.set_cons_zero, List.set_cons_succ])
      | (refine SeqDo.does (v := .bool false) (by rfl) (fun W hSW KK hKK => ?_) ?_; (focus (go_simp; go_wp2_with (go_at_call 150; refine (unhide F _).mono ?_; rintro e W' ⟨rfl, rfl⟩); exact hKK.out _ hSW)); simp only [Act.put, List.setIfInBounds_toArray, List.set_cons_zero, List.set_cons_succ])
      | (refine SeqDo.does (v := .bool b6) (by rfl) (fun W hSW KK hKK => ?_) ?_; (focus (go_simp; go_wp2_with (go_at_call 151; refine (unhide R _ (unhide KB _ hSW)).mono ?_; rintro e W' ⟨rfl, rfl⟩); exact hKK.out _ hSW)); simp only [Act.put, List.setIfInBounds_toArray, List.set_cons_zero, List.set_cons_succ]))
    intro W hSW
    go_wp2
    go_ret
    exact ⟨rfl, unhide KB _ hSW⟩
  cases b6
  case false =>
    repeat (first
      | (refine SeqDo.skips (by rfl) ?_; simp only [Act.put, List.setIfInBounds_toArray, List.set_cons_zero, List.set_cons_succ])
      | (refine SeqDo.yields (v := ?_) (by rfl) ?_ ?_; rotate_left; (focus ((intro W hSW; obtain ⟨q0, q1, q2, q3, q4⟩ := unhide KE' W hSW; go_simp) <;> with_reducible rfl)); simp only [Act.put, List.setIfInBounds_toArray, List.set_cons_zero, List.set_cons_succ])
      | (refine SeqDo.does (v := .agg #[.int .i64 jt, .string sj, .int .i64 jn, .int .i64 ja, .int .i64 jb]) (by rfl) (fun W hSW KK hKK => ?_) ?_; (focus (go_simp; go_wp2_with (go_at_call 147; refine (unhide J _).mono ?_; rintro e W' ⟨rfl, fJ⟩); exact hKK.out _ (unhide KS _ _ hSW fJ))); simp only [Act.put, List.setIfInBounds_toArray, List.set_cons_zero, List.set_cons_succ])
      | (refine SeqDo.does (v := .bool true) (by rfl) (fun W hSW KK hKK => ?_) ?_; (focus (go_simp; go_wp2_with (go_at_call 148; refine (unhide X _).mono ?_; rintro e W' ⟨rfl, rfl⟩); exact hKK.out _ hSW)); simp only [Act.put, List.setIfInBounds_toArray, List.set_cons_zero, List.set_cons_succ])
      | (refine SeqDo.does (v := .bool true) (by rfl) (fun W hSW KK hKK => ?_) ?_; (focus (go_simp; go_wp2_with (go_at_call 149; refine (unhide L _ (unhide KB _ hSW)).mono ?_; rintro e W' ⟨rfl, fJ⟩); exact hKK.out _ (unhide KS _ _ hSW fJ))); simp only [Act.put, List.setIfInBounds_toArray, List.set_cons_zero, List.set_cons_succ])
      | (refine SeqDo.does (v := .bool true) (by rfl) (fun W hSW KK hKK => ?_) ?_; (focus (go_simp; go_wp2_with (go_at_call 150; refine (unhide F _).mono ?_; rintro e W' ⟨rfl, rfl⟩); exact hKK.out _ hSW)); simp only [Act.put, List.setIfInBounds_toArray, List.set_cons_zero, List.set_cons_succ])
      | (refine SeqDo.does (v := .bool false) (by rfl) (fun W hSW KK hKK => ?_) ?_; (focus (go_simp; go_wp2_with (go_at_call 151; refine (unhide R _ (unhide KB _ hSW)).mono ?_; rintro e W' ⟨rfl, rfl⟩); exact hKK.out _ hSW)); simp only [Act.put, List.setIfInBounds_toArray, List.set_cons_zero, List.set_cons_succ]))
    intro W hSW
    go_wp2
    go_ret
    exact ⟨rfl, unhide KB _ hSW⟩
  repeat (first
    | (refine SeqDo.skips (by rfl) ?_; simp only [Act.put, List.setIfInBounds_toArray, List.set_cons_zero, List.set_cons_succ])
    | (refine SeqDo.yields (v := ?_) (by rfl) ?_ ?_; rotate_left; (focus ((intro W hSW; obtain ⟨q0, q1, q2, q3, q4⟩ := unhide KE' W hSW; go_simp) <;> with_reducible rfl)); simp only [Act.put, List.setIfInBounds_toArray, List.set_cons_zero, List.set_cons_succ])
    | (refine SeqDo.does (v := .agg #[.int .i64 jt, .string sj, .int .i64 jn, .int .i64 ja, .int .i64 jb]) (by rfl) (fun W hSW KK hKK => ?_) ?_; (focus (go_simp; go_wp2_with (go_at_call 147; refine (unhide J _).mono ?_; rintro e W' ⟨rfl, fJ⟩); exact hKK.out _ (unhide KS _ _ hSW fJ))); simp only [Act.put, List.setIfInBounds_toArray, List.set_cons_zero, List.set_cons_succ])
    | (refine SeqDo.does (v := .bool true) (by rfl) (fun W hSW KK hKK => ?_) ?_; (focus (go_simp; go_wp2_with (go_at_call 148; refine (unhide X _).mono ?_; rintro e W' ⟨rfl, rfl⟩); exact hKK.out _ hSW)); simp only [Act.put, List.setIfInBounds_toArray, List.set_cons_zero, List.set_cons_succ])
    | (refine SeqDo.does (v := .bool true) (by rfl) (fun W hSW KK hKK => ?_) ?_; (focus (go_simp; go_wp2_with (go_at_call 149; refine (unhide L _ (unhide KB _ hSW)).mono ?_; rintro e W' ⟨rfl, fJ⟩); exact hKK.out _ (unhide KS _ _ hSW fJ))); simp only [Act.put, List.setIfInBounds_toArray, List.set_cons_zero, List.set_cons_succ])
    | (refine SeqDo.does (v := .bool true) (by rfl) (fun W hSW KK hKK => ?_) ?_; (focus (go_simp; go_wp2_with (go_at_call 150; refine (unhide F _).mono ?_; rintro e W' ⟨rfl, rfl⟩); exact hKK.out _ hSW)); simp only [Act.put, List.setIfInBounds_toArray, List.set_cons_zero, List.set_cons_succ])
    | (refine SeqDo.does (v := .bool true) (by rfl) (fun W hSW KK hKK => ?_) ?_; (focus (go_simp; go_wp2_with (go_at_call 151; refine (unhide R _ (unhide KB _ hSW)).mono ?_; rintro e W' ⟨rfl, rfl⟩); exact hKK.out _ hSW)); simp only [Act.put, List.setIfInBounds_toArray, List.set_cons_zero, List.set_cons_succ]))
  intro W hSW
  go_wp2
  go_ret
  exact ⟨rfl, unhide KB _ hSW⟩

theorem Es.at {w : World} {a : Option Addr} {n : Nat} {l : List Ent} (h : Es w a n l) {k : Nat} (hk : k < n) : l[k]? = some (atE l (k : Int)) := by
  rw [atE_nat, List.getElem?_eq_getElem (by rw [h.1]; exact hk)]
  rfl
set_option maxHeartbeats 1600000 in
set_option maxRecDepth 100000 in
theorem kisRight_any (w : World) (a : Option Addr) (n c : Nat) (l : List Ent) (h : Es w a n l) (k : Nat) (hk : k < n) (hn : n ≤ 140737488351232) (hf : (∀ x ∈ l, x.text.length ≤ 140737488355328) ∧ ∀ x ∈ l, EntFit x) :
    Calls Tryz.prog 145 #[.slice a n c, .int .i64 (k : Int)] w fun e w' => e = .returned (.bool (rightAt l k)) ∧ Below w.heap.size w w' := by
  have hm := List.mem_of_getElem? (h.at hk)
  cases hg : gapE l k
  case false =>
    have H := kisRight_one w a n c l h k hk hn (hf.2 _ hm) (hf.1 _ hm) _ _ _ _ _ _ rfl rfl rfl rfl rfl rfl hg
    have e1 : rightAt l k = (((atE l (k : Int)).tag != 0) && decide (atE l (k : Int) = justE (atE l (k : Int))) && textB (atE l (k : Int)).text && leadsE l (atE l (k : Int)) && fitsE (atE l (k : Int)).tag (atE l (k : Int)).n && decide ((k : Int) + (if (atE l (k : Int)).tag = 5 then 2 else 1) ≤ (n : Int))) := by
      unfold rightAt
      rw [if_neg (by rw [hg]; simp), okE_code]
      have e2 : ((atE l (k : Int)).tag != 0) = decide ((atE l (k : Int)).tag ≠ 0) := by
        rw [Bool.eq_iff_iff]
        simp
      have e3 : (decide ((atE l (k : Int)).tag ≠ 5) || decide (k + 1 < l.length)) = decide ((k : Int) + (if (atE l (k : Int)).tag = 5 then 2 else 1) ≤ (n : Int)) := by
        have hl := h.1
        by_cases h5 : (atE l (k : Int)).tag = 5
        · rw [if_pos h5, decide_eq_false (by simpa using h5), Bool.false_or]
          exact decide_eq_decide.2 (by omega)
        · rw [if_neg h5, decide_eq_true h5, Bool.true_or]
          exact (decide_eq_true (by omega)).symm
      rw [e2, e3]
    rw [e1]
    exact H
  case true =>
    have e1 : rightAt l k = decide (atE l (k : Int) = ent0) := by
      unfold rightAt
      rw [if_pos hg]
    rw [e1]
    obtain ⟨b, o, rfl, hE⟩ := h.2.resolve_left (by omega)
    obtain ⟨c0, c1, c2, c3, c4⟩ := ents_at hE (k := k) (by have := h.1; omega)
    obtain ⟨x, hx⟩ : ∃ x, atE l (k : Int) = x := ⟨_, rfl⟩
    have G : Hid (∀ W, Below w.heap.size w W → Calls Tryz.prog 146 #[.slice (some ⟨b, o, none⟩) n c, .int .i64 (k : Int)] W fun e w' => e = .returned (.bool true) ∧ w' = W) := fun W f => by
      have := kisGap_any W _ n c l (h.below f) k hk hn
      rw [hg] at this
      exact this
    have J2 : ∀ W, (binOp .eql 136 (entV x) (entV ent0)).run Tryz.prog W = .ok (.bool (decide (x = ent0))) W := fun W => ent_cmp W x ent0
    rw [hx] at c0 c1 c2 c3 c4 ⊢
    generalize decide (x = ent0) = D at *
    obtain ⟨tag, text, nn, aa, bb⟩ := x
    unfold ent0 at J2
    simp only [entV] at J2 c0 c1 c2 c3 c4
    generalize (⟨text.toArray⟩ : ByteArray) = st at *
    clear hE h hx hg e1 hm
    have hk2 : (k : Int) < (n : Int) := by omega
    have hk3 : (0 : Int) ≤ (k : Int) := by omega
    have b0 : Below w.heap.size w (w.alloc (.cells #[.int .i64 tag, .string st, .int .i64 nn, .int .i64 aa, .int .i64 bb] 136)) := (Below.refl _ _).alloc (Nat.le_refl _) _
    have G1 := hide (unhide G _ b0)
    have B0 := hide b0
    clear G b0 hk
    go_enter Tryz.func145, Tryz.ntmps145
    go_wp2_with fail
    refine (unhide G1).mono ?_
    rintro e w1 ⟨rfl, e0⟩
    have e0' := e0.symm
    clear e0
    subst e0'
    clear G1 c0 c1 c2 c3 c4
    go_wp2
    go_ret
    exact ⟨rfl, unhide B0⟩

set_option maxHeartbeats 1600000 in
theorem kCheck_any (w : World) (a : Option Addr) (n c : Nat) (l : List Ent) (h : Es w a n l) (hn : n ≤ 140737488351232) (hf : (∀ x ∈ l, x.text.length ≤ 140737488355328) ∧ ∀ x ∈ l, EntFit x) :
    Calls Tryz.prog 141 #[.slice a n c] w fun e w' => e = .returned (.int .i64 (if checkP l = true then 0 else 70)) ∧ Below w.heap.size w w' := by
  have hln := h.1
  obtain ⟨T, hT⟩ : ∃ T : Int, T = if checkP l = true then 0 else 70 := ⟨_, rfl⟩
  rw [← hT]
  by_cases h1 : n < 1
  case pos =>
    have e1 : Hid (T = 70) := by
      rw [hT, if_neg (fun e => by have := ((checkP_all l).1 e).1; omega)]
      rfl
    have h1' : (n : Int) < 1 := by omega
    clear h hT
    go_enter Tryz.func141, Tryz.ntmps141
    go_wp2
    go_ret
    exact ⟨by rw [unhide e1]; rfl, Below.refl _ _⟩
  by_cases h2 : 1024 < n
  case pos =>
    have e1 : Hid (T = 70) := by
      rw [hT, if_neg (fun e => by have := ((checkP_all l).1 e).1; omega)]
      rfl
    have h1' : ¬ (n : Int) < 1 := by omega
    have h2' : (1024 : Int) < (n : Int) := by omega
    clear h hT
    go_enter Tryz.func141, Tryz.ntmps141
    go_wp2
    go_ret
    exact ⟨by rw [unhide e1]; rfl, Below.refl _ _⟩
  have h1' : ¬ (n : Int) < 1 := by omega
  have h2' : ¬ (1024 : Int) < (n : Int) := by omega
  have HT := hide hT
  have H := hide h
  clear hT h
  go_enter Tryz.func141, Tryz.ntmps141
  go_wp2
  go_loopw [14] (fun i wr => ∃ k : Nat, k ≤ n ∧ i = .int .i64 k ∧ (∀ j, j < k → rightAt l j = true) ∧ Below w.heap.size w wr) (fun i _ => n - (intOf i).toNat)
  case atStart => exact ⟨0, by omega, rfl, fun j h => by omega, Below.refl _ _⟩
  case round =>
    obtain ⟨k, hk, rfl, hall, hB⟩ := hrel
    have HA := hide hall
    have HB := hide hB
    clear hall
    by_cases hlt : k < n
    · have hlt1 : (k : Int) < (n : Int) := by omega
      have HR := hide (kisRight_any wr a n c l ((unhide H).below hB) k hlt hn hf)
      clear hB
      cases hr : rightAt l k
      case false =>
        rw [hr] at HR
        have e1 : Hid (T = 70) := by
          rw [unhide HT, if_neg (fun e => by
            have := ((checkP_all l).1 e).2 k (by omega)
            rw [hr] at this
            cases this)]
          rfl
        clear hr
        go_wp2_with fail
        refine (unhide HR).mono ?_
        rintro e w1 ⟨rfl, f1⟩
        have F1 := hide ((unhide HB).trans (f1.mono (unhide HB).size))
        clear f1 HR
        go_wp2
        go_ret
        exact ⟨by rw [unhide e1]; rfl, unhide F1⟩
      case true =>
        rw [hr] at HR
        have HN : Hid (∀ j, j < k + 1 → rightAt l j = true) := fun j hj => by
          by_cases e : j = k
          · subst e; exact hr
          · exact unhide HA j (by omega)
        clear hr
        go_wp2_with fail
        refine (unhide HR).mono ?_
        rintro e w1 ⟨rfl, f1⟩
        have F1 := hide ((unhide HB).trans (f1.mono (unhide HB).size))
        clear f1 HR
        go_wp2
        go_roundw
        case rel => exact ⟨k + 1, by omega, by go_num, unhide HN, unhide F1⟩
        case measure => simp [intOf]; omega
    · have e1 : Hid (T = 0) := by
        rw [unhide HT, if_pos ((checkP_all l).2 ⟨by omega, fun i hi => unhide HA i (by omega)⟩)]
        rfl
      clear hB
      go_wp2
      go_ret
      exact ⟨by rw [unhide e1]; rfl, unhide HB⟩

end Go.Proofs.YthenefjoidckkaaGreatDoor

/- The landed pool: meaning. -/
namespace Go.Proofs.YthenefjoidckkaaGreatDoor
open Go.RowKit
set_option linter.unusedVariables false

theorem kc3 {w : World} {p : Addr} {v : Value} (h : w.cell? p = some v) : ∀ X Y Z, (((w.alloc X).alloc Y).alloc Z).cell? p = some v := fun X Y Z => cell_alloc (cell_alloc (cell_alloc h X) Y) Z
theorem k3_first (w : World) (X Y Z : Obj) : (((w.alloc X).alloc Y).alloc Z).heap[w.heap.size]? = some X := (heap_alloc_old _ _ (by simp; omega)).trans (two_heap w X Y)
theorem k3_last (w : World) (X Y Z : Obj) : (((w.alloc X).alloc Y).alloc Z).heap[w.heap.size + 1 + 1]? = some Z := by
  have := heap_alloc_last ((w.alloc X).alloc Y) Z
  simpa using this

set_option maxHeartbeats 6400000 in
set_option maxRecDepth 100000 in
theorem kmeaning_none (w : World) (a : Option Addr) (n c : Nat) (l : List Ent) (h : Es w a n l) (hr : rightL l) (x : Ent) (ht : x.tag = 0 ∨ x.tag = 1) (hn : n ≤ 140737488351232) :
    Calls Tryz.prog 143 #[.slice a n c, entV x] w fun e w' => e = .returned (cstV (meanN l x)) ∧ Below w.heap.size w w' := by
  have e1 : meanN l x = ⟨x.tag, 0, [], [], []⟩ := by
    unfold meanN
    rw [if_neg (by omega), if_neg (by omega), if_neg (by omega), if_neg (by omega)]
  rw [e1]
  obtain ⟨tag, text, nn, aa, bb⟩ := x
  simp only at ht
  unfold entV cstV
  simp only
  clear h hr e1
  have b3 : (tag == 3) = false := by rw [beq_eq_false_iff_ne]; omega
  have b5 : (tag == 5) = false := by rw [beq_eq_false_iff_ne]; omega
  have b7 : (tag == 7) = false := by rw [beq_eq_false_iff_ne]; omega
  have b9 : (tag == 9) = false := by rw [beq_eq_false_iff_ne]; omega
  have b10 : (tag == 10) = false := by rw [beq_eq_false_iff_ne]; omega
  have b12 : (tag == 12) = false := by rw [beq_eq_false_iff_ne]; omega
  clear ht
  generalize (⟨text.toArray⟩ : ByteArray) = st at *
  go_enter Tryz.func143, Tryz.ntmps143
  go_wp2
  refine bodyPost_ret (v := .agg #[.int .i64 tag, .int .i64 0, .string ⟨#[]⟩, .string ⟨#[]⟩, .string ⟨#[]⟩]) ?_ rfl ⟨rfl, k3_bel w _ _ _⟩
  exact results_cell_row Tryz.results143 _ _ (w.heap.size + 1) 120 _ (0, 0) _ rfl (k3_mid w _ _ _) Tryz.underlying120 rfl sizeCst

set_option maxHeartbeats 6400000 in
set_option maxRecDepth 100000 in
theorem kmeaning_num3 (w : World) (a : Option Addr) (n c : Nat) (l : List Ent) (h : Es w a n l) (hr : rightL l) (x : Ent) (ht : x.tag = 3) (hn : n ≤ 140737488351232) :
    Calls Tryz.prog 143 #[.slice a n c, entV x] w fun e w' => e = .returned (cstV (meanN l x)) ∧ Below w.heap.size w w' := by
  have e1 : meanN l x = ⟨3, x.n, [], [], []⟩ := by
    unfold meanN
    rw [if_pos (by omega), ht]
  rw [e1]
  obtain ⟨tag, text, nn, aa, bb⟩ := x
  simp only at ht
  subst ht
  unfold entV cstV
  simp only
  clear h hr e1
  generalize (⟨text.toArray⟩ : ByteArray) = st at *
  go_enter Tryz.func143, Tryz.ntmps143
  go_wp2
  refine bodyPost_ret (v := .agg #[.int .i64 3, .int .i64 nn, .string ⟨#[]⟩, .string ⟨#[]⟩, .string ⟨#[]⟩]) ?_ rfl ⟨rfl, k3_bel w _ _ _⟩
  exact results_cell_row Tryz.results143 _ _ (w.heap.size + 1) 120 _ (0, 0) _ rfl (k3_mid w _ _ _) Tryz.underlying120 rfl sizeCst

set_option maxHeartbeats 6400000 in
set_option maxRecDepth 100000 in
theorem kmeaning_num5 (w : World) (a : Option Addr) (n c : Nat) (l : List Ent) (h : Es w a n l) (hr : rightL l) (x : Ent) (ht : x.tag = 5) (hn : n ≤ 140737488351232) :
    Calls Tryz.prog 143 #[.slice a n c, entV x] w fun e w' => e = .returned (cstV (meanN l x)) ∧ Below w.heap.size w w' := by
  have e1 : meanN l x = ⟨5, x.n, [], [], []⟩ := by
    unfold meanN
    rw [if_pos (by omega), ht]
  rw [e1]
  obtain ⟨tag, text, nn, aa, bb⟩ := x
  simp only at ht
  subst ht
  unfold entV cstV
  simp only
  clear h hr e1
  generalize (⟨text.toArray⟩ : ByteArray) = st at *
  go_enter Tryz.func143, Tryz.ntmps143
  go_wp2
  refine bodyPost_ret (v := .agg #[.int .i64 5, .int .i64 nn, .string ⟨#[]⟩, .string ⟨#[]⟩, .string ⟨#[]⟩]) ?_ rfl ⟨rfl, k3_bel w _ _ _⟩
  exact results_cell_row Tryz.results143 _ _ (w.heap.size + 1) 120 _ (0, 0) _ rfl (k3_mid w _ _ _) Tryz.underlying120 rfl sizeCst

set_option maxHeartbeats 6400000 in
set_option maxRecDepth 100000 in
theorem kmeaning_class (w : World) (a : Option Addr) (n c : Nat) (l : List Ent) (h : Es w a n l) (hr : rightL l) (x : Ent) (ht : x.tag = 7) (hok : okE l x = true) (hn : n ≤ 140737488351232) :
    Calls Tryz.prog 143 #[.slice a n c, entV x] w fun e w' => e = .returned (cstV (meanN l x)) ∧ Below w.heap.size w w' := by
  have hln := h.1
  have hlen := right_len hr
  obtain ⟨b, o, rfl, hE⟩ := h.2.resolve_left (by omega)
  have hget : ∀ (q : Int), (atE l q).tag ≠ 0 → ∃ r : Nat, q = r ∧ r < n ∧ l[r]? = some (atE l q) := fun q hq => by
    obtain ⟨r, e1, e2, e3⟩ := atE_in hq
    exact ⟨r, e1, by omega, e3⟩
  have hro : ∀ q : Int, (atE l q).tag ≠ 0 → okE l (atE l q) = true := fun q hq => right_ok hr hq
  have e1 : meanN l x = ⟨7, 0, (atE l x.a).text, [], []⟩ := by
    unfold meanN
    rw [if_neg (by omega), if_pos ht]
  rw [e1]
  have ho : (atE l x.a).tag = 1 := by
    unfold okE at hok
    simp [ht] at hok
    exact hok.1
  obtain ⟨tag, text, nn, aa, bb⟩ := x
  simp only at ht ho ⊢
  subst ht
  obtain ⟨r, rfl, hrn, hrr⟩ := hget aa (by omega)
  obtain ⟨_, g1, _, _, _⟩ := ents_get hE hrr
  have q1 := kc3 g1
  have hrn' : (r : Int) < (n : Int) := by omega
  unfold entV cstV
  simp only
  generalize (atE l (r : Int)).text = tx at *
  clear hget hro hok hE hrr g1 ho e1 h hr
  generalize (⟨text.toArray⟩ : ByteArray) = st at *
  generalize (⟨tx.toArray⟩ : ByteArray) = st2 at *
  go_enter Tryz.func143, Tryz.ntmps143
  go_wp2
  refine bodyPost_ret (v := .agg #[.int .i64 7, .int .i64 0, .string st2, .string ⟨#[]⟩, .string ⟨#[]⟩]) ?_ rfl ⟨rfl, k3_bel w _ _ _⟩
  exact results_cell_row Tryz.results143 _ _ (w.heap.size + 1) 120 _ (0, 0) _ rfl (k3_mid w _ _ _) Tryz.underlying120 rfl sizeCst

set_option maxHeartbeats 6400000 in
set_option maxRecDepth 100000 in
theorem kmeaning_name (w : World) (a : Option Addr) (n c : Nat) (l : List Ent) (h : Es w a n l) (hr : rightL l) (x : Ent) (ht : x.tag = 12) (hok : okE l x = true) (hn : n ≤ 140737488351232) :
    Calls Tryz.prog 143 #[.slice a n c, entV x] w fun e w' => e = .returned (cstV (meanN l x)) ∧ Below w.heap.size w w' := by
  have hln := h.1
  have hlen := right_len hr
  obtain ⟨b, o, rfl, hE⟩ := h.2.resolve_left (by omega)
  have hget : ∀ (q : Int), (atE l q).tag ≠ 0 → ∃ r : Nat, q = r ∧ r < n ∧ l[r]? = some (atE l q) := fun q hq => by
    obtain ⟨r, e1, e2, e3⟩ := atE_in hq
    exact ⟨r, e1, by omega, e3⟩
  have hro : ∀ q : Int, (atE l q).tag ≠ 0 → okE l (atE l q) = true := fun q hq => right_ok hr hq
  have e1 : meanN l x = ⟨12, 0, [], (atE l x.a).text, (atE l x.b).text⟩ := by
    unfold meanN
    rw [if_neg (by omega), if_neg (by omega), if_neg (by omega), if_pos ht]
  rw [e1]
  have ho : (atE l x.a).tag = 1 ∧ (atE l x.b).tag = 1 := by
    unfold okE at hok
    simp [ht] at hok
    exact hok.1
  obtain ⟨tag, text, nn, aa, bb⟩ := x
  simp only at ht ho ⊢
  subst ht
  obtain ⟨s1, rfl, hs1n, hs1⟩ := hget aa (by omega)
  obtain ⟨s2, rfl, hs2n, hs2⟩ := hget bb (by omega)
  obtain ⟨_, u1, _, _, _⟩ := ents_get hE hs1
  obtain ⟨_, v1, _, _, _⟩ := ents_get hE hs2
  have i4 : (s1 : Int) < (n : Int) := by omega
  have i5 : (s2 : Int) < (n : Int) := by omega
  unfold entV cstV
  simp only
  generalize (atE l (s1 : Int)).text = tx2 at *
  generalize (atE l (s2 : Int)).text = tx3 at *
  clear hget hro hok hE hs1 hs2 ho e1 h hr
  generalize (⟨text.toArray⟩ : ByteArray) = st at *
  generalize (⟨tx2.toArray⟩ : ByteArray) = z2 at *
  generalize (⟨tx3.toArray⟩ : ByteArray) = z3 at *
  have x1 := kc3 u1
  have y1 := kc3 v1
  go_enter Tryz.func143, Tryz.ntmps143
  go_wp2
  have hX := k3_first w (.cells #[.int .i64 12, .string st, .int .i64 nn, .int .i64 (s1 : Int), .int .i64 (s2 : Int)] 136) (.cells #[.int .i64 0, .int .i64 0, .string ⟨#[]⟩, .string ⟨#[]⟩, .string ⟨#[]⟩] 120) (.cells #[.int .i64 12, .int .i64 0, .string ⟨#[]⟩, .string ⟨#[]⟩, .string ⟨#[]⟩] 120)
  have hR := k3_mid w (.cells #[.int .i64 12, .string st, .int .i64 nn, .int .i64 (s1 : Int), .int .i64 (s2 : Int)] 136) (.cells #[.int .i64 0, .int .i64 0, .string ⟨#[]⟩, .string ⟨#[]⟩, .string ⟨#[]⟩] 120) (.cells #[.int .i64 12, .int .i64 0, .string ⟨#[]⟩, .string ⟨#[]⟩, .string ⟨#[]⟩] 120)
  have hC := k3_last w (.cells #[.int .i64 12, .string st, .int .i64 nn, .int .i64 (s1 : Int), .int .i64 (s2 : Int)] 136) (.cells #[.int .i64 0, .int .i64 0, .string ⟨#[]⟩, .string ⟨#[]⟩, .string ⟨#[]⟩] 120) (.cells #[.int .i64 12, .int .i64 0, .string ⟨#[]⟩, .string ⟨#[]⟩, .string ⟨#[]⟩] 120)
  have hB := k3_bel w (.cells #[.int .i64 12, .string st, .int .i64 nn, .int .i64 (s1 : Int), .int .i64 (s2 : Int)] 136) (.cells #[.int .i64 0, .int .i64 0, .string ⟨#[]⟩, .string ⟨#[]⟩, .string ⟨#[]⟩] 120) (.cells #[.int .i64 12, .int .i64 0, .string ⟨#[]⟩, .string ⟨#[]⟩, .string ⟨#[]⟩] 120)
  have x1' := x1 (.cells #[.int .i64 12, .string st, .int .i64 nn, .int .i64 (s1 : Int), .int .i64 (s2 : Int)] 136) (.cells #[.int .i64 0, .int .i64 0, .string ⟨#[]⟩, .string ⟨#[]⟩, .string ⟨#[]⟩] 120) (.cells #[.int .i64 12, .int .i64 0, .string ⟨#[]⟩, .string ⟨#[]⟩, .string ⟨#[]⟩] 120)
  have y1' := y1 (.cells #[.int .i64 12, .string st, .int .i64 nn, .int .i64 (s1 : Int), .int .i64 (s2 : Int)] 136) (.cells #[.int .i64 0, .int .i64 0, .string ⟨#[]⟩, .string ⟨#[]⟩, .string ⟨#[]⟩] 120) (.cells #[.int .i64 12, .int .i64 0, .string ⟨#[]⟩, .string ⟨#[]⟩, .string ⟨#[]⟩] 120)
  generalize ((w.alloc (.cells #[.int .i64 12, .string st, .int .i64 nn, .int .i64 (s1 : Int), .int .i64 (s2 : Int)] 136)).alloc (.cells #[.int .i64 0, .int .i64 0, .string ⟨#[]⟩, .string ⟨#[]⟩, .string ⟨#[]⟩] 120)).alloc (.cells #[.int .i64 12, .int .i64 0, .string ⟨#[]⟩, .string ⟨#[]⟩, .string ⟨#[]⟩] 120) = W3 at *
  have l3 : W3.cell? ⟨w.heap.size, 3, none⟩ = some (.int .i64 (s1 : Int)) := by rw [cell_of_row _ _ _ _ _ _ hX]; rfl
  have l4 : W3.cell? ⟨w.heap.size, 4, none⟩ = some (.int .i64 (s2 : Int)) := by rw [cell_of_row _ _ _ _ _ _ hX]; rfl
  have nb : ¬ b = w.heap.size + 1 + 1 := fun e => by
    have := World.block_lt_of_cell? w _ u1
    simp at this
    omega
  have nb' : ¬ w.heap.size + 1 + 1 = b := fun e => nb e.symm
  have nh : ¬ w.heap.size = w.heap.size + 1 + 1 := by omega
  have nh' : ¬ w.heap.size + 1 + 1 = w.heap.size := by omega
  have fz : ∀ j, W3.frozen? ⟨w.heap.size + 1 + 1, j, none⟩ = false := fun j => frozen_of_row _ _ _ _ _ hC
  have k3 : W3.cell? ⟨w.heap.size + 1 + 1, 3, none⟩ = some (.string ⟨#[]⟩) := by rw [cell_of_row _ _ _ _ _ _ hC]; rfl
  have k4 : W3.cell? ⟨w.heap.size + 1 + 1, 4, none⟩ = some (.string ⟨#[]⟩) := by rw [cell_of_row _ _ _ _ _ _ hC]; rfl
  have HR := hide hR
  have HC := hide hC
  have HB := hide hB
  clear x1 y1 hR hB hC hX u1 v1
  go_region_held_law (fun W => W.cell? ⟨w.heap.size, 3, none⟩ = some (.int .i64 (s1 : Int)) ∧ W.cell? ⟨w.heap.size, 4, none⟩ = some (.int .i64 (s2 : Int)) ∧ W.cell? ⟨b, o + s1 * 5 + 1, none⟩ = some (.string z2) ∧ W.cell? ⟨b, o + s2 * 5 + 1, none⟩ = some (.string z3)) (go_keep)
    (first | (fail))
  have hC4 : ((W3.setCell ⟨w.heap.size + 1 + 1, 3, none⟩ (.string z2)).setCell ⟨w.heap.size + 1 + 1, 4, none⟩ (.string z3)).drew.heap[w.heap.size + 1 + 1]? = some (.cells #[.int .i64 12, .int .i64 0, .string ⟨#[]⟩, .string z2, .string z3] 120 (0, 0)) := heap_setCell_same _ _ 4 _ _ (.string z3) (heap_setCell_same _ _ 3 _ _ (.string z2) (unhide HC))
  have hR4 : ((W3.setCell ⟨w.heap.size + 1 + 1, 3, none⟩ (.string z2)).setCell ⟨w.heap.size + 1 + 1, 4, none⟩ (.string z3)).drew.heap[w.heap.size + 1]? = _ := (Below.heap_setCell _ _ _ _ (by simp)).trans ((Below.heap_setCell _ _ _ _ (by simp)).trans (unhide HR))
  have hB4 : Below w.heap.size w ((W3.setCell ⟨w.heap.size + 1 + 1, 3, none⟩ (.string z2)).setCell ⟨w.heap.size + 1 + 1, 4, none⟩ (.string z3)).drew := (((unhide HB).setCell (p := ⟨w.heap.size + 1 + 1, 3, none⟩) (by simp; omega) _).setCell (p := ⟨w.heap.size + 1 + 1, 4, none⟩) (by simp; omega) _).drew
  generalize ((W3.setCell ⟨w.heap.size + 1 + 1, 3, none⟩ (.string z2)).setCell ⟨w.heap.size + 1 + 1, 4, none⟩ (.string z3)).drew = W4 at *
  have e0 : W4.cell? ⟨w.heap.size + 1 + 1, 0, none⟩ = some (.int .i64 12) := by rw [cell_of_row _ _ _ _ _ _ hC4]; rfl
  have e1 : W4.cell? ⟨w.heap.size + 1 + 1, 1, none⟩ = some (.int .i64 0) := by rw [cell_of_row _ _ _ _ _ _ hC4]; rfl
  have e2 : W4.cell? ⟨w.heap.size + 1 + 1, 2, none⟩ = some (.string ⟨#[]⟩) := by rw [cell_of_row _ _ _ _ _ _ hC4]; rfl
  have e3 : W4.cell? ⟨w.heap.size + 1 + 1, 3, none⟩ = some (.string z2) := by rw [cell_of_row _ _ _ _ _ _ hC4]; rfl
  have e4 : W4.cell? ⟨w.heap.size + 1 + 1, 4, none⟩ = some (.string z3) := by rw [cell_of_row _ _ _ _ _ _ hC4]; rfl
  obtain ⟨r0, r1', r2, r3, r4⟩ := cstC (x := cst0) hR4
  have fzr : ∀ j, W4.frozen? ⟨w.heap.size + 1, j, none⟩ = false := fun j => frozen_of_row _ _ _ _ _ hR4
  have HR4 := hide hR4
  have HB4 := hide hB4
  clear hC4 hR4 hB4 HR HC HB l3 l4 x1' y1' k3 k4 fz
  go_wp2
  refine bodyPost_ret (v := .agg #[.int .i64 12, .int .i64 0, .string ⟨#[]⟩, .string z2, .string z3]) ?_ rfl ⟨rfl, five_bel _ _ _ _ _ (unhide HB4) (by omega)⟩
  exact results_cell_row Tryz.results143 _ _ (w.heap.size + 1) 120 _ (0, 0) _ rfl (five_set _ _ _ _ _ (unhide HR4)) Tryz.underlying120 rfl sizeCst

set_option maxHeartbeats 6400000 in
set_option maxRecDepth 100000 in
theorem kmeaning_ref9 (w : World) (a : Option Addr) (n c : Nat) (l : List Ent) (h : Es w a n l) (hr : rightL l) (x : Ent) (ht : x.tag = 9) (hok : okE l x = true) (hn : n ≤ 140737488351232) :
    Calls Tryz.prog 143 #[.slice a n c, entV x] w fun e w' => e = .returned (cstV (meanN l x)) ∧ Below w.heap.size w w' := by
  have hln := h.1
  have hlen := right_len hr
  obtain ⟨b, o, rfl, hE⟩ := h.2.resolve_left (by omega)
  have hget : ∀ (q : Int), (atE l q).tag ≠ 0 → ∃ r : Nat, q = r ∧ r < n ∧ l[r]? = some (atE l q) := fun q hq => by
    obtain ⟨r, e1, e2, e3⟩ := atE_in hq
    exact ⟨r, e1, by omega, e3⟩
  have hro : ∀ q : Int, (atE l q).tag ≠ 0 → okE l (atE l q) = true := fun q hq => right_ok hr hq
  have e1 : meanN l x = ⟨9, 0, (atE l (atE l x.a).a).text, (atE l (atE l x.b).a).text, (atE l (atE l x.b).b).text⟩ := by
    unfold meanN
    rw [if_neg (by omega), if_neg (by omega), if_pos (by omega), ht]
  rw [e1]
  have ho : (atE l x.a).tag = 7 ∧ (atE l x.b).tag = 12 := by
    unfold okE at hok
    simp [ht] at hok
    exact hok.1
  obtain ⟨tag, text, nn, aa, bb⟩ := x
  simp only at ht ho ⊢
  subst ht
  have oa := hro aa (by omega)
  have ob := hro bb (by omega)
  have oa1 : (atE l (atE l aa).a).tag = 1 := by
    unfold okE at oa
    simp [ho.1] at oa
    exact oa.1
  have ob1 : (atE l (atE l bb).a).tag = 1 ∧ (atE l (atE l bb).b).tag = 1 := by
    unfold okE at ob
    simp [ho.2] at ob
    exact ob.1
  obtain ⟨r, rfl, hrn, hrr⟩ := hget aa (by omega)
  obtain ⟨s, rfl, hsn, hs⟩ := hget bb (by omega)
  obtain ⟨r1, e1', hr1n, hr1⟩ := hget _ (by rw [oa1]; decide)
  obtain ⟨s1, e2, hs1n, hs1⟩ := hget (atE l (s : Int)).a (by rw [ob1.1]; decide)
  obtain ⟨s2, e3, hs2n, hs2⟩ := hget (atE l (s : Int)).b (by rw [ob1.2]; decide)
  obtain ⟨_, _, _, g3, _⟩ := ents_get hE hrr
  obtain ⟨f0, f1, f2, f3, f4⟩ := ents_get hE hs
  obtain ⟨_, g1, _, _, _⟩ := ents_get hE hr1
  obtain ⟨_, u1, _, _, _⟩ := ents_get hE hs1
  obtain ⟨_, v1, _, _, _⟩ := ents_get hE hs2
  rw [e1'] at g3
  rw [e2] at f3
  rw [e3] at f4
  unfold entV cstV
  simp only
  rw [e1', e2, e3]
  rw [e1'] at g1
  rw [e2] at u1
  rw [e3] at v1
  have p0 := kc3 f0
  have p1 := kc3 f1
  have p2 := kc3 f2
  have p3 := kc3 f3
  have p4 := kc3 f4
  have q3 := kc3 g3
  have q1 := kc3 g1
  have x1 := kc3 u1
  have y1 := kc3 v1
  have i1 : (r : Int) < (n : Int) := by omega
  have i2 : (s : Int) < (n : Int) := by omega
  have i3 : (r1 : Int) < (n : Int) := by omega
  have i4 : (s1 : Int) < (n : Int) := by omega
  have i5 : (s2 : Int) < (n : Int) := by omega
  generalize (atE l (r1 : Int)).text = tx1 at *
  generalize (atE l (s1 : Int)).text = tx2 at *
  generalize (atE l (s2 : Int)).text = tx3 at *
  generalize (atE l (s : Int)).text = tx4 at *
  generalize (atE l (s : Int)).tag = tg4 at *
  generalize (atE l (s : Int)).n = n4 at *
  clear hget hro hok hE hrr hs hr1 hs1 hs2 ho oa ob oa1 ob1 e1 e1' e2 e3 f0 f1 f2 f3 f4 g1 g3 h hr
  generalize (⟨text.toArray⟩ : ByteArray) = st at *
  generalize (⟨tx1.toArray⟩ : ByteArray) = z1 at *
  generalize (⟨tx2.toArray⟩ : ByteArray) = z2 at *
  generalize (⟨tx3.toArray⟩ : ByteArray) = z3 at *
  generalize (⟨tx4.toArray⟩ : ByteArray) = z4 at *
  go_enter Tryz.func143, Tryz.ntmps143
  go_wp2
  have hX := k3_first w (.cells #[.int .i64 tg4, .string z4, .int .i64 n4, .int .i64 (s1 : Int), .int .i64 (s2 : Int)] 136) (.cells #[.int .i64 0, .int .i64 0, .string ⟨#[]⟩, .string ⟨#[]⟩, .string ⟨#[]⟩] 120) (.cells #[.int .i64 9, .int .i64 0, .string z1, .string ⟨#[]⟩, .string ⟨#[]⟩] 120)
  have hR := k3_mid w (.cells #[.int .i64 tg4, .string z4, .int .i64 n4, .int .i64 (s1 : Int), .int .i64 (s2 : Int)] 136) (.cells #[.int .i64 0, .int .i64 0, .string ⟨#[]⟩, .string ⟨#[]⟩, .string ⟨#[]⟩] 120) (.cells #[.int .i64 9, .int .i64 0, .string z1, .string ⟨#[]⟩, .string ⟨#[]⟩] 120)
  have hC := k3_last w (.cells #[.int .i64 tg4, .string z4, .int .i64 n4, .int .i64 (s1 : Int), .int .i64 (s2 : Int)] 136) (.cells #[.int .i64 0, .int .i64 0, .string ⟨#[]⟩, .string ⟨#[]⟩, .string ⟨#[]⟩] 120) (.cells #[.int .i64 9, .int .i64 0, .string z1, .string ⟨#[]⟩, .string ⟨#[]⟩] 120)
  have hB := k3_bel w (.cells #[.int .i64 tg4, .string z4, .int .i64 n4, .int .i64 (s1 : Int), .int .i64 (s2 : Int)] 136) (.cells #[.int .i64 0, .int .i64 0, .string ⟨#[]⟩, .string ⟨#[]⟩, .string ⟨#[]⟩] 120) (.cells #[.int .i64 9, .int .i64 0, .string z1, .string ⟨#[]⟩, .string ⟨#[]⟩] 120)
  have x1' := x1 (.cells #[.int .i64 tg4, .string z4, .int .i64 n4, .int .i64 (s1 : Int), .int .i64 (s2 : Int)] 136) (.cells #[.int .i64 0, .int .i64 0, .string ⟨#[]⟩, .string ⟨#[]⟩, .string ⟨#[]⟩] 120) (.cells #[.int .i64 9, .int .i64 0, .string z1, .string ⟨#[]⟩, .string ⟨#[]⟩] 120)
  have y1' := y1 (.cells #[.int .i64 tg4, .string z4, .int .i64 n4, .int .i64 (s1 : Int), .int .i64 (s2 : Int)] 136) (.cells #[.int .i64 0, .int .i64 0, .string ⟨#[]⟩, .string ⟨#[]⟩, .string ⟨#[]⟩] 120) (.cells #[.int .i64 9, .int .i64 0, .string z1, .string ⟨#[]⟩, .string ⟨#[]⟩] 120)
  generalize ((w.alloc (.cells #[.int .i64 tg4, .string z4, .int .i64 n4, .int .i64 (s1 : Int), .int .i64 (s2 : Int)] 136)).alloc (.cells #[.int .i64 0, .int .i64 0, .string ⟨#[]⟩, .string ⟨#[]⟩, .string ⟨#[]⟩] 120)).alloc (.cells #[.int .i64 9, .int .i64 0, .string z1, .string ⟨#[]⟩, .string ⟨#[]⟩] 120) = W3 at *
  have l3 : W3.cell? ⟨w.heap.size, 3, none⟩ = some (.int .i64 (s1 : Int)) := by rw [cell_of_row _ _ _ _ _ _ hX]; rfl
  have l4 : W3.cell? ⟨w.heap.size, 4, none⟩ = some (.int .i64 (s2 : Int)) := by rw [cell_of_row _ _ _ _ _ _ hX]; rfl
  have nb : ¬ b = w.heap.size + 1 + 1 := fun e => by
    have := World.block_lt_of_cell? w _ u1
    simp at this
    omega
  have nb' : ¬ w.heap.size + 1 + 1 = b := fun e => nb e.symm
  have nh : ¬ w.heap.size = w.heap.size + 1 + 1 := by omega
  have nh' : ¬ w.heap.size + 1 + 1 = w.heap.size := by omega
  have fz : ∀ j, W3.frozen? ⟨w.heap.size + 1 + 1, j, none⟩ = false := fun j => frozen_of_row _ _ _ _ _ hC
  have k3 : W3.cell? ⟨w.heap.size + 1 + 1, 3, none⟩ = some (.string ⟨#[]⟩) := by rw [cell_of_row _ _ _ _ _ _ hC]; rfl
  have k4 : W3.cell? ⟨w.heap.size + 1 + 1, 4, none⟩ = some (.string ⟨#[]⟩) := by rw [cell_of_row _ _ _ _ _ _ hC]; rfl
  have HR := hide hR
  have HC := hide hC
  have HB := hide hB
  clear x1 y1 hR hB hC hX u1 v1
  go_region_held_law (fun W => W.cell? ⟨w.heap.size, 3, none⟩ = some (.int .i64 (s1 : Int)) ∧ W.cell? ⟨w.heap.size, 4, none⟩ = some (.int .i64 (s2 : Int)) ∧ W.cell? ⟨b, o + s1 * 5 + 1, none⟩ = some (.string z2) ∧ W.cell? ⟨b, o + s2 * 5 + 1, none⟩ = some (.string z3)) (go_keep)
    (first | (fail))
  have hC4 : ((W3.setCell ⟨w.heap.size + 1 + 1, 3, none⟩ (.string z2)).setCell ⟨w.heap.size + 1 + 1, 4, none⟩ (.string z3)).drew.heap[w.heap.size + 1 + 1]? = some (.cells #[.int .i64 9, .int .i64 0, .string z1, .string z2, .string z3] 120 (0, 0)) := heap_setCell_same _ _ 4 _ _ (.string z3) (heap_setCell_same _ _ 3 _ _ (.string z2) (unhide HC))
  have hR4 : ((W3.setCell ⟨w.heap.size + 1 + 1, 3, none⟩ (.string z2)).setCell ⟨w.heap.size + 1 + 1, 4, none⟩ (.string z3)).drew.heap[w.heap.size + 1]? = _ := (Below.heap_setCell _ _ _ _ (by simp)).trans ((Below.heap_setCell _ _ _ _ (by simp)).trans (unhide HR))
  have hB4 : Below w.heap.size w ((W3.setCell ⟨w.heap.size + 1 + 1, 3, none⟩ (.string z2)).setCell ⟨w.heap.size + 1 + 1, 4, none⟩ (.string z3)).drew := (((unhide HB).setCell (p := ⟨w.heap.size + 1 + 1, 3, none⟩) (by simp; omega) _).setCell (p := ⟨w.heap.size + 1 + 1, 4, none⟩) (by simp; omega) _).drew
  generalize ((W3.setCell ⟨w.heap.size + 1 + 1, 3, none⟩ (.string z2)).setCell ⟨w.heap.size + 1 + 1, 4, none⟩ (.string z3)).drew = W4 at *
  have e0 : W4.cell? ⟨w.heap.size + 1 + 1, 0, none⟩ = some (.int .i64 9) := by rw [cell_of_row _ _ _ _ _ _ hC4]; rfl
  have e1 : W4.cell? ⟨w.heap.size + 1 + 1, 1, none⟩ = some (.int .i64 0) := by rw [cell_of_row _ _ _ _ _ _ hC4]; rfl
  have e2 : W4.cell? ⟨w.heap.size + 1 + 1, 2, none⟩ = some (.string z1) := by rw [cell_of_row _ _ _ _ _ _ hC4]; rfl
  have e3 : W4.cell? ⟨w.heap.size + 1 + 1, 3, none⟩ = some (.string z2) := by rw [cell_of_row _ _ _ _ _ _ hC4]; rfl
  have e4 : W4.cell? ⟨w.heap.size + 1 + 1, 4, none⟩ = some (.string z3) := by rw [cell_of_row _ _ _ _ _ _ hC4]; rfl
  obtain ⟨r0, r1', r2, r3, r4⟩ := cstC (x := cst0) hR4
  have fzr : ∀ j, W4.frozen? ⟨w.heap.size + 1, j, none⟩ = false := fun j => frozen_of_row _ _ _ _ _ hR4
  have HR4 := hide hR4
  have HB4 := hide hB4
  clear hC4 hR4 hB4 HR HC HB l3 l4 x1' y1' k3 k4 fz
  go_wp2
  refine bodyPost_ret (v := .agg #[.int .i64 9, .int .i64 0, .string z1, .string z2, .string z3]) ?_ rfl ⟨rfl, five_bel _ _ _ _ _ (unhide HB4) (by omega)⟩
  exact results_cell_row Tryz.results143 _ _ (w.heap.size + 1) 120 _ (0, 0) _ rfl (five_set _ _ _ _ _ (unhide HR4)) Tryz.underlying120 rfl sizeCst

set_option maxHeartbeats 6400000 in
set_option maxRecDepth 100000 in
theorem kmeaning_ref10 (w : World) (a : Option Addr) (n c : Nat) (l : List Ent) (h : Es w a n l) (hr : rightL l) (x : Ent) (ht : x.tag = 10) (hok : okE l x = true) (hn : n ≤ 140737488351232) :
    Calls Tryz.prog 143 #[.slice a n c, entV x] w fun e w' => e = .returned (cstV (meanN l x)) ∧ Below w.heap.size w w' := by
  have hln := h.1
  have hlen := right_len hr
  obtain ⟨b, o, rfl, hE⟩ := h.2.resolve_left (by omega)
  have hget : ∀ (q : Int), (atE l q).tag ≠ 0 → ∃ r : Nat, q = r ∧ r < n ∧ l[r]? = some (atE l q) := fun q hq => by
    obtain ⟨r, e1, e2, e3⟩ := atE_in hq
    exact ⟨r, e1, by omega, e3⟩
  have hro : ∀ q : Int, (atE l q).tag ≠ 0 → okE l (atE l q) = true := fun q hq => right_ok hr hq
  have e1 : meanN l x = ⟨10, 0, (atE l (atE l x.a).a).text, (atE l (atE l x.b).a).text, (atE l (atE l x.b).b).text⟩ := by
    unfold meanN
    rw [if_neg (by omega), if_neg (by omega), if_pos (by omega), ht]
  rw [e1]
  have ho : (atE l x.a).tag = 7 ∧ (atE l x.b).tag = 12 := by
    unfold okE at hok
    simp [ht] at hok
    exact hok.1
  obtain ⟨tag, text, nn, aa, bb⟩ := x
  simp only at ht ho ⊢
  subst ht
  have oa := hro aa (by omega)
  have ob := hro bb (by omega)
  have oa1 : (atE l (atE l aa).a).tag = 1 := by
    unfold okE at oa
    simp [ho.1] at oa
    exact oa.1
  have ob1 : (atE l (atE l bb).a).tag = 1 ∧ (atE l (atE l bb).b).tag = 1 := by
    unfold okE at ob
    simp [ho.2] at ob
    exact ob.1
  obtain ⟨r, rfl, hrn, hrr⟩ := hget aa (by omega)
  obtain ⟨s, rfl, hsn, hs⟩ := hget bb (by omega)
  obtain ⟨r1, e1', hr1n, hr1⟩ := hget _ (by rw [oa1]; decide)
  obtain ⟨s1, e2, hs1n, hs1⟩ := hget (atE l (s : Int)).a (by rw [ob1.1]; decide)
  obtain ⟨s2, e3, hs2n, hs2⟩ := hget (atE l (s : Int)).b (by rw [ob1.2]; decide)
  obtain ⟨_, _, _, g3, _⟩ := ents_get hE hrr
  obtain ⟨f0, f1, f2, f3, f4⟩ := ents_get hE hs
  obtain ⟨_, g1, _, _, _⟩ := ents_get hE hr1
  obtain ⟨_, u1, _, _, _⟩ := ents_get hE hs1
  obtain ⟨_, v1, _, _, _⟩ := ents_get hE hs2
  rw [e1'] at g3
  rw [e2] at f3
  rw [e3] at f4
  unfold entV cstV
  simp only
  rw [e1', e2, e3]
  rw [e1'] at g1
  rw [e2] at u1
  rw [e3] at v1
  have p0 := kc3 f0
  have p1 := kc3 f1
  have p2 := kc3 f2
  have p3 := kc3 f3
  have p4 := kc3 f4
  have q3 := kc3 g3
  have q1 := kc3 g1
  have x1 := kc3 u1
  have y1 := kc3 v1
  have i1 : (r : Int) < (n : Int) := by omega
  have i2 : (s : Int) < (n : Int) := by omega
  have i3 : (r1 : Int) < (n : Int) := by omega
  have i4 : (s1 : Int) < (n : Int) := by omega
  have i5 : (s2 : Int) < (n : Int) := by omega
  generalize (atE l (r1 : Int)).text = tx1 at *
  generalize (atE l (s1 : Int)).text = tx2 at *
  generalize (atE l (s2 : Int)).text = tx3 at *
  generalize (atE l (s : Int)).text = tx4 at *
  generalize (atE l (s : Int)).tag = tg4 at *
  generalize (atE l (s : Int)).n = n4 at *
  clear hget hro hok hE hrr hs hr1 hs1 hs2 ho oa ob oa1 ob1 e1 e1' e2 e3 f0 f1 f2 f3 f4 g1 g3 h hr
  generalize (⟨text.toArray⟩ : ByteArray) = st at *
  generalize (⟨tx1.toArray⟩ : ByteArray) = z1 at *
  generalize (⟨tx2.toArray⟩ : ByteArray) = z2 at *
  generalize (⟨tx3.toArray⟩ : ByteArray) = z3 at *
  generalize (⟨tx4.toArray⟩ : ByteArray) = z4 at *
  go_enter Tryz.func143, Tryz.ntmps143
  go_wp2
  have hX := k3_first w (.cells #[.int .i64 tg4, .string z4, .int .i64 n4, .int .i64 (s1 : Int), .int .i64 (s2 : Int)] 136) (.cells #[.int .i64 0, .int .i64 0, .string ⟨#[]⟩, .string ⟨#[]⟩, .string ⟨#[]⟩] 120) (.cells #[.int .i64 10, .int .i64 0, .string z1, .string ⟨#[]⟩, .string ⟨#[]⟩] 120)
  have hR := k3_mid w (.cells #[.int .i64 tg4, .string z4, .int .i64 n4, .int .i64 (s1 : Int), .int .i64 (s2 : Int)] 136) (.cells #[.int .i64 0, .int .i64 0, .string ⟨#[]⟩, .string ⟨#[]⟩, .string ⟨#[]⟩] 120) (.cells #[.int .i64 10, .int .i64 0, .string z1, .string ⟨#[]⟩, .string ⟨#[]⟩] 120)
  have hC := k3_last w (.cells #[.int .i64 tg4, .string z4, .int .i64 n4, .int .i64 (s1 : Int), .int .i64 (s2 : Int)] 136) (.cells #[.int .i64 0, .int .i64 0, .string ⟨#[]⟩, .string ⟨#[]⟩, .string ⟨#[]⟩] 120) (.cells #[.int .i64 10, .int .i64 0, .string z1, .string ⟨#[]⟩, .string ⟨#[]⟩] 120)
  have hB := k3_bel w (.cells #[.int .i64 tg4, .string z4, .int .i64 n4, .int .i64 (s1 : Int), .int .i64 (s2 : Int)] 136) (.cells #[.int .i64 0, .int .i64 0, .string ⟨#[]⟩, .string ⟨#[]⟩, .string ⟨#[]⟩] 120) (.cells #[.int .i64 10, .int .i64 0, .string z1, .string ⟨#[]⟩, .string ⟨#[]⟩] 120)
  have x1' := x1 (.cells #[.int .i64 tg4, .string z4, .int .i64 n4, .int .i64 (s1 : Int), .int .i64 (s2 : Int)] 136) (.cells #[.int .i64 0, .int .i64 0, .string ⟨#[]⟩, .string ⟨#[]⟩, .string ⟨#[]⟩] 120) (.cells #[.int .i64 10, .int .i64 0, .string z1, .string ⟨#[]⟩, .string ⟨#[]⟩] 120)
  have y1' := y1 (.cells #[.int .i64 tg4, .string z4, .int .i64 n4, .int .i64 (s1 : Int), .int .i64 (s2 : Int)] 136) (.cells #[.int .i64 0, .int .i64 0, .string ⟨#[]⟩, .string ⟨#[]⟩, .string ⟨#[]⟩] 120) (.cells #[.int .i64 10, .int .i64 0, .string z1, .string ⟨#[]⟩, .string ⟨#[]⟩] 120)
  generalize ((w.alloc (.cells #[.int .i64 tg4, .string z4, .int .i64 n4, .int .i64 (s1 : Int), .int .i64 (s2 : Int)] 136)).alloc (.cells #[.int .i64 0, .int .i64 0, .string ⟨#[]⟩, .string ⟨#[]⟩, .string ⟨#[]⟩] 120)).alloc (.cells #[.int .i64 10, .int .i64 0, .string z1, .string ⟨#[]⟩, .string ⟨#[]⟩] 120) = W3 at *
  have l3 : W3.cell? ⟨w.heap.size, 3, none⟩ = some (.int .i64 (s1 : Int)) := by rw [cell_of_row _ _ _ _ _ _ hX]; rfl
  have l4 : W3.cell? ⟨w.heap.size, 4, none⟩ = some (.int .i64 (s2 : Int)) := by rw [cell_of_row _ _ _ _ _ _ hX]; rfl
  have nb : ¬ b = w.heap.size + 1 + 1 := fun e => by
    have := World.block_lt_of_cell? w _ u1
    simp at this
    omega
  have nb' : ¬ w.heap.size + 1 + 1 = b := fun e => nb e.symm
  have nh : ¬ w.heap.size = w.heap.size + 1 + 1 := by omega
  have nh' : ¬ w.heap.size + 1 + 1 = w.heap.size := by omega
  have fz : ∀ j, W3.frozen? ⟨w.heap.size + 1 + 1, j, none⟩ = false := fun j => frozen_of_row _ _ _ _ _ hC
  have k3 : W3.cell? ⟨w.heap.size + 1 + 1, 3, none⟩ = some (.string ⟨#[]⟩) := by rw [cell_of_row _ _ _ _ _ _ hC]; rfl
  have k4 : W3.cell? ⟨w.heap.size + 1 + 1, 4, none⟩ = some (.string ⟨#[]⟩) := by rw [cell_of_row _ _ _ _ _ _ hC]; rfl
  have HR := hide hR
  have HC := hide hC
  have HB := hide hB
  clear x1 y1 hR hB hC hX u1 v1
  go_region_held_law (fun W => W.cell? ⟨w.heap.size, 3, none⟩ = some (.int .i64 (s1 : Int)) ∧ W.cell? ⟨w.heap.size, 4, none⟩ = some (.int .i64 (s2 : Int)) ∧ W.cell? ⟨b, o + s1 * 5 + 1, none⟩ = some (.string z2) ∧ W.cell? ⟨b, o + s2 * 5 + 1, none⟩ = some (.string z3)) (go_keep)
    (first | (fail))
  have hC4 : ((W3.setCell ⟨w.heap.size + 1 + 1, 3, none⟩ (.string z2)).setCell ⟨w.heap.size + 1 + 1, 4, none⟩ (.string z3)).drew.heap[w.heap.size + 1 + 1]? = some (.cells #[.int .i64 10, .int .i64 0, .string z1, .string z2, .string z3] 120 (0, 0)) := heap_setCell_same _ _ 4 _ _ (.string z3) (heap_setCell_same _ _ 3 _ _ (.string z2) (unhide HC))
  have hR4 : ((W3.setCell ⟨w.heap.size + 1 + 1, 3, none⟩ (.string z2)).setCell ⟨w.heap.size + 1 + 1, 4, none⟩ (.string z3)).drew.heap[w.heap.size + 1]? = _ := (Below.heap_setCell _ _ _ _ (by simp)).trans ((Below.heap_setCell _ _ _ _ (by simp)).trans (unhide HR))
  have hB4 : Below w.heap.size w ((W3.setCell ⟨w.heap.size + 1 + 1, 3, none⟩ (.string z2)).setCell ⟨w.heap.size + 1 + 1, 4, none⟩ (.string z3)).drew := (((unhide HB).setCell (p := ⟨w.heap.size + 1 + 1, 3, none⟩) (by simp; omega) _).setCell (p := ⟨w.heap.size + 1 + 1, 4, none⟩) (by simp; omega) _).drew
  generalize ((W3.setCell ⟨w.heap.size + 1 + 1, 3, none⟩ (.string z2)).setCell ⟨w.heap.size + 1 + 1, 4, none⟩ (.string z3)).drew = W4 at *
  have e0 : W4.cell? ⟨w.heap.size + 1 + 1, 0, none⟩ = some (.int .i64 10) := by rw [cell_of_row _ _ _ _ _ _ hC4]; rfl
  have e1 : W4.cell? ⟨w.heap.size + 1 + 1, 1, none⟩ = some (.int .i64 0) := by rw [cell_of_row _ _ _ _ _ _ hC4]; rfl
  have e2 : W4.cell? ⟨w.heap.size + 1 + 1, 2, none⟩ = some (.string z1) := by rw [cell_of_row _ _ _ _ _ _ hC4]; rfl
  have e3 : W4.cell? ⟨w.heap.size + 1 + 1, 3, none⟩ = some (.string z2) := by rw [cell_of_row _ _ _ _ _ _ hC4]; rfl
  have e4 : W4.cell? ⟨w.heap.size + 1 + 1, 4, none⟩ = some (.string z3) := by rw [cell_of_row _ _ _ _ _ _ hC4]; rfl
  obtain ⟨r0, r1', r2, r3, r4⟩ := cstC (x := cst0) hR4
  have fzr : ∀ j, W4.frozen? ⟨w.heap.size + 1, j, none⟩ = false := fun j => frozen_of_row _ _ _ _ _ hR4
  have HR4 := hide hR4
  have HB4 := hide hB4
  clear hC4 hR4 hB4 HR HC HB l3 l4 x1' y1' k3 k4 fz
  go_wp2
  refine bodyPost_ret (v := .agg #[.int .i64 10, .int .i64 0, .string z1, .string z2, .string z3]) ?_ rfl ⟨rfl, five_bel _ _ _ _ _ (unhide HB4) (by omega)⟩
  exact results_cell_row Tryz.results143 _ _ (w.heap.size + 1) 120 _ (0, 0) _ rfl (five_set _ _ _ _ _ (unhide HR4)) Tryz.underlying120 rfl sizeCst

theorem kmeaning_any (w : World) (a : Option Addr) (n c : Nat) (l : List Ent) (h : Es w a n l) (hr : rightL l) (x : Ent) (hx : x.tag = 0 ∨ okE l x = true) (hn : n ≤ 140737488351232) :
    Calls Tryz.prog 143 #[.slice a n c, entV x] w fun e w' => e = .returned (cstV (meanN l x)) ∧ Below w.heap.size w w' := by
  rcases hx with t | ho
  · exact kmeaning_none w a n c l h hr x (.inl t) hn
  · rcases okE_tag ho with t | t | t | t | t | t | t
    · exact kmeaning_none w a n c l h hr x (.inr t) hn
    · exact kmeaning_num3 w a n c l h hr x t hn
    · exact kmeaning_num5 w a n c l h hr x t hn
    · exact kmeaning_class w a n c l h hr x t ho hn
    · exact kmeaning_name w a n c l h hr x t ho hn
    · exact kmeaning_ref9 w a n c l h hr x t ho hn
    · exact kmeaning_ref10 w a n c l h hr x t ho hn

end Go.Proofs.YthenefjoidckkaaGreatDoor

/- The landed pool: Text, Const. -/
namespace Go.Proofs.YthenefjoidckkaaGreatDoor
open Go.RowKit
set_option linter.unusedVariables false

theorem kcst_results {fn : Func} {p u : Tmp} (h : fn.results = #[.cell p 120, .tmp u]) (W : World) (r : Nat) (cs : Array Value) (hs : cs.size = 5) (hb : W.heap[r]? = some (.cells cs 120 (0, 0))) (tmps : Array Value) (hp : tmps.getD p undef = .pointer (some ⟨r, 0, none⟩)) :
    (results fn tmps).run Tryz.prog W = .ok (.tuple #[.agg cs, tmps.getD u undef]) W := by
  rw [results_cell_tmp h, hp]
  simp [asAddr, run_loadVar_row W r 120 120 _ (0, 0) _ hb Tryz.underlying120 rfl (by rw [hs]; exact sizeCst)]

set_option maxHeartbeats 3200000 in
set_option maxRecDepth 100000 in
theorem kConst_any (w : World) (a : Option Addr) (n c : Nat) (l : List Ent) (h : Es w a n l) (i : Int) (hi : -9223372036854775808 ≤ i ∧ i ≤ 9223372036854775807) (hn : n ≤ 140737488351232) (hf : (∀ x ∈ l, x.text.length ≤ 140737488355328) ∧ ∀ x ∈ l, EntFit x) :
    Calls Tryz.prog 135 #[.slice a n c, .int .i64 i] w fun e w' => e = .returned (.tuple #[cstV (constP l i).1, .int .i64 (constP l i).2]) ∧ Below w.heap.size w w' := by
  have b0 : Below w.heap.size w (w.alloc (.cells #[.int .i64 0, .int .i64 0, .string ⟨#[]⟩, .string ⟨#[]⟩, .string ⟨#[]⟩] 120)) := (Below.refl _ _).alloc (Nat.le_refl _) _
  have HC := hide (kCheck_any _ a n c l (h.below b0) hn hf)
  have hl0 := heap_alloc_last w (.cells #[.int .i64 0, .int .i64 0, .string ⟨#[]⟩, .string ⟨#[]⟩, .string ⟨#[]⟩] 120)
  by_cases hc : checkP l = true
  case neg =>
    have e1 : constP l i = (cst0, 70) := if_pos (by simpa using hc)
    rw [if_neg hc] at HC
    rw [e1]
    have B0 := hide b0
    have HL0 := hide hl0
    clear h e1 hc b0 hl0
    go_enter Tryz.func135, Tryz.ntmps135
    go_wp2_with fail
    generalize w.alloc (.cells #[.int .i64 0, .int .i64 0, .string ⟨#[]⟩, .string ⟨#[]⟩, .string ⟨#[]⟩] 120) = w0 at *
    refine (unhide HC).mono ?_
    rintro e w1 ⟨rfl, f1⟩
    have hr1 : w1.heap[w.heap.size]? = _ := (f1.block _ (lt_of_heap (unhide HL0))).trans (unhide HL0)
    obtain ⟨q0, q1, q2, q3, q4⟩ := cstC (x := cst0) hr1
    have fz : ∀ j, w1.frozen? ⟨w.heap.size, j, none⟩ = false := fun j => frozen_of_row _ _ _ _ _ hr1
    have HR := hide hr1
    have F1 := hide ((unhide B0).trans (f1.mono (unhide B0).size))
    clear f1 HC HL0 B0 hr1
    go_wp2
    refine bodyPost_ret (kcst_results Tryz.results135 _ w.heap.size _ rfl (by exact five_set _ _ _ _ _ (unhide HR)) _ rfl) rfl ⟨rfl, five_bel _ _ _ _ _ (unhide F1) (Nat.le_refl _)⟩
  rw [if_pos hc] at HC
  have hrt := (checkP_right.1 hc).2
  have HT : Hid (∀ W, Below w.heap.size w W → Calls Tryz.prog 142 #[.slice a n c, .int .i64 i] W fun e w' => e = .returned (.int .i64 (tagE l i)) ∧ w' = W) := fun W f => ktagAt_any W a n c l (h.below f) i hi hn
  by_cases ht : tagE l i = 3 ∨ tagE l i = 5 ∨ tagE l i = 7 ∨ tagE l i = 9 ∨ tagE l i = 10
  case neg =>
    have e1 : constP l i = (cst0, 2) := by
      unfold constP
      have hm : meanP l i = cst0 := by
        unfold tagE at ht
        unfold meanP
        simp only
        rw [if_neg (by omega), if_neg (by omega), if_neg (by omega)]
      rw [if_neg (by rw [hc]; simp), hm]
      exact if_pos rfl
    rw [e1]
    generalize tagE l i = T at *
    have t3 : (T == 3) = false := by rw [beq_eq_false_iff_ne]; omega
    have t5 : (T == 5) = false := by rw [beq_eq_false_iff_ne]; omega
    have t7 : (T == 7) = false := by rw [beq_eq_false_iff_ne]; omega
    have t9 : (T == 9) = false := by rw [beq_eq_false_iff_ne]; omega
    have t10 : (T == 10) = false := by rw [beq_eq_false_iff_ne]; omega
    have B0 := hide b0
    have HL0 := hide hl0
    clear h e1 hc b0 hl0 ht
    go_enter Tryz.func135, Tryz.ntmps135
    go_wp2_with fail
    generalize w.alloc (.cells #[.int .i64 0, .int .i64 0, .string ⟨#[]⟩, .string ⟨#[]⟩, .string ⟨#[]⟩] 120) = w0 at *
    refine (unhide HC).mono ?_
    rintro e w1 ⟨rfl, f1⟩
    have hr1 : w1.heap[w.heap.size]? = _ := (f1.block _ (lt_of_heap (unhide HL0))).trans (unhide HL0)
    obtain ⟨q0, q1, q2, q3, q4⟩ := cstC (x := cst0) hr1
    have fz : ∀ j, w1.frozen? ⟨w.heap.size, j, none⟩ = false := fun j => frozen_of_row _ _ _ _ _ hr1
    have HR := hide hr1
    have f1' := (unhide B0).trans (f1.mono (unhide B0).size)
    have F1 := hide f1'
    have HT1 := hide (unhide HT w1 f1')
    clear f1 HC HL0 B0 hr1 f1' HT
    go_wp2_with fail
    refine (unhide HT1).mono ?_
    rintro e w2 ⟨rfl, e0⟩
    have e0' := e0.symm
    clear e0
    subst e0'
    clear HT1
    go_wp2
    refine bodyPost_ret (kcst_results Tryz.results135 _ w.heap.size _ rfl (by exact five_set _ _ _ _ _ (unhide HR)) _ rfl) rfl ⟨rfl, five_bel _ _ _ _ _ (unhide F1) (Nat.le_refl _)⟩
  have h0 : (atE l i).tag ≠ 0 := by unfold tagE at ht; omega
  have e1 : constP l i = (meanN l (atE l i), 0) := by
    have hm : meanP l i = meanN l (atE l i) := (meanP_N (by rw [meanN_tag]; exact ht)).2 rfl
    unfold constP
    rw [if_neg (by rw [hc]; simp), hm, meanN_tag, if_neg h0]
  rw [e1]
  have HM : Hid (∀ W, Below w.heap.size w W → Calls Tryz.prog 143 #[.slice a n c, entV (atE l i)] W fun e w' => e = .returned (cstV (meanN l (atE l i))) ∧ Below W.heap.size W w') := fun W f => kmeaning_any W a n c l (h.below f) hrt (atE l i) (right_or hrt i) hn
  obtain ⟨k, rfl, hk, hx⟩ := atE_in h0
  have hln := h.1
  obtain ⟨b, o, rfl, hE⟩ := h.2.resolve_left (by omega)
  have HG : Hid (∀ W, Below w.heap.size w W → W.cell? ⟨b, o + k * 5, none⟩ = some (.int .i64 (atE l (k : Int)).tag) ∧ W.cell? ⟨b, o + k * 5 + 1, none⟩ = some (.string ⟨(atE l (k : Int)).text.toArray⟩) ∧ W.cell? ⟨b, o + k * 5 + 2, none⟩ = some (.int .i64 (atE l (k : Int)).n) ∧ W.cell? ⟨b, o + k * 5 + 3, none⟩ = some (.int .i64 (atE l (k : Int)).a) ∧ W.cell? ⟨b, o + k * 5 + 4, none⟩ = some (.int .i64 (atE l (k : Int)).b)) := fun W f => ents_at (hE.below f) hk
  have hk1 : (k : Int) < (n : Int) := by omega
  have hk0 : (0 : Int) ≤ (k : Int) := by omega
  have htt : tagE l (k : Int) = (atE l (k : Int)).tag := rfl
  rw [htt] at ht HT
  clear htt
  generalize meanN l (atE l (k : Int)) = m at *
  generalize atE l (k : Int) = x at *
  obtain ⟨tag, text, nn, aa, bb⟩ := x
  obtain ⟨mt, mn, mc, mm, my⟩ := m
  unfold entV cstV at *
  simp only at HM HG HT ht h0 ⊢
  have B0 := hide b0
  have HL0 := hide hl0
  clear h e1 hc b0 hl0 hrt hx hE h0
  generalize (⟨text.toArray⟩ : ByteArray) = st at *
  generalize (⟨mc.toArray⟩ : ByteArray) = s1 at *
  generalize (⟨mm.toArray⟩ : ByteArray) = s2 at *
  generalize (⟨my.toArray⟩ : ByteArray) = s3 at *
  go_enter Tryz.func135, Tryz.ntmps135
  go_wp2_with fail
  generalize w.alloc (.cells #[.int .i64 0, .int .i64 0, .string ⟨#[]⟩, .string ⟨#[]⟩, .string ⟨#[]⟩] 120) = w0 at *
  refine (unhide HC).mono ?_
  rintro e w1 ⟨rfl, f1⟩
  have hr1 : w1.heap[w.heap.size]? = _ := (f1.block _ (lt_of_heap (unhide HL0))).trans (unhide HL0)
  have HR := hide hr1
  have f1' := (unhide B0).trans (f1.mono (unhide B0).size)
  have F1 := hide f1'
  have HT1 := hide (unhide HT w1 f1')
  have HM1 := hide (unhide HM w1 f1')
  obtain ⟨g0, g1, g2, g3, g4⟩ := unhide HG w1 f1'
  clear f1 HC HL0 B0 hr1 f1' HT HM HG
  go_wp2_with fail
  refine (unhide HT1).mono ?_
  rintro e w2 ⟨rfl, e0⟩
  have e0' := e0.symm
  clear e0
  subst e0'
  clear HT1
  rcases ht with rfl | rfl | rfl | rfl | rfl
  all_goals
    go_wp2_with fail
    refine (unhide HM1).mono ?_
    rintro e w2 ⟨rfl, f2⟩
    have hr2 : w2.heap[w.heap.size]? = _ := (f2.block _ (lt_of_heap (unhide HR))).trans (unhide HR)
    have F3 := hide ((unhide F1).trans (f2.mono (unhide F1).size))
    obtain ⟨q0, q1, q2, q3, q4⟩ := cstC (x := cst0) hr2
    have fz : ∀ j, w2.frozen? ⟨w.heap.size, j, none⟩ = false := fun j => frozen_of_row _ _ _ _ _ hr2
    have HR2 := hide hr2
    clear hr2 f2 HM1 HR F1 g0 g1 g2 g3 g4
    go_wp2
    refine bodyPost_ret (kcst_results Tryz.results135 _ w.heap.size _ rfl (by exact five_set _ _ _ _ _ (unhide HR2)) _ rfl) rfl ⟨rfl, five_bel _ _ _ _ _ (unhide F3) (Nat.le_refl _)⟩

end Go.Proofs.YthenefjoidckkaaGreatDoor
