/- Joined: PkB PkC PkD CkB. -/
import Derived.Test.YtdcoknnjgpdigaaGreatDoorJP3
import Derived.Test.YtdcoknnjgpdigaaGreatDoorJP4
import Derived.Test.YtdcoknnjgpdigaaGreatDoorJP8
import Derived.Test.YtdcoknnjgpdigaaGreatDoorJP7
import Derived.Maps.OwnSet

/- The landed pool: its small functions. -/
namespace Go.Proofs.YtdcoknnjgpdigaaGreatDoor
open Go.RowKit
set_option linter.unusedVariables false

theorem ktagAt_any (w : World) (a : Option Addr) (n c : Nat) (l : List Ent) (h : Es w a n l) (i : Int) (hi : -9223372036854775808 ≤ i ∧ i ≤ 9223372036854775807) (hn : n ≤ 140737488351232) :
    Calls Tryz.prog 134 #[.slice a n c, .int .i64 i] w fun e w' => e = .returned (.int .i64 (tagE l i)) ∧ w' = w := by
  by_cases h0 : i < 0
  · have e1 : tagE l i = 0 := by unfold tagE atE; rw [if_neg (by omega)]; rfl
    rw [e1]
    clear e1 h
    go_enter Tryz.func134, Tryz.ntmps134
    go_wp2
    go_ret
    exact ⟨rfl, rfl⟩
  · by_cases h1 : (n : Int) ≤ i
    · have e1 : tagE l i = 0 := by
        unfold tagE atE
        rw [if_pos (by omega), List.getElem?_eq_none (by rw [h.1]; omega)]
        rfl
      rw [e1]
      clear e1 h
      go_enter Tryz.func134, Tryz.ntmps134
      go_wp2
      go_ret
      exact ⟨rfl, rfl⟩
    · obtain ⟨k, rfl⟩ : ∃ k : Nat, i = k := ⟨i.toNat, by omega⟩
      obtain ⟨b, o, rfl, hE⟩ := h.2.resolve_left (by omega)
      obtain ⟨x, hx⟩ : ∃ x, l[k]? = some x := ⟨_, List.getElem?_eq_getElem (by rw [h.1]; omega)⟩
      obtain ⟨c0, _, _, _, _⟩ := ents_get hE hx
      have e1 : tagE l (k : Int) = x.tag := by
        unfold tagE atE
        rw [if_pos (by omega), Int.toNat_natCast, hx]
        rfl
      rw [e1]
      generalize x.tag = T at *
      clear e1 hE hx h
      go_enter Tryz.func134, Tryz.ntmps134
      go_wp2
      go_ret
      exact ⟨rfl, rfl⟩


theorem ents_at {w : World} {b o : Nat} {l : List Ent} (h : EntsAt w (some ⟨b, o, none⟩) l) {k : Nat} (hk : k < l.length) :
    w.cell? ⟨b, o + k * 5, none⟩ = some (.int .i64 (atE l (k : Int)).tag) ∧ w.cell? ⟨b, o + k * 5 + 1, none⟩ = some (.string ⟨(atE l (k : Int)).text.toArray⟩) ∧ w.cell? ⟨b, o + k * 5 + 2, none⟩ = some (.int .i64 (atE l (k : Int)).n) ∧ w.cell? ⟨b, o + k * 5 + 3, none⟩ = some (.int .i64 (atE l (k : Int)).a) ∧ w.cell? ⟨b, o + k * 5 + 4, none⟩ = some (.int .i64 (atE l (k : Int)).b) := by
  have e : l[k]? = some (atE l (k : Int)) := by rw [atE_nat, List.getElem?_eq_getElem hk]; rfl
  exact ents_get h e
theorem knumbers_any (w : World) (t : Int) :
    Calls Tryz.prog 135 #[.int .i64 t] w fun e w' => e = .returned (.int .i64 (if t = 5 then 2 else 1)) ∧ w' = w := by
  by_cases h5 : t = 5
  · subst h5
    go_enter Tryz.func135, Tryz.ntmps135
    go_wp2
    go_ret
    exact ⟨rfl, rfl⟩
  · rw [if_neg h5]
    have h5' : (t == 5) = false := by simpa using h5
    clear h5
    go_enter Tryz.func135, Tryz.ntmps135
    go_wp2
    go_ret
    exact ⟨rfl, rfl⟩
theorem kisGap_any (w : World) (a : Option Addr) (n c : Nat) (l : List Ent) (h : Es w a n l) (k : Nat) (hk : k < n) (hn : n ≤ 140737488351232) :
    Calls Tryz.prog 106 #[.slice a n c, .int .i64 (k : Int)] w fun e w' => e = .returned (.bool (gapE l k)) ∧ w' = w := by
  cases k with
  | zero =>
    have e1 : gapE l 0 = true := rfl
    rw [e1]
    clear h e1
    go_enter Tryz.func106, Tryz.ntmps106
    go_wp2
    go_ret
    exact ⟨rfl, rfl⟩
  | succ k =>
    rw [gapE_succ]
    obtain ⟨b, o, rfl, hE⟩ := h.2.resolve_left (by omega)
    obtain ⟨c0, _, _, _, _⟩ := ents_at hE (k := k) (by have := h.1; omega)
    obtain ⟨T, hT⟩ : ∃ T, (atE l (k : Int)).tag = T := ⟨_, rfl⟩
    rw [hT] at c0 ⊢
    have hk0 : (((k + 1 : Nat) : Int) == 0) = false := by
      rw [beq_eq_false_iff_ne]
      omega
    have hk1 : ((k + 1 : Nat) : Int) - 1 = (k : Int) := by omega
    have hk2 : (k : Int) < (n : Int) := by omega
    have hk3 : (0 : Int) ≤ (k : Int) := by omega
    have e5 : decide (T = 5) = (T == 5) := by rw [Bool.eq_iff_iff]; simp
    rw [e5]
    obtain ⟨K, hK⟩ : ∃ K : Int, K = ((k + 1 : Nat) : Int) := ⟨_, rfl⟩
    rw [← hK] at hk0 hk1 ⊢
    have hK1 : 0 ≤ K := by omega
    have hK2 : K ≤ 140737488351232 := by omega
    clear hT hE h hK e5
    go_enter Tryz.func106, Tryz.ntmps106
    go_wp2
    go_ret
    exact ⟨rfl, rfl⟩
theorem khasRoom_any (w : World) (a : Option Addr) (n c : Nat) (l : List Ent) (h : Es w a n l) (k : Nat) (hk : k < n) (hn : n ≤ 140737488351232) :
    Calls Tryz.prog 111 #[.slice a n c, .int .i64 (k : Int)] w fun e w' => e = .returned (.bool (decide ((k : Int) + (if (atE l (k : Int)).tag = 5 then 2 else 1) ≤ (n : Int)))) ∧ w' = w := by
  obtain ⟨b, o, rfl, hE⟩ := h.2.resolve_left (by omega)
  obtain ⟨c0, _, _, _, _⟩ := ents_at hE (k := k) (by have := h.1; omega)
  have HN := hide (knumbers_any w (atE l (k : Int)).tag)
  obtain ⟨M, hM⟩ : ∃ M : Int, M = (if (atE l (k : Int)).tag = 5 then 2 else 1) := ⟨_, rfl⟩
  rw [← hM] at HN ⊢
  have hM1 : 1 ≤ M := by rw [hM]; split <;> omega
  have hM2 : M ≤ 2 := by rw [hM]; split <;> omega
  have hk2 : (k : Int) < (n : Int) := by omega
  have hk3 : (0 : Int) ≤ (k : Int) := by omega
  clear hM
  generalize (atE l (k : Int)).tag = T at *
  clear hE h
  go_enter Tryz.func111, Tryz.ntmps111
  go_wp2_with fail
  refine (unhide HN).mono ?_
  rintro e w1 ⟨rfl, e0⟩
  have e0' := e0.symm
  clear e0
  subst e0'
  go_wp2
  go_ret
  exact ⟨rfl, rfl⟩
theorem wrap32_eq (n : Int) (hn : -9223372036854775808 ≤ n ∧ n ≤ 9223372036854775807) : (wrap64 (wrap32 n) == n) = decide (-2147483648 ≤ n ∧ n ≤ 2147483647) := by
  rw [Bool.eq_iff_iff, beq_iff_eq, decide_eq_true_eq]
  unfold wrap64 wrap32
  omega
theorem kfits_any (w : World) (t n : Int) (hn : -9223372036854775808 ≤ n ∧ n ≤ 9223372036854775807) :
    Calls Tryz.prog 110 #[.int .i64 t, .int .i64 n] w fun e w' => e = .returned (.bool (fitsE t n)) ∧ w' = w := by
  unfold fitsE
  by_cases h3 : t = 3
  · subst h3
    go_enter Tryz.func110, Tryz.ntmps110
    go_wp2
    go_ret
    exact ⟨by rw [wrap32_eq n hn]; rfl, rfl⟩
  · have h3' : (t == 3) = false := by simpa using h3
    have h3'' : (t != 3) = true := by simpa using h3
    rw [decide_eq_true h3]
    clear h3
    go_enter Tryz.func110, Tryz.ntmps110
    go_wp2
    go_ret
    exact ⟨rfl, rfl⟩

set_option maxHeartbeats 1600000 in
theorem kisText_any (w : World) (s : List UInt8) (hs : s.length ≤ 140737488355328) :
    Calls Tryz.prog 108 #[.string ⟨s.toArray⟩] w fun e w' => e = .returned (.bool (textB s)) ∧ w' = w := by
  have hsz : (⟨s.toArray⟩ : ByteArray).size = s.length := by simp [ByteArray.size]
  have H := hide (fun k (hk : k < s.length) => strI s k s[k] (List.getElem?_eq_getElem hk))
  by_cases hl : 255 < s.length
  · have e1 : textB s = false := by
      rw [textB_eq, decide_eq_false (by omega), Bool.and_false]
    rw [e1]
    have hl' : (255 : Int) < (s.length : Int) := by omega
    clear e1 H
    generalize (⟨s.toArray⟩ : ByteArray) = st at *
    go_enter Tryz.func108, Tryz.ntmps108
    go_wp2
    go_ret
    exact ⟨rfl, rfl⟩
  have hl' : ¬ (255 : Int) < (s.length : Int) := by omega
  obtain ⟨T, hT⟩ : ∃ T, T = textB s := ⟨_, rfl⟩
  rw [← hT]
  rw [textB_eq, decide_eq_true (show s.length ≤ 255 by omega), Bool.and_true] at hT
  have HT := hide hT
  generalize (⟨s.toArray⟩ : ByteArray) = st at *
  clear hT
  go_enter Tryz.func108, Tryz.ntmps108
  go_wp2
  go_loopw [9] (fun i wr => ∃ k : Nat, k ≤ s.length ∧ i = .int .i64 k ∧ (∀ j b, j < k → s[j]? = some b → okB b = true) ∧ wr = w) (fun i _ => s.length - (intOf i).toNat)
  case atStart => exact ⟨0, by omega, rfl, fun j b h => by omega, rfl⟩
  case round =>
    obtain ⟨k, hk, rfl, hall, e0⟩ := hrel
    have e0' := e0.symm
    clear e0
    subst e0'
    by_cases hlt : k < s.length
    · have hlt1 : (k : Int) < (s.length : Int) := by omega
      have hidx := unhide H k hlt
      have hks : s[k]? = some s[k] := List.getElem?_eq_getElem hlt
      obtain ⟨b, hb⟩ : ∃ b, b = s[k] := ⟨_, rfl⟩
      rw [← hb] at hidx hks
      by_cases h1 : b.toNat < 33
      · have e1 : Hid (T = false) := by
          rw [unhide HT]
          rw [List.all_eq_false]
          exact ⟨b, List.mem_of_getElem? hks, by unfold okB; simp; omega⟩
        have h1' : (b.toNat : Int) < 33 := by omega
        clear hall hks hb h1
        generalize b.toNat = B at *
        go_wp2
        go_ret
        exact ⟨by rw [unhide e1]; rfl, rfl⟩
      · by_cases h2 : 126 < b.toNat
        · have e1 : Hid (T = false) := by
            rw [unhide HT]
            rw [List.all_eq_false]
            exact ⟨b, List.mem_of_getElem? hks, by unfold okB; simp; omega⟩
          have h1' : ¬ (b.toNat : Int) < 33 := by omega
          have h2' : (126 : Int) < (b.toNat : Int) := by omega
          clear hall hks hb h1 h2
          generalize b.toNat = B at *
          go_wp2
          go_ret
          exact ⟨by rw [unhide e1]; rfl, rfl⟩
        · have HA : Hid (∀ j b, j < k + 1 → s[j]? = some b → okB b = true) := fun j b' hj hb' => by
            by_cases hjk : j = k
            · subst hjk
              rw [hks] at hb'
              injection hb' with hb'
              subst hb'
              unfold okB
              simp
              omega
            · exact hall j b' (by omega) hb'
          have h1' : ¬ (b.toNat : Int) < 33 := by omega
          have h2' : ¬ (126 : Int) < (b.toNat : Int) := by omega
          clear hall hks hb h1 h2
          generalize b.toNat = B at *
          go_wp2
          go_roundw
          case rel => exact ⟨k + 1, by omega, by go_num, unhide HA, by first | rfl | trivial⟩
          case measure => simp [intOf]; omega
    · obtain rfl : k = s.length := by omega
      have e1 : Hid (T = true) := by
        rw [unhide HT]
        rw [List.all_eq_true]
        intro x hx
        obtain ⟨j, hj⟩ := List.mem_iff_getElem?.1 hx
        exact hall j x ((List.getElem?_eq_some_iff.1 hj).1) hj
      clear hall H
      generalize s.length = n at *
      go_wp2
      go_ret
      exact ⟨by rw [unhide e1]; rfl, rfl⟩

end Go.Proofs.YtdcoknnjgpdigaaGreatDoor

/- The landed pool: just, leadsRight. -/
namespace Go.Proofs.YtdcoknnjgpdigaaGreatDoor
open Go.RowKit
set_option linter.unusedVariables false

theorem k3_bel (w : World) (X Y Z : Obj) : Below w.heap.size w (((w.alloc X).alloc Y).alloc Z) := (two_bel w X Y).alloc (by simp; omega) _
theorem k3_mid (w : World) (X Y Z : Obj) : (((w.alloc X).alloc Y).alloc Z).heap[w.heap.size + 1]? = some Y := (heap_alloc_old _ _ (by simp)).trans (heap_alloc2_new w X Y)
theorem sizeEnt : (Tryz.prog.info? 55).map (·.size) = some 5 := by kernel_rfl
set_option maxHeartbeats 3200000 in
set_option maxRecDepth 100000 in
theorem kjust_any (w : World) (x : Ent) :
    Calls Tryz.prog 107 #[entV x] w fun e w' => e = .returned (entV (justE x)) ∧ Below w.heap.size w w' := by
  obtain ⟨tag, text, n, a, b⟩ := x
  unfold entV
  simp only
  by_cases t1 : tag = 1
  case pos =>
    subst t1
    have e1 : justE ⟨1, text, n, a, b⟩ = ⟨1, text, 0, 0, 0⟩ := rfl
    rw [e1]
    simp only
    clear e1
    generalize (⟨text.toArray⟩ : ByteArray) = st at *
    go_enter Tryz.func107, Tryz.ntmps107
    go_wp2
    refine bodyPost_ret (v := .agg #[.int .i64 1, .string st, .int .i64 0, .int .i64 0, .int .i64 0]) ?_ rfl ⟨rfl, k3_bel w _ _ _⟩
    exact results_cell_row Tryz.results107 _ _ (w.heap.size + 1) 55 _ (0, 0) _ rfl (k3_mid w _ _ _) Tryz.underlying55 rfl sizeEnt
  by_cases t3 : tag = 3
  case pos =>
    subst t3
    have e1 : justE ⟨3, text, n, a, b⟩ = ⟨3, [], n, 0, 0⟩ := rfl
    rw [e1]
    simp only
    clear e1
    generalize (⟨text.toArray⟩ : ByteArray) = st at *
    go_enter Tryz.func107, Tryz.ntmps107
    go_wp2
    refine bodyPost_ret (v := .agg #[.int .i64 3, .string ⟨#[]⟩, .int .i64 n, .int .i64 0, .int .i64 0]) ?_ rfl ⟨rfl, k3_bel w _ _ _⟩
    exact results_cell_row Tryz.results107 _ _ (w.heap.size + 1) 55 _ (0, 0) _ rfl (k3_mid w _ _ _) Tryz.underlying55 rfl sizeEnt
  by_cases t5 : tag = 5
  case pos =>
    subst t5
    have e1 : justE ⟨5, text, n, a, b⟩ = ⟨5, [], n, 0, 0⟩ := rfl
    rw [e1]
    simp only
    clear e1
    generalize (⟨text.toArray⟩ : ByteArray) = st at *
    go_enter Tryz.func107, Tryz.ntmps107
    go_wp2
    refine bodyPost_ret (v := .agg #[.int .i64 5, .string ⟨#[]⟩, .int .i64 n, .int .i64 0, .int .i64 0]) ?_ rfl ⟨rfl, k3_bel w _ _ _⟩
    exact results_cell_row Tryz.results107 _ _ (w.heap.size + 1) 55 _ (0, 0) _ rfl (k3_mid w _ _ _) Tryz.underlying55 rfl sizeEnt
  by_cases t9 : tag = 9
  case pos =>
    subst t9
    have e1 : justE ⟨9, text, n, a, b⟩ = ⟨9, [], 0, a, b⟩ := rfl
    rw [e1]
    simp only
    clear e1
    generalize (⟨text.toArray⟩ : ByteArray) = st at *
    go_enter Tryz.func107, Tryz.ntmps107
    go_wp2
    refine bodyPost_ret (v := .agg #[.int .i64 9, .string ⟨#[]⟩, .int .i64 0, .int .i64 a, .int .i64 b]) ?_ rfl ⟨rfl, k3_bel w _ _ _⟩
    exact results_cell_row Tryz.results107 _ _ (w.heap.size + 1) 55 _ (0, 0) _ rfl (k3_mid w _ _ _) Tryz.underlying55 rfl sizeEnt
  by_cases t10 : tag = 10
  case pos =>
    subst t10
    have e1 : justE ⟨10, text, n, a, b⟩ = ⟨10, [], 0, a, b⟩ := rfl
    rw [e1]
    simp only
    clear e1
    generalize (⟨text.toArray⟩ : ByteArray) = st at *
    go_enter Tryz.func107, Tryz.ntmps107
    go_wp2
    refine bodyPost_ret (v := .agg #[.int .i64 10, .string ⟨#[]⟩, .int .i64 0, .int .i64 a, .int .i64 b]) ?_ rfl ⟨rfl, k3_bel w _ _ _⟩
    exact results_cell_row Tryz.results107 _ _ (w.heap.size + 1) 55 _ (0, 0) _ rfl (k3_mid w _ _ _) Tryz.underlying55 rfl sizeEnt
  by_cases t12 : tag = 12
  case pos =>
    subst t12
    have e1 : justE ⟨12, text, n, a, b⟩ = ⟨12, [], 0, a, b⟩ := rfl
    rw [e1]
    simp only
    clear e1
    generalize (⟨text.toArray⟩ : ByteArray) = st at *
    go_enter Tryz.func107, Tryz.ntmps107
    go_wp2
    refine bodyPost_ret (v := .agg #[.int .i64 12, .string ⟨#[]⟩, .int .i64 0, .int .i64 a, .int .i64 b]) ?_ rfl ⟨rfl, k3_bel w _ _ _⟩
    exact results_cell_row Tryz.results107 _ _ (w.heap.size + 1) 55 _ (0, 0) _ rfl (k3_mid w _ _ _) Tryz.underlying55 rfl sizeEnt
  by_cases t7 : tag = 7
  case pos =>
    subst t7
    have e1 : justE ⟨7, text, n, a, b⟩ = ⟨7, [], 0, a, 0⟩ := rfl
    rw [e1]
    simp only
    clear e1
    generalize (⟨text.toArray⟩ : ByteArray) = st at *
    go_enter Tryz.func107, Tryz.ntmps107
    go_wp2
    refine bodyPost_ret (v := .agg #[.int .i64 7, .string ⟨#[]⟩, .int .i64 0, .int .i64 a, .int .i64 0]) ?_ rfl ⟨rfl, k3_bel w _ _ _⟩
    exact results_cell_row Tryz.results107 _ _ (w.heap.size + 1) 55 _ (0, 0) _ rfl (k3_mid w _ _ _) Tryz.underlying55 rfl sizeEnt
  have e1 : justE ⟨tag, text, n, a, b⟩ = ent0 := by
    unfold justE
    simp only
    rw [if_neg t1, if_neg (by omega), if_neg (by omega), if_neg t7]
  rw [e1]
  unfold ent0
  simp only
  have b1 : (tag == 1) = false := by simpa using t1
  have b3 : (tag == 3) = false := by simpa using t3
  have b5 : (tag == 5) = false := by simpa using t5
  have b9 : (tag == 9) = false := by simpa using t9
  have b10 : (tag == 10) = false := by simpa using t10
  have b12 : (tag == 12) = false := by simpa using t12
  have b7 : (tag == 7) = false := by simpa using t7
  clear e1 t1 t3 t5 t7 t9 t10 t12
  generalize (⟨text.toArray⟩ : ByteArray) = st at *
  go_enter Tryz.func107, Tryz.ntmps107
  go_wp2
  refine bodyPost_ret (v := .agg #[.int .i64 0, .string ⟨#[]⟩, .int .i64 0, .int .i64 0, .int .i64 0]) ?_ rfl ⟨rfl, k3_bel w _ _ _⟩
  exact results_cell_row Tryz.results107 _ _ (w.heap.size + 1) 55 _ (0, 0) _ rfl (k3_mid w _ _ _) Tryz.underlying55 rfl sizeEnt

set_option maxHeartbeats 3200000 in
set_option maxRecDepth 100000 in
theorem kleads_any (w : World) (a : Option Addr) (n c : Nat) (l : List Ent) (h : Es w a n l) (x : Ent) (hx : EntFit x) (hn : n ≤ 140737488351232) :
    Calls Tryz.prog 109 #[.slice a n c, entV x] w fun e w' => e = .returned (.bool (leadsE l x)) ∧ Below w.heap.size w w' := by
  have HA : Hid (∀ W, Below w.heap.size w W → Calls Tryz.prog 134 #[.slice a n c, .int .i64 x.a] W fun e w' => e = .returned (.int .i64 (tagE l x.a)) ∧ w' = W) := fun W f => ktagAt_any W a n c l (h.below f) x.a hx.2.2.1 hn
  have HB : Hid (∀ W, Below w.heap.size w W → Calls Tryz.prog 134 #[.slice a n c, .int .i64 x.b] W fun e w' => e = .returned (.int .i64 (tagE l x.b)) ∧ w' = W) := fun W f => ktagAt_any W a n c l (h.below f) x.b hx.2.2.2 hn
  unfold leadsE
  generalize tagE l x.a = TA at *
  generalize tagE l x.b = TB at *
  obtain ⟨tag, text, nn, aa, bb⟩ := x
  unfold entV
  simp only at HA HB ⊢
  clear h hx
  have dec : ∀ (x y : Int), decide (x = y) = (x == y) := fun x y => by rw [Bool.eq_iff_iff]; simp
  simp only [dec]
  have b0 : Below w.heap.size w (w.alloc (.cells #[.int .i64 tag, .string ⟨text.toArray⟩, .int .i64 nn, .int .i64 aa, .int .i64 bb] 55)) := (Below.refl _ _).alloc (Nat.le_refl _) _
  have B0 := hide b0
  clear b0 dec
  generalize (⟨text.toArray⟩ : ByteArray) = st at *
  by_cases t9 : tag = 9
  case pos =>
    subst t9
    rw [if_pos (by omega)]
    by_cases h7 : TA = 7
    · subst h7
      go_enter Tryz.func109, Tryz.ntmps109
      go_wp2_with fail
      refine (unhide HA _ (unhide B0)).mono ?_
      rintro e w1 ⟨rfl, e0⟩
      have e0' := e0.symm
      clear e0
      subst e0'
      go_wp2_with fail
      refine (unhide HB _ (unhide B0)).mono ?_
      rintro e w1 ⟨rfl, e0⟩
      have e0' := e0.symm
      clear e0
      subst e0'
      go_wp2
      go_ret
      exact ⟨rfl, unhide B0⟩
    · have h7' : (TA == 7) = false := by simpa using h7
      rw [h7', Bool.false_and]
      clear h7
      go_enter Tryz.func109, Tryz.ntmps109
      go_wp2_with fail
      refine (unhide HA _ (unhide B0)).mono ?_
      rintro e w1 ⟨rfl, e0⟩
      have e0' := e0.symm
      clear e0
      subst e0'
      go_wp2
      go_ret
      exact ⟨rfl, unhide B0⟩
  by_cases t10 : tag = 10
  case pos =>
    subst t10
    rw [if_pos (by omega)]
    by_cases h7 : TA = 7
    · subst h7
      go_enter Tryz.func109, Tryz.ntmps109
      go_wp2_with fail
      refine (unhide HA _ (unhide B0)).mono ?_
      rintro e w1 ⟨rfl, e0⟩
      have e0' := e0.symm
      clear e0
      subst e0'
      go_wp2_with fail
      refine (unhide HB _ (unhide B0)).mono ?_
      rintro e w1 ⟨rfl, e0⟩
      have e0' := e0.symm
      clear e0
      subst e0'
      go_wp2
      go_ret
      exact ⟨rfl, unhide B0⟩
    · have h7' : (TA == 7) = false := by simpa using h7
      rw [h7', Bool.false_and]
      clear h7
      go_enter Tryz.func109, Tryz.ntmps109
      go_wp2_with fail
      refine (unhide HA _ (unhide B0)).mono ?_
      rintro e w1 ⟨rfl, e0⟩
      have e0' := e0.symm
      clear e0
      subst e0'
      go_wp2
      go_ret
      exact ⟨rfl, unhide B0⟩
  rw [if_neg (by omega)]
  by_cases t12 : tag = 12
  case pos =>
    subst t12
    rw [if_pos rfl]
    by_cases h1 : TB = 1
    · subst h1
      go_enter Tryz.func109, Tryz.ntmps109
      go_wp2_with fail
      refine (unhide HB _ (unhide B0)).mono ?_
      rintro e w1 ⟨rfl, e0⟩
      have e0' := e0.symm
      clear e0
      subst e0'
      go_wp2_with fail
      refine (unhide HA _ (unhide B0)).mono ?_
      rintro e w1 ⟨rfl, e0⟩
      have e0' := e0.symm
      clear e0
      subst e0'
      go_wp2
      go_ret
      exact ⟨rfl, unhide B0⟩
    · have h1' : (TB == 1) = false := by simpa using h1
      rw [h1', Bool.false_and]
      clear h1
      go_enter Tryz.func109, Tryz.ntmps109
      go_wp2_with fail
      refine (unhide HB _ (unhide B0)).mono ?_
      rintro e w1 ⟨rfl, e0⟩
      have e0' := e0.symm
      clear e0
      subst e0'
      go_wp2
      go_ret
      exact ⟨rfl, unhide B0⟩
  rw [if_neg t12]
  by_cases t7 : tag = 7
  case pos =>
    subst t7
    rw [if_pos rfl]
    go_enter Tryz.func109, Tryz.ntmps109
    go_wp2_with fail
    refine (unhide HA _ (unhide B0)).mono ?_
    rintro e w1 ⟨rfl, e0⟩
    have e0' := e0.symm
    clear e0
    subst e0'
    go_wp2
    go_ret
    exact ⟨rfl, unhide B0⟩
  rw [if_neg t7]
  have b9 : (tag == 9) = false := by simpa using t9
  have b10 : (tag == 10) = false := by simpa using t10
  have b12 : (tag == 12) = false := by simpa using t12
  have b7 : (tag == 7) = false := by simpa using t7
  clear t7 t9 t10 t12
  go_enter Tryz.func109, Tryz.ntmps109
  go_wp2
  go_ret
  exact ⟨rfl, unhide B0⟩

end Go.Proofs.YtdcoknnjgpdigaaGreatDoor

/- The landed pool: isRight, Check. -/
namespace Go.Proofs.YtdcoknnjgpdigaaGreatDoor
open Go.RowKit
set_option linter.unusedVariables false

set_option maxHeartbeats 6400000 in
set_option maxRecDepth 100000 in
theorem kisRight_one (w : World) (a : Option Addr) (n c : Nat) (l : List Ent) (h : Es w a n l) (k : Nat) (hk : k < n) (hn : n ≤ 140737488351232) (hf : EntFit (atE l (k : Int))) (ht : (atE l (k : Int)).text.length ≤ 140737488355328)
    (b1 b2 b3 b4 b5 b6 : Bool) (h1 : ((atE l (k : Int)).tag != 0) = b1) (h2 : decide (atE l (k : Int) = justE (atE l (k : Int))) = b2) (h3 : textB (atE l (k : Int)).text = b3) (h4 : leadsE l (atE l (k : Int)) = b4) (h5 : fitsE (atE l (k : Int)).tag (atE l (k : Int)).n = b5)
    (h6 : decide ((k : Int) + (if (atE l (k : Int)).tag = 5 then 2 else 1) ≤ (n : Int)) = b6) (hg : gapE l k = false) :
    Calls Tryz.prog 82 #[.slice a n c, .int .i64 (k : Int)] w fun e w' => e = .returned (.bool (b1 && b2 && b3 && b4 && b5 && b6)) ∧ Below w.heap.size w w' := by
  obtain ⟨b, o, rfl, hE⟩ := h.2.resolve_left (by omega)
  obtain ⟨c0, c1, c2, c3, c4⟩ := ents_at hE (k := k) (by have := h.1; omega)
  obtain ⟨x, hx⟩ : ∃ x, atE l (k : Int) = x := ⟨_, rfl⟩
  have G : Hid (∀ W, Below w.heap.size w W → Calls Tryz.prog 106 #[.slice (some ⟨b, o, none⟩) n c, .int .i64 (k : Int)] W fun e w' => e = .returned (.bool false) ∧ w' = W) := fun W f => by
    have := kisGap_any W _ n c l (h.below f) k hk hn
    rw [hg] at this
    exact this
  have J2 : ∀ W, (binOp .eql 55 (entV x) (entV (justE x))).run Tryz.prog W = .ok (.bool b2) W := fun W => by
    have := ent_cmp W x (justE x)
    rw [← hx, h2] at this
    rw [← hx]
    exact this
  have J : Hid (∀ W, Calls Tryz.prog 107 #[entV x] W fun e w' => e = .returned (entV (justE x)) ∧ Below W.heap.size W w') := fun W => kjust_any W x
  have X : Hid (∀ W, Calls Tryz.prog 108 #[.string ⟨x.text.toArray⟩] W fun e w' => e = .returned (.bool b3) ∧ w' = W) := fun W => by
    have := kisText_any W (atE l (k : Int)).text ht
    rw [h3, hx] at this
    exact this
  have L : Hid (∀ W, Below w.heap.size w W → Calls Tryz.prog 109 #[.slice (some ⟨b, o, none⟩) n c, entV x] W fun e w' => e = .returned (.bool b4) ∧ Below W.heap.size W w') := fun W f => by
    have := kleads_any W _ n c l (h.below f) (atE l (k : Int)) hf hn
    rw [h4, hx] at this
    exact this
  have F : Hid (∀ W, Calls Tryz.prog 110 #[.int .i64 x.tag, .int .i64 x.n] W fun e w' => e = .returned (.bool b5) ∧ w' = W) := fun W => by
    have := kfits_any W (atE l (k : Int)).tag (atE l (k : Int)).n hf.2.1
    rw [h5, hx] at this
    exact this
  have R : Hid (∀ W, Below w.heap.size w W → Calls Tryz.prog 111 #[.slice (some ⟨b, o, none⟩) n c, .int .i64 (k : Int)] W fun e w' => e = .returned (.bool b6) ∧ w' = W) := fun W f => by
    have := khasRoom_any W _ n c l (h.below f) k hk hn
    rw [h6] at this
    exact this
  rw [hx] at c0 c1 c2 c3 c4 h1
  obtain ⟨tag, text, nn, aa, bb⟩ := x
  generalize justE ⟨tag, text, nn, aa, bb⟩ = y at *
  obtain ⟨jt, js, jn, ja, jb⟩ := y
  simp only [entV] at J J2 L X F c0 c1 c2 c3 c4 h1
  generalize (⟨text.toArray⟩ : ByteArray) = st at *
  generalize (⟨js.toArray⟩ : ByteArray) = sj at *
  clear hE h hx hf ht h2 h3 h4 h5 h6 hg
  have hk2 : (k : Int) < (n : Int) := by omega
  have hk3 : (0 : Int) ≤ (k : Int) := by omega
  have b0 : Below w.heap.size w (w.alloc (.cells #[.int .i64 tag, .string st, .int .i64 nn, .int .i64 aa, .int .i64 bb] 55)) := (Below.refl _ _).alloc (Nat.le_refl _) _
  have hX := heap_alloc_last w (.cells #[.int .i64 tag, .string st, .int .i64 nn, .int .i64 aa, .int .i64 bb] 55)
  have G1 := hide (unhide G _ b0)
  have HX := hide hX
  have B0 := hide b0
  clear G b0 hX hk
  go_enter Tryz.func82, Tryz.ntmps82
  go_wp2_with fail
  refine (unhide G1).mono ?_
  rintro e w1 ⟨rfl, e0⟩
  have e0' := e0.symm
  clear e0
  subst e0'
  clear G1 c0 c1 c2 c3 c4
  go_wp2
  generalize w.alloc (.cells #[.int .i64 tag, .string st, .int .i64 nn, .int .i64 aa, .int .i64 bb] 55) = w1 at *
  have KC : ∀ W, Below w1.heap.size w1 W → W.cell? ⟨w.heap.size, 0, none⟩ = some (.int .i64 tag) ∧ W.cell? ⟨w.heap.size, 1, none⟩ = some (.string st) ∧ W.cell? ⟨w.heap.size, 2, none⟩ = some (.int .i64 nn) ∧ W.cell? ⟨w.heap.size, 3, none⟩ = some (.int .i64 aa) ∧ W.cell? ⟨w.heap.size, 4, none⟩ = some (.int .i64 bb) := fun W f => by
    have hc := (f.block _ (lt_of_heap (unhide HX))).trans (unhide HX)
    exact ⟨by rw [cell_of_row _ _ _ _ _ _ hc]; rfl, by rw [cell_of_row _ _ _ _ _ _ hc]; rfl, by rw [cell_of_row _ _ _ _ _ _ hc]; rfl, by rw [cell_of_row _ _ _ _ _ _ hc]; rfl, by rw [cell_of_row _ _ _ _ _ _ hc]; rfl⟩
  obtain ⟨SS, hSS⟩ : ∃ SS : World → Prop, SS = fun W => Hid (Below w1.heap.size w1 W) ∧ W.cell? ⟨w.heap.size, 0, none⟩ = some (.int .i64 tag) ∧ W.cell? ⟨w.heap.size, 1, none⟩ = some (.string st) ∧ W.cell? ⟨w.heap.size, 2, none⟩ = some (.int .i64 nn) ∧ W.cell? ⟨w.heap.size, 3, none⟩ = some (.int .i64 aa) ∧ W.cell? ⟨w.heap.size, 4, none⟩ = some (.int .i64 bb) := ⟨_, rfl⟩
  have KI : Hid (∀ W, Below w1.heap.size w1 W → SS W) := fun W f => by rw [hSS]; exact ⟨f, KC W f⟩
  have KE : ∀ W, SS W → W.cell? ⟨w.heap.size, 0, none⟩ = some (.int .i64 tag) ∧ W.cell? ⟨w.heap.size, 1, none⟩ = some (.string st) ∧ W.cell? ⟨w.heap.size, 2, none⟩ = some (.int .i64 nn) ∧ W.cell? ⟨w.heap.size, 3, none⟩ = some (.int .i64 aa) ∧ W.cell? ⟨w.heap.size, 4, none⟩ = some (.int .i64 bb) := fun W h => by
    rw [hSS] at h
    exact h.2
  have KW : Hid (∀ W, SS W → Below w1.heap.size w1 W) := fun W h => by
    rw [hSS] at h
    exact h.1
  have KB : Hid (∀ W, SS W → Below w.heap.size w W) := fun W h => (unhide B0).trans ((unhide KW W h).mono (unhide B0).size)
  have KS : Hid (∀ W W', SS W → Below W.heap.size W W' → SS W') := fun W W' h f => unhide KI W' ((unhide KW W h).trans (f.mono (unhide KW W h).size))
  clear hSS KC HX
  have KE' := hide KE
  clear KE
  refine wp_region_seq SS (by kernel_rfl) (by kernel_rfl) (unhide KI _ (Below.drew (Below.refl _ _))) ?_
  have h1' : (tag == 0) = !b1 := by
    rw [← h1]
    cases hq : (tag == 0) <;> simp [bne, hq]
  cases b1
  case false =>
    repeat (first
      | (refine SeqDo.skips (by rfl) ?_; simp only [Act.put, List.setIfInBounds_toArray, List.set_cons_zero, List.set_cons_succ])
      | (refine SeqDo.yields (v := ?_) (by rfl) ?_ ?_; rotate_left; (focus ((intro W hSW; obtain ⟨q0, q1, q2, q3, q4⟩ := unhide KE' W hSW; go_simp) <;> with_reducible rfl)); simp only [Act.put, List.setIfInBounds_toArray, List.set_cons_zero, List.set_cons_succ])
      | (refine SeqDo.does (v := .agg #[.int .i64 jt, .string sj, .int .i64 jn, .int .i64 ja, .int .i64 jb]) (by rfl) (fun W hSW KK hKK => ?_) ?_; (focus (go_simp; go_wp2_with (go_at_call 107; refine (unhide J _).mono ?_; rintro e W' ⟨rfl, fJ⟩); exact hKK.out _ (unhide KS _ _ hSW fJ))); simp only [Act.put, List.setIfInBounds_toArray, List.set_cons_zero, List.set_cons_succ])
      | (refine SeqDo.does (v := .bool b3) (by rfl) (fun W hSW KK hKK => ?_) ?_; (focus (go_simp; go_wp2_with (go_at_call 108; refine (unhide X _).mono ?_; rintro e W' ⟨rfl, rfl⟩); exact hKK.out _ hSW)); simp only [Act.put, List.setIfInBounds_toArray, List.set_cons_zero, List.set_cons_succ])
      | (refine SeqDo.does (v := .bool b4) (by rfl) (fun W hSW KK hKK => ?_) ?_; (focus (go_simp; go_wp2_with (go_at_call 109; refine (unhide L _ (unhide KB _ hSW)).mono ?_; rintro e W' ⟨rfl, fJ⟩); exact hKK.out _ (unhide KS _ _ hSW fJ))); simp only [Act.put, List.setIfInBounds_toArray, List.set_cons_zero, List.set_cons_succ])
      | (refine SeqDo.does (v := .bool b5) (by rfl) (fun W hSW KK hKK => ?_) ?_; (focus (go_simp; go_wp2_with (go_at_call 110; refine (unhide F _).mono ?_; rintro e W' ⟨rfl, rfl⟩); exact hKK.out _ hSW)); simp only [Act.put, List.setIfInBounds_toArray, List.set_cons_zero, List.set_cons_succ])
      | (refine SeqDo.does (v := .bool b6) (by rfl) (fun W hSW KK hKK => ?_) ?_; (focus (go_simp; go_wp2_with (go_at_call 111; refine (unhide R _ (unhide KB _ hSW)).mono ?_; rintro e W' ⟨rfl, rfl⟩); exact hKK.out _ hSW)); simp only [Act.put, List.setIfInBounds_toArray, List.set_cons_zero, List.set_cons_succ]))
    intro W hSW
    go_wp2
    go_ret
    exact ⟨rfl, unhide KB _ hSW⟩
  cases b2
  case false =>
    repeat (first
      | (refine SeqDo.skips (by rfl) ?_; simp only [Act.put, List.setIfInBounds_toArray, List.set_cons_zero, List.set_cons_succ])
      | (refine SeqDo.yields (v := ?_) (by rfl) ?_ ?_; rotate_left; (focus ((intro W hSW; obtain ⟨q0, q1, q2, q3, q4⟩ := unhide KE' W hSW; go_simp) <;> with_reducible rfl)); simp only [Act.put, List.setIfInBounds_toArray, List.set_cons_zero, List.set_cons_succ])
      | (refine SeqDo.does (v := .agg #[.int .i64 jt, .string sj, .int .i64 jn, .int .i64 ja, .int .i64 jb]) (by rfl) (fun W hSW KK hKK => ?_) ?_; (focus (go_simp; go_wp2_with (go_at_call 107; refine (unhide J _).mono ?_; rintro e W' ⟨rfl, fJ⟩); exact hKK.out _ (unhide KS _ _ hSW fJ))); simp only [Act.put, List.setIfInBounds_toArray, List.set_cons_zero, List.set_cons_succ])
      | (refine SeqDo.does (v := .bool b3) (by rfl) (fun W hSW KK hKK => ?_) ?_; (focus (go_simp; go_wp2_with (go_at_call 108; refine (unhide X _).mono ?_; rintro e W' ⟨rfl, rfl⟩); exact hKK.out _ hSW)); simp only [Act.put, List.setIfInBounds_toArray, List.set_cons_zero, List.set_cons_succ])
      | (refine SeqDo.does (v := .bool b4) (by rfl) (fun W hSW KK hKK => ?_) ?_; (focus (go_simp; go_wp2_with (go_at_call 109; refine (unhide L _ (unhide KB _ hSW)).mono ?_; rintro e W' ⟨rfl, fJ⟩); exact hKK.out _ (unhide KS _ _ hSW fJ))); simp only [Act.put, List.setIfInBounds_toArray, List.set_cons_zero, List.set_cons_succ])
      | (refine SeqDo.does (v := .bool b5) (by rfl) (fun W hSW KK hKK => ?_) ?_; (focus (go_simp; go_wp2_with (go_at_call 110; refine (unhide F _).mono ?_; rintro e W' ⟨rfl, rfl⟩); exact hKK.out _ hSW)); simp only [Act.put, List.setIfInBounds_toArray, List.set_cons_zero, List.set_cons_succ])
      | (refine SeqDo.does (v := .bool b6) (by rfl) (fun W hSW KK hKK => ?_) ?_; (focus (go_simp; go_wp2_with (go_at_call 111; refine (unhide R _ (unhide KB _ hSW)).mono ?_; rintro e W' ⟨rfl, rfl⟩); exact hKK.out _ hSW)); simp only [Act.put, List.setIfInBounds_toArray, List.set_cons_zero, List.set_cons_succ]))
    intro W hSW
    go_wp2
    go_ret
    exact ⟨rfl, unhide KB _ hSW⟩
  cases b3
  case false =>
    repeat (first
      | (refine SeqDo.skips (by rfl) ?_; simp only [Act.put, List.setIfInBounds_toArray, List.set_cons_zero, List.set_cons_succ])
      | (refine SeqDo.yields (v := ?_) (by rfl) ?_ ?_; rotate_left; (focus ((intro W hSW; obtain ⟨q0, q1, q2, q3, q4⟩ := unhide KE' W hSW; go_simp) <;> with_reducible rfl)); simp only [Act.put, List.setIfInBounds_toArray, List.set_cons_zero, List.set_cons_succ])
      | (refine SeqDo.does (v := .agg #[.int .i64 jt, .string sj, .int .i64 jn, .int .i64 ja, .int .i64 jb]) (by rfl) (fun W hSW KK hKK => ?_) ?_; (focus (go_simp; go_wp2_with (go_at_call 107; refine (unhide J _).mono ?_; rintro e W' ⟨rfl, fJ⟩); exact hKK.out _ (unhide KS _ _ hSW fJ))); simp only [Act.put, List.setIfInBounds_toArray, List.set_cons_zero, List.set_cons_succ])
      | (refine SeqDo.does (v := .bool false) (by rfl) (fun W hSW KK hKK => ?_) ?_; (focus (go_simp; go_wp2_with (go_at_call 108; refine (unhide X _).mono ?_; rintro e W' ⟨rfl, rfl⟩); exact hKK.out _ hSW)); simp only [Act.put, List.setIfInBounds_toArray, List.set_cons_zero, List.set_cons_succ])
      | (refine SeqDo.does (v := .bool b4) (by rfl) (fun W hSW KK hKK => ?_) ?_; (focus (go_simp; go_wp2_with (go_at_call 109; refine (unhide L _ (unhide KB _ hSW)).mono ?_; rintro e W' ⟨rfl, fJ⟩); exact hKK.out _ (unhide KS _ _ hSW fJ))); simp only [Act.put, List.setIfInBounds_toArray, List.set_cons_zero, List.set_cons_succ])
      | (refine SeqDo.does (v := .bool b5) (by rfl) (fun W hSW KK hKK => ?_) ?_; (focus (go_simp; go_wp2_with (go_at_call 110; refine (unhide F _).mono ?_; rintro e W' ⟨rfl, rfl⟩); exact hKK.out _ hSW)); simp only [Act.put, List.setIfInBounds_toArray, List.set_cons_zero, List.set_cons_succ])
      | (refine SeqDo.does (v := .bool b6) (by rfl) (fun W hSW KK hKK => ?_) ?_; (focus (go_simp; go_wp2_with (go_at_call 111; refine (unhide R _ (unhide KB _ hSW)).mono ?_; rintro e W' ⟨rfl, rfl⟩); exact hKK.out _ hSW)); simp only [Act.put, List.setIfInBounds_toArray, List.set_cons_zero, List.set_cons_succ]))
    intro W hSW
    go_wp2
    go_ret
    exact ⟨rfl, unhide KB _ hSW⟩
  cases b4
  case false =>
    repeat (first
      | (refine SeqDo.skips (by rfl) ?_; simp only [Act.put, List.setIfInBounds_toArray, List.set_cons_zero, List.set_cons_succ])
      | (refine SeqDo.yields (v := ?_) (by rfl) ?_ ?_; rotate_left; (focus ((intro W hSW; obtain ⟨q0, q1, q2, q3, q4⟩ := unhide KE' W hSW; go_simp) <;> with_reducible rfl)); simp only [Act.put, List.setIfInBounds_toArray, List.set_cons_zero, List.set_cons_succ])
      | (refine SeqDo.does (v := .agg #[.int .i64 jt, .string sj, .int .i64 jn, .int .i64 ja, .int .i64 jb]) (by rfl) (fun W hSW KK hKK => ?_) ?_; (focus (go_simp; go_wp2_with (go_at_call 107; refine (unhide J _).mono ?_; rintro e W' ⟨rfl, fJ⟩); exact hKK.out _ (unhide KS _ _ hSW fJ))); simp only [Act.put, List.setIfInBounds_toArray, List.set_cons_zero, List.set_cons_succ])
      | (refine SeqDo.does (v := .bool true) (by rfl) (fun W hSW KK hKK => ?_) ?_; (focus (go_simp; go_wp2_with (go_at_call 108; refine (unhide X _).mono ?_; rintro e W' ⟨rfl, rfl⟩); exact hKK.out _ hSW)); simp only [Act.put, List.setIfInBounds_toArray, List.set_cons_zero, List.set_cons_succ])
      | (refine SeqDo.does (v := .bool false) (by rfl) (fun W hSW KK hKK => ?_) ?_; (focus (go_simp; go_wp2_with (go_at_call 109; refine (unhide L _ (unhide KB _ hSW)).mono ?_; rintro e W' ⟨rfl, fJ⟩); exact hKK.out _ (unhide KS _ _ hSW fJ))); simp only [Act.put, List.setIfInBounds_toArray, List.set_cons_zero, List.set_cons_succ])
      | (refine SeqDo.does (v := .bool b5) (by rfl) (fun W hSW KK hKK => ?_) ?_; (focus (go_simp; go_wp2_with (go_at_call 110; refine (unhide F _).mono ?_; rintro e W' ⟨rfl, rfl⟩); exact hKK.out _ hSW)); simp only [Act.put, List.setIfInBounds_toArray, List.set_cons_zero, List.set_cons_succ])
      | (refine SeqDo.does (v := .bool b6) (by rfl) (fun W hSW KK hKK => ?_) ?_; (focus (go_simp; go_wp2_with (go_at_call 111; refine (unhide R _ (unhide KB _ hSW)).mono ?_; rintro e W' ⟨rfl, rfl⟩); exact hKK.out _ hSW)); simp only [Act.put, List.setIfInBounds_toArray, List.set_cons_zero, List.set_cons_succ]))
    intro W hSW
    go_wp2
    go_ret
    exact ⟨rfl, unhide KB _ hSW⟩
  cases b5
  case false =>
    repeat (first
      | (refine SeqDo.skips (by rfl) ?_; simp only [Act.put, List.setIfInBounds_toArray, List.set_cons_zero, List.set_cons_succ])
      | (refine SeqDo.yields (v := ?_) (by rfl) ?_ ?_; rotate_left; (focus ((intro W hSW; obtain ⟨q0, q1, q2, q3, q4⟩ := unhide KE' W hSW; go_simp) <;> with_reducible rfl)); simp only [Act.put, List.setIfInBounds_toArray, List.set_cons_zero, List.set_cons_succ])
      | (refine SeqDo.does (v := .agg #[.int .i64 jt, .string sj, .int .i64 jn, .int .i64 ja, .int .i64 jb]) (by rfl) (fun W hSW KK hKK => ?_) ?_; (focus (go_simp; go_wp2_with (go_at_call 107; refine (unhide J _).mono ?_; rintro e W' ⟨rfl, fJ⟩); exact hKK.out _ (unhide KS _ _ hSW fJ))); simp only [Act.put, List.setIfInBounds_toArray, List.set_cons_zero, List.set_cons_succ])
      | (refine SeqDo.does (v := .bool true) (by rfl) (fun W hSW KK hKK => ?_) ?_; (focus (go_simp; go_wp2_with (go_at_call 108; refine (unhide X _).mono ?_; rintro e W' ⟨rfl, rfl⟩); exact hKK.out _ hSW)); simp only [Act.put, List.setIfInBounds_toArray, List.set_cons_zero, List.set_cons_succ])
      | (refine SeqDo.does (v := .bool true) (by rfl) (fun W hSW KK hKK => ?_) ?_; (focus (go_simp; go_wp2_with (go_at_call 109; refine (unhide L _ (unhide KB _ hSW)).mono ?_; rintro e W' ⟨rfl, fJ⟩); exact hKK.out _ (unhide KS _ _ hSW fJ))); simp only [Act.put, List.setIfInBounds_toArray, List.set_cons_zero, List.set_cons_succ])
      | (refine SeqDo.does (v := .bool false) (by rfl) (fun W hSW KK hKK => ?_) ?_; (focus (go_simp; go_wp2_with (go_at_call 110; refine (unhide F _).mono ?_; rintro e W' ⟨rfl, rfl⟩); exact hKK.out _ hSW)); simp only [Act.put, List.setIfInBounds_toArray, List.set_cons_zero, List.set_cons_succ])
      | (refine SeqDo.does (v := .bool b6) (by rfl) (fun W hSW KK hKK => ?_) ?_; (focus (go_simp; go_wp2_with (go_at_call 111; refine (unhide R _ (unhide KB _ hSW)).mono ?_; rintro e W' ⟨rfl, rfl⟩); exact hKK.out _ hSW)); simp only [Act.put, List.setIfInBounds_toArray, List.set_cons_zero, List.set_cons_succ]))
    intro W hSW
    go_wp2
    go_ret
    exact ⟨rfl, unhide KB _ hSW⟩
  cases b6
  case false =>
    repeat (first
      | (refine SeqDo.skips (by rfl) ?_; simp only [Act.put, List.setIfInBounds_toArray, List.set_cons_zero, List.set_cons_succ])
      | (refine SeqDo.yields (v := ?_) (by rfl) ?_ ?_; rotate_left; (focus ((intro W hSW; obtain ⟨q0, q1, q2, q3, q4⟩ := unhide KE' W hSW; go_simp) <;> with_reducible rfl)); simp only [Act.put, List.setIfInBounds_toArray, List.set_cons_zero, List.set_cons_succ])
      | (refine SeqDo.does (v := .agg #[.int .i64 jt, .string sj, .int .i64 jn, .int .i64 ja, .int .i64 jb]) (by rfl) (fun W hSW KK hKK => ?_) ?_; (focus (go_simp; go_wp2_with (go_at_call 107; refine (unhide J _).mono ?_; rintro e W' ⟨rfl, fJ⟩); exact hKK.out _ (unhide KS _ _ hSW fJ))); simp only [Act.put, List.setIfInBounds_toArray, List.set_cons_zero, List.set_cons_succ])
      | (refine SeqDo.does (v := .bool true) (by rfl) (fun W hSW KK hKK => ?_) ?_; (focus (go_simp; go_wp2_with (go_at_call 108; refine (unhide X _).mono ?_; rintro e W' ⟨rfl, rfl⟩); exact hKK.out _ hSW)); simp only [Act.put, List.setIfInBounds_toArray, List.set_cons_zero, List.set_cons_succ])
      | (refine SeqDo.does (v := .bool true) (by rfl) (fun W hSW KK hKK => ?_) ?_; (focus (go_simp; go_wp2_with (go_at_call 109; refine (unhide L _ (unhide KB _ hSW)).mono ?_; rintro e W' ⟨rfl, fJ⟩); exact hKK.out _ (unhide KS _ _ hSW fJ))); simp only [Act.put, List.setIfInBounds_toArray, List.set_cons_zero, List.set_cons_succ])
      | (refine SeqDo.does (v := .bool true) (by rfl) (fun W hSW KK hKK => ?_) ?_; (focus (go_simp; go_wp2_with (go_at_call 110; refine (unhide F _).mono ?_; rintro e W' ⟨rfl, rfl⟩); exact hKK.out _ hSW)); simp only [Act.put, List.setIfInBounds_toArray, List.set_cons_zero, List.set_cons_succ])
      | (refine SeqDo.does (v := .bool false) (by rfl) (fun W hSW KK hKK => ?_) ?_; (focus (go_simp; go_wp2_with (go_at_call 111; refine (unhide R _ (unhide KB _ hSW)).mono ?_; rintro e W' ⟨rfl, rfl⟩); exact hKK.out _ hSW)); simp only [Act.put, List.setIfInBounds_toArray, List.set_cons_zero, List.set_cons_succ]))
    intro W hSW
    go_wp2
    go_ret
    exact ⟨rfl, unhide KB _ hSW⟩
  repeat (first
    | (refine SeqDo.skips (by rfl) ?_; simp only [Act.put, List.setIfInBounds_toArray, List.set_cons_zero, List.set_cons_succ])
    | (refine SeqDo.yields (v := ?_) (by rfl) ?_ ?_; rotate_left; (focus ((intro W hSW; obtain ⟨q0, q1, q2, q3, q4⟩ := unhide KE' W hSW; go_simp) <;> with_reducible rfl)); simp only [Act.put, List.setIfInBounds_toArray, List.set_cons_zero, List.set_cons_succ])
    | (refine SeqDo.does (v := .agg #[.int .i64 jt, .string sj, .int .i64 jn, .int .i64 ja, .int .i64 jb]) (by rfl) (fun W hSW KK hKK => ?_) ?_; (focus (go_simp; go_wp2_with (go_at_call 107; refine (unhide J _).mono ?_; rintro e W' ⟨rfl, fJ⟩); exact hKK.out _ (unhide KS _ _ hSW fJ))); simp only [Act.put, List.setIfInBounds_toArray, List.set_cons_zero, List.set_cons_succ])
    | (refine SeqDo.does (v := .bool true) (by rfl) (fun W hSW KK hKK => ?_) ?_; (focus (go_simp; go_wp2_with (go_at_call 108; refine (unhide X _).mono ?_; rintro e W' ⟨rfl, rfl⟩); exact hKK.out _ hSW)); simp only [Act.put, List.setIfInBounds_toArray, List.set_cons_zero, List.set_cons_succ])
    | (refine SeqDo.does (v := .bool true) (by rfl) (fun W hSW KK hKK => ?_) ?_; (focus (go_simp; go_wp2_with (go_at_call 109; refine (unhide L _ (unhide KB _ hSW)).mono ?_; rintro e W' ⟨rfl, fJ⟩); exact hKK.out _ (unhide KS _ _ hSW fJ))); simp only [Act.put, List.setIfInBounds_toArray, List.set_cons_zero, List.set_cons_succ])
    | (refine SeqDo.does (v := .bool true) (by rfl) (fun W hSW KK hKK => ?_) ?_; (focus (go_simp; go_wp2_with (go_at_call 110; refine (unhide F _).mono ?_; rintro e W' ⟨rfl, rfl⟩); exact hKK.out _ hSW)); simp only [Act.put, List.setIfInBounds_toArray, List.set_cons_zero, List.set_cons_succ])
    | (refine SeqDo.does (v := .bool true) (by rfl) (fun W hSW KK hKK => ?_) ?_; (focus (go_simp; go_wp2_with (go_at_call 111; refine (unhide R _ (unhide KB _ hSW)).mono ?_; rintro e W' ⟨rfl, rfl⟩); exact hKK.out _ hSW)); simp only [Act.put, List.setIfInBounds_toArray, List.set_cons_zero, List.set_cons_succ]))
  intro W hSW
  go_wp2
  go_ret
  exact ⟨rfl, unhide KB _ hSW⟩

theorem Es.at {w : World} {a : Option Addr} {n : Nat} {l : List Ent} (h : Es w a n l) {k : Nat} (hk : k < n) : l[k]? = some (atE l (k : Int)) := by
  rw [atE_nat, List.getElem?_eq_getElem (by rw [h.1]; exact hk)]
  rfl
set_option maxHeartbeats 1600000 in
set_option maxRecDepth 100000 in
theorem kisRight_any (w : World) (a : Option Addr) (n c : Nat) (l : List Ent) (h : Es w a n l) (k : Nat) (hk : k < n) (hn : n ≤ 140737488351232) (hf : (∀ x ∈ l, x.text.length ≤ 140737488355328) ∧ ∀ x ∈ l, EntFit x) :
    Calls Tryz.prog 82 #[.slice a n c, .int .i64 (k : Int)] w fun e w' => e = .returned (.bool (rightAt l k)) ∧ Below w.heap.size w w' := by
  have hm := List.mem_of_getElem? (h.at hk)
  cases hg : gapE l k
  case false =>
    have H := kisRight_one w a n c l h k hk hn (hf.2 _ hm) (hf.1 _ hm) _ _ _ _ _ _ rfl rfl rfl rfl rfl rfl hg
    have e1 : rightAt l k = (((atE l (k : Int)).tag != 0) && decide (atE l (k : Int) = justE (atE l (k : Int))) && textB (atE l (k : Int)).text && leadsE l (atE l (k : Int)) && fitsE (atE l (k : Int)).tag (atE l (k : Int)).n && decide ((k : Int) + (if (atE l (k : Int)).tag = 5 then 2 else 1) ≤ (n : Int))) := by
      unfold rightAt
      rw [if_neg (by rw [hg]; simp), okE_code]
      have e2 : ((atE l (k : Int)).tag != 0) = decide ((atE l (k : Int)).tag ≠ 0) := by
        rw [Bool.eq_iff_iff]
        simp
      have e3 : (decide ((atE l (k : Int)).tag ≠ 5) || decide (k + 1 < l.length)) = decide ((k : Int) + (if (atE l (k : Int)).tag = 5 then 2 else 1) ≤ (n : Int)) := by
        have hl := h.1
        by_cases h5 : (atE l (k : Int)).tag = 5
        · rw [if_pos h5, decide_eq_false (by simpa using h5), Bool.false_or]
          exact decide_eq_decide.2 (by omega)
        · rw [if_neg h5, decide_eq_true h5, Bool.true_or]
          exact (decide_eq_true (by omega)).symm
      rw [e2, e3]
    rw [e1]
    exact H
  case true =>
    have e1 : rightAt l k = decide (atE l (k : Int) = ent0) := by
      unfold rightAt
      rw [if_pos hg]
    rw [e1]
    obtain ⟨b, o, rfl, hE⟩ := h.2.resolve_left (by omega)
    obtain ⟨c0, c1, c2, c3, c4⟩ := ents_at hE (k := k) (by have := h.1; omega)
    obtain ⟨x, hx⟩ : ∃ x, atE l (k : Int) = x := ⟨_, rfl⟩
    have G : Hid (∀ W, Below w.heap.size w W → Calls Tryz.prog 106 #[.slice (some ⟨b, o, none⟩) n c, .int .i64 (k : Int)] W fun e w' => e = .returned (.bool true) ∧ w' = W) := fun W f => by
      have := kisGap_any W _ n c l (h.below f) k hk hn
      rw [hg] at this
      exact this
    have J2 : ∀ W, (binOp .eql 55 (entV x) (entV ent0)).run Tryz.prog W = .ok (.bool (decide (x = ent0))) W := fun W => ent_cmp W x ent0
    rw [hx] at c0 c1 c2 c3 c4 ⊢
    generalize decide (x = ent0) = D at *
    obtain ⟨tag, text, nn, aa, bb⟩ := x
    unfold ent0 at J2
    simp only [entV] at J2 c0 c1 c2 c3 c4
    generalize (⟨text.toArray⟩ : ByteArray) = st at *
    clear hE h hx hg e1 hm
    have hk2 : (k : Int) < (n : Int) := by omega
    have hk3 : (0 : Int) ≤ (k : Int) := by omega
    have b0 : Below w.heap.size w (w.alloc (.cells #[.int .i64 tag, .string st, .int .i64 nn, .int .i64 aa, .int .i64 bb] 55)) := (Below.refl _ _).alloc (Nat.le_refl _) _
    have G1 := hide (unhide G _ b0)
    have B0 := hide b0
    clear G b0 hk
    go_enter Tryz.func82, Tryz.ntmps82
    go_wp2_with fail
    refine (unhide G1).mono ?_
    rintro e w1 ⟨rfl, e0⟩
    have e0' := e0.symm
    clear e0
    subst e0'
    clear G1 c0 c1 c2 c3 c4
    go_wp2
    go_ret
    exact ⟨rfl, unhide B0⟩

set_option maxHeartbeats 1600000 in
theorem kCheck_any (w : World) (a : Option Addr) (n c : Nat) (l : List Ent) (h : Es w a n l) (hn : n ≤ 140737488351232) (hf : (∀ x ∈ l, x.text.length ≤ 140737488355328) ∧ ∀ x ∈ l, EntFit x) :
    Calls Tryz.prog 49 #[.slice a n c] w fun e w' => e = .returned (.int .i64 (if checkP l = true then 0 else 70)) ∧ Below w.heap.size w w' := by
  have hln := h.1
  obtain ⟨T, hT⟩ : ∃ T : Int, T = if checkP l = true then 0 else 70 := ⟨_, rfl⟩
  rw [← hT]
  by_cases h1 : n < 1
  case pos =>
    have e1 : Hid (T = 70) := by
      rw [hT, if_neg (fun e => by have := ((checkP_all l).1 e).1; omega)]
      rfl
    have h1' : (n : Int) < 1 := by omega
    clear h hT
    go_enter Tryz.func49, Tryz.ntmps49
    go_wp2
    go_ret
    exact ⟨by rw [unhide e1]; rfl, Below.refl _ _⟩
  by_cases h2 : 1024 < n
  case pos =>
    have e1 : Hid (T = 70) := by
      rw [hT, if_neg (fun e => by have := ((checkP_all l).1 e).1; omega)]
      rfl
    have h1' : ¬ (n : Int) < 1 := by omega
    have h2' : (1024 : Int) < (n : Int) := by omega
    clear h hT
    go_enter Tryz.func49, Tryz.ntmps49
    go_wp2
    go_ret
    exact ⟨by rw [unhide e1]; rfl, Below.refl _ _⟩
  have h1' : ¬ (n : Int) < 1 := by omega
  have h2' : ¬ (1024 : Int) < (n : Int) := by omega
  have HT := hide hT
  have H := hide h
  clear hT h
  go_enter Tryz.func49, Tryz.ntmps49
  go_wp2
  go_loopw [14] (fun i wr => ∃ k : Nat, k ≤ n ∧ i = .int .i64 k ∧ (∀ j, j < k → rightAt l j = true) ∧ Below w.heap.size w wr) (fun i _ => n - (intOf i).toNat)
  case atStart => exact ⟨0, by omega, rfl, fun j h => by omega, Below.refl _ _⟩
  case round =>
    obtain ⟨k, hk, rfl, hall, hB⟩ := hrel
    have HA := hide hall
    have HB := hide hB
    clear hall
    by_cases hlt : k < n
    · have hlt1 : (k : Int) < (n : Int) := by omega
      have HR := hide (kisRight_any wr a n c l ((unhide H).below hB) k hlt hn hf)
      clear hB
      cases hr : rightAt l k
      case false =>
        rw [hr] at HR
        have e1 : Hid (T = 70) := by
          rw [unhide HT, if_neg (fun e => by
            have := ((checkP_all l).1 e).2 k (by omega)
            rw [hr] at this
            cases this)]
          rfl
        clear hr
        go_wp2_with fail
        refine (unhide HR).mono ?_
        rintro e w1 ⟨rfl, f1⟩
        have F1 := hide ((unhide HB).trans (f1.mono (unhide HB).size))
        clear f1 HR
        go_wp2
        go_ret
        exact ⟨by rw [unhide e1]; rfl, unhide F1⟩
      case true =>
        rw [hr] at HR
        have HN : Hid (∀ j, j < k + 1 → rightAt l j = true) := fun j hj => by
          by_cases e : j = k
          · subst e; exact hr
          · exact unhide HA j (by omega)
        clear hr
        go_wp2_with fail
        refine (unhide HR).mono ?_
        rintro e w1 ⟨rfl, f1⟩
        have F1 := hide ((unhide HB).trans (f1.mono (unhide HB).size))
        clear f1 HR
        go_wp2
        go_roundw
        case rel => exact ⟨k + 1, by omega, by go_num, unhide HN, unhide F1⟩
        case measure => simp [intOf]; omega
    · have e1 : Hid (T = 0) := by
        rw [unhide HT, if_pos ((checkP_all l).2 ⟨by omega, fun i hi => unhide HA i (by omega)⟩)]
        rfl
      clear hB
      go_wp2
      go_ret
      exact ⟨by rw [unhide e1]; rfl, unhide HB⟩

end Go.Proofs.YtdcoknnjgpdigaaGreatDoor

/- The landed class: names in memory; hasClass, hasTexts, tagAt, isUpTo. -/
namespace Go.Proofs.YtdcoknnjgpdigaaGreatDoor
open Go.RowKit Go.Maps
set_option linter.unusedVariables false
set_option maxRecDepth 100000

theorem nlaw : Keyed Tryz.prog 9 := string_keyed Tryz.underlying9
theorem nzero (w : World) : (zeroValue 3).run Tryz.prog w = .ok (.int .i64 0) w := by kernel_rfl
theorem nkey {s : List UInt8} (h : fitS s) : keyOf Tryz.prog 9 (.string ⟨s.toArray⟩) = some (.string s) := by
  unfold fitS at h
  have := WideMaps.keyOf_string_mk (P := Tryz.prog) (s := ⟨s.toArray⟩) Tryz.underlying9 (by unfold maxLen; simp [ByteArray.size]; omega)
  simpa using this
/-- A map of numbers of texts at block m: f tells them. -/
def MapIs (w : World) (m : Nat) (f : List UInt8 → Nat) : Prop := ∃ N D, w.ownsMap Tryz.prog 9 (plainElem (H := Unit) Tryz.prog 3) m N D ∧ ∀ s, D.atKey (.string s) (.lit (.int .i64 0)) = .lit (.int .i64 (f s : Int))
theorem MapIs.keep {w w' : World} {m : Nat} {f : List UInt8 → Nat} (h : MapIs w m f) (e : w'.heap[m]? = w.heap[m]?) : MapIs w' m f := by
  obtain ⟨N, D, ⟨es, clock, h1, h2⟩, h3⟩ := h
  exact ⟨N, D, ⟨es, clock, e.trans h1, h2⟩, h3⟩
theorem MapIs.lt {w : World} {m : Nat} {f : List UInt8 → Nat} (h : MapIs w m f) : m < w.heap.size := by
  obtain ⟨N, D, h1, _⟩ := h
  exact h1.lt
theorem MapIs.look {w : World} {m : Nat} {f : List UInt8 → Nat} (h : MapIs w m f) {s : List UInt8} (hs : fitS s) : (Instr.lookup 109 (.map (some m)) (.string ⟨s.toArray⟩) false).run Tryz.prog w = .ok (.int .i64 (f s : Int)) w := by
  obtain ⟨N, D, h1, h2⟩ := h
  obtain ⟨c, hrun, hat, _⟩ := h1.lookup_int nlaw Tryz.underlying109 Tryz.underlying3 (nzero _) (nkey hs)
  rw [h2 s] at hat
  injection hat with hat
  injection hat with _ hat
  rw [hrun, hat]
/-- Names: a right pool, the numbers of its texts and its classes. -/
structure Nm (w : World) (g mt mc : Nat) (p : Sl) (l : List Ent) : Prop where
  blk : w.heap[g]? = some (.cells #[p.v, .map (some mt), .map (some mc)] 111 (0, 0))
  texts : MapIs w mt (utfN l)
  classes : MapIs w mc (clsN l)
  pool : EIn w p.a p.n p.c l
  right : checkP l = true
theorem Nm.c0 {w : World} {g mt mc : Nat} {p : Sl} {l : List Ent} (h : Nm w g mt mc p l) : w.cell? ⟨g, 0, none⟩ = some p.v := by rw [cell_of_row _ _ _ _ _ _ h.blk]; rfl
theorem Nm.c1 {w : World} {g mt mc : Nat} {p : Sl} {l : List Ent} (h : Nm w g mt mc p l) : w.cell? ⟨g, 1, none⟩ = some (.map (some mt)) := by rw [cell_of_row _ _ _ _ _ _ h.blk]; rfl
theorem Nm.c2 {w : World} {g mt mc : Nat} {p : Sl} {l : List Ent} (h : Nm w g mt mc p l) : w.cell? ⟨g, 2, none⟩ = some (.map (some mc)) := by rw [cell_of_row _ _ _ _ _ _ h.blk]; rfl
theorem Nm.glt {w : World} {g mt mc : Nat} {p : Sl} {l : List Ent} (h : Nm w g mt mc p l) : g < w.heap.size := lt_of_heap h.blk
theorem Nm.below {w w' : World} {g mt mc : Nat} {p : Sl} {l : List Ent} (h : Nm w g mt mc p l) (f : Below w.heap.size w w') : Nm w' g mt mc p l :=
  ⟨(f.block g h.glt).trans h.blk, h.texts.keep (f.block mt h.texts.lt), h.classes.keep (f.block mc h.classes.lt), h.pool.below f, h.right⟩
theorem Nm.len {w : World} {g mt mc : Nat} {p : Sl} {l : List Ent} (h : Nm w g mt mc p l) : 1 ≤ l.length ∧ l.length ≤ 1024 := (checkP_right.1 h.right).1
theorem Nm.utf {w : World} {g mt mc : Nat} {p : Sl} {l : List Ent} (h : Nm w g mt mc p l) (s : List UInt8) : utfN l s < 1024 := by
  by_cases e : utfN l s = 0
  · omega
  · have := utfN_some e; have := h.len; omega
theorem Nm.cls {w : World} {g mt mc : Nat} {p : Sl} {l : List Ent} (h : Nm w g mt mc p l) (s : List UInt8) : clsN l s < 1024 := by
  by_cases e : clsN l s = 0
  · omega
  · have := clsN_some e; have := h.len; omega

set_option maxHeartbeats 1600000 in
theorem nHasClass_any (w : World) (g mt mc : Nat) (p : Sl) (l : List Ent) (h : Nm w g mt mc p l) (s : List UInt8) (hs : fitS s) :
    Calls Tryz.prog 51 #[.pointer (some ⟨g, 0, none⟩), .string ⟨s.toArray⟩] w fun e w' => e = .returned (.bool (decide (clsN l s ≠ 0))) ∧ w' = w := by
  have c2 := h.c2
  have hlk := h.classes.look hs
  clear h
  generalize (⟨s.toArray⟩ : ByteArray) = st at *
  generalize clsN l s = k at *
  have hd : decide (k ≠ 0) = ((k : Int) != 0) := by
    rw [Bool.eq_iff_iff]
    simp
  rw [hd]
  clear hd
  go_enter Tryz.func51, Tryz.ntmps51
  go_wp2
  go_ret
  exact ⟨rfl, rfl⟩

/-- Texts in memory. -/
def StrsAt (w : World) (b : Nat) (ss : List (List UInt8)) : Prop := ∀ (k : Nat) (s : List UInt8), ss[k]? = some s → w.cell? ⟨b, k, none⟩ = some (.string ⟨s.toArray⟩)
set_option maxHeartbeats 1600000 in
theorem nHasTexts_any (w : World) (g mt mc : Nat) (p : Sl) (l : List Ent) (h : Nm w g mt mc p l) (b n c : Nat) (ss : List (List UInt8)) (hl : ss.length = n) (hn : n ≤ 1000) (hS : StrsAt w b ss) (hs : ∀ s ∈ ss, fitS s) :
    Calls Tryz.prog 83 #[.pointer (some ⟨g, 0, none⟩), .slice (some ⟨b, 0, none⟩) n c] w fun e w' => e = .returned (.bool (textsB l ss)) ∧ w' = w := by
  have c1 := h.c1
  have HT := hide h.texts
  have HS := hide hS
  have HF := hide hs
  obtain ⟨T, hT⟩ : ∃ T, T = textsB l ss := ⟨_, rfl⟩
  rw [← hT]
  have HTT := hide hT
  clear h hS hs hT
  go_enter Tryz.func83, Tryz.ntmps83
  go_wp2
  go_loop [9] (fun i => ∃ k : Nat, k ≤ n ∧ i = .int .i64 k ∧ textsB l (ss.take k) = true) (fun i => n - (intOf i).toNat)
  case atStart => exact ⟨0, by omega, rfl, rfl⟩
  case round =>
    obtain ⟨k, hk, rfl, ht⟩ := hrel
    by_cases hlt : k < n
    · have hlt1 : (k : Int) < (n : Int) := by omega
      obtain ⟨s, hsk⟩ : ∃ s, ss[k]? = some s := ⟨_, List.getElem?_eq_getElem (by omega)⟩
      have q0 := unhide HS k s hsk
      have hlk := (unhide HT).look (unhide HF s (List.mem_of_getElem? hsk))
      have hstep : textsB l (ss.take (k + 1)) = decide (utfN l s ≠ 0) := by
        unfold textsB at ht ⊢
        rw [List.take_add_one, hsk, List.all_append, ht]
        simp
      have hbad : utfN l s = 0 → textsB l ss = false := fun e => by
        unfold textsB
        rw [List.all_eq_false]
        exact ⟨s, List.mem_of_getElem? hsk, by simp [e]⟩
      generalize (⟨s.toArray⟩ : ByteArray) = st at *
      generalize utfN l s = z at *
      have HST := hide hstep
      have HBD := hide hbad
      clear hsk ht hstep hbad
      by_cases hz : z = 0
      · subst hz
        go_wp2
        go_ret
        exact ⟨by rw [unhide HTT, unhide HBD (by first | rfl | trivial)]; rfl, rfl⟩
      · have hz1 : ((z : Int) == 0) = false := by simpa using hz
        have HZ := hide hz
        clear hz
        go_wp2
        go_round
        case rel => exact ⟨k + 1, by omega, by go_num, by rw [unhide HST]; simpa using unhide HZ⟩
        case measure => simp [intOf]; omega
    · obtain rfl : k = n := by omega
      have hT : T = true := by rw [unhide HTT, ← ht, List.take_of_length_le (by omega)]
      subst hT
      clear ht HTT
      go_wp2
      go_ret
      exact ⟨rfl, rfl⟩

set_option maxHeartbeats 1600000 in
theorem isUpTo_any (w : World) (b n c : Nat) (most : Int) (zs : List Int) (hm : 0 ≤ most ∧ most ≤ 1000000) (hl : zs.length = n) (hn : n ≤ 1000) (hS : ∀ (k : Nat) (z : Int), zs[k]? = some z → w.cell? ⟨b, k, none⟩ = some (.int .i64 z)) :
    Calls Tryz.prog 112 #[.int .i64 most, .slice (some ⟨b, 0, none⟩) n c] w fun e w' => e = .returned (.bool (upB most zs)) ∧ w' = w := by
  have HS := hide hS
  obtain ⟨T, hT⟩ : ∃ T, T = upB most zs := ⟨_, rfl⟩
  rw [← hT]
  have HTT := hide hT
  clear hS hT
  go_enter Tryz.func112, Tryz.ntmps112
  go_wp2
  go_loop [9] (fun i => ∃ k : Nat, k ≤ n ∧ i = .int .i64 k ∧ upB most (zs.take k) = true) (fun i => n - (intOf i).toNat)
  case atStart => exact ⟨0, by omega, rfl, rfl⟩
  case round =>
    obtain ⟨k, hk, rfl, ht⟩ := hrel
    by_cases hlt : k < n
    · have hlt1 : (k : Int) < (n : Int) := by omega
      obtain ⟨z, hzk⟩ : ∃ z, zs[k]? = some z := ⟨_, List.getElem?_eq_getElem (by omega)⟩
      have q0 := unhide HS k z hzk
      have hstep : upB most (zs.take (k + 1)) = decide (0 ≤ z ∧ z ≤ most) := by
        unfold upB at ht ⊢
        rw [List.take_add_one, hzk, List.all_append, ht]
        simp
      have hbad : ¬ (0 ≤ z ∧ z ≤ most) → upB most zs = false := fun e => by
        unfold upB
        rw [List.all_eq_false]
        exact ⟨z, List.mem_of_getElem? hzk, by simpa using e⟩
      have HST := hide hstep
      have HBD := hide hbad
      clear hzk ht hstep hbad
      by_cases h1 : z < 0
      · go_wp2
        go_ret
        exact ⟨by rw [unhide HTT, unhide HBD (by omega)]; rfl, rfl⟩
      · have h1b : decide (z < 0) = false := by simpa using h1
        by_cases h2 : most < z
        · go_wp2
          go_ret
          exact ⟨by rw [unhide HTT, unhide HBD (by omega)]; rfl, rfl⟩
        · have h2b : decide (most < z) = false := by simpa using h2
          go_wp2
          go_round
          case rel => exact ⟨k + 1, by omega, by go_num, by rw [unhide HST]; simp; omega⟩
          case measure => simp [intOf]; omega
    · obtain rfl : k = n := by omega
      have hT : T = true := by rw [unhide HTT, ← ht, List.take_of_length_le (by omega)]
      subst hT
      clear ht HTT
      go_wp2
      go_ret
      exact ⟨rfl, rfl⟩

set_option maxHeartbeats 1600000 in
theorem ctagAt_any (w : World) (a : Option Addr) (n c : Nat) (l : List Ent) (h : Es w a n l) (hn : n ≤ 100000000000) (i : Int) (hi : fitI i) :
    Calls Tryz.prog 131 #[.slice a n c, .int .i64 i] w fun e w' => e = .returned (.int .i64 (tagE l i)) ∧ w' = w := by
  have hln := h.1
  unfold fitI at hi
  by_cases h1 : i < 0
  · have e : tagE l i = 0 := by unfold tagE atE; rw [if_neg (by omega)]; rfl
    rw [e]
    clear h
    go_enter Tryz.func131, Tryz.ntmps131
    go_wp2
    go_ret
    exact ⟨rfl, rfl⟩
  · have h1b : decide (i < 0) = false := by simpa using h1
    by_cases h2 : (n : Int) ≤ i
    · have e : tagE l i = 0 := by
        unfold tagE atE
        rw [if_pos (by omega), List.getElem?_eq_none (by omega)]
        rfl
      rw [e]
      clear h
      go_enter Tryz.func131, Tryz.ntmps131
      go_wp2
      go_ret
      exact ⟨rfl, rfl⟩
    · have h2b : decide ((n : Int) ≤ i) = false := by simpa using h2
      obtain ⟨k, rfl⟩ : ∃ k : Nat, i = k := ⟨i.toNat, by omega⟩
      obtain ⟨b, o, rfl, hE⟩ := h.2.resolve_left (by omega)
      obtain ⟨q0, q1, q2, q3, q4⟩ := ents_at hE (k := k) (by omega)
      have hk0 : (0 : Int) ≤ (k : Int) := by omega
      have hk1 : (k : Int) < (n : Int) := by omega
      unfold tagE
      generalize atE l (k : Int) = y at *
      clear h hE
      go_enter Tryz.func131, Tryz.ntmps131
      go_wp2
      go_ret
      exact ⟨rfl, rfl⟩
end Go.Proofs.YtdcoknnjgpdigaaGreatDoor
