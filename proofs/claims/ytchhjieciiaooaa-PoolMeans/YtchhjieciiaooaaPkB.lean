/- The landed pool: its small functions. -/
import Derived.Test.YtchhjieciiaooaaPkA
import Derived.Test.YtchhjieciiaooaaPlP
import Derived.Test.YtchhjieciiaooaaPlR0
import Derived.Test.YtchhjieciiaooaaSqA
namespace Go.Proofs.Ytchhjieciiaooaa
open Go.RowKit
set_option linter.unusedVariables false

theorem ktagAt_any (w : World) (a : Option Addr) (n c : Nat) (l : List Ent) (h : Es w a n l) (i : Int) (hi : -9223372036854775808 ≤ i ∧ i ≤ 9223372036854775807) (hn : n ≤ 140737488351232) :
    Calls Try.prog 44 #[.slice a n c, .int .i64 i] w fun e w' => e = .returned (.int .i64 (tagE l i)) ∧ w' = w := by
  by_cases h0 : i < 0
  · have e1 : tagE l i = 0 := by unfold tagE atE; rw [if_neg (by omega)]; rfl
    rw [e1]
    clear e1 h
    go_enter Try.func44, Try.ntmps44
    go_wp2
    go_ret
    exact ⟨rfl, rfl⟩
  · by_cases h1 : (n : Int) ≤ i
    · have e1 : tagE l i = 0 := by
        unfold tagE atE
        rw [if_pos (by omega), List.getElem?_eq_none (by rw [h.1]; omega)]
        rfl
      rw [e1]
      clear e1 h
      go_enter Try.func44, Try.ntmps44
      go_wp2
      go_ret
      exact ⟨rfl, rfl⟩
    · obtain ⟨k, rfl⟩ : ∃ k : Nat, i = k := ⟨i.toNat, by omega⟩
      obtain ⟨b, o, rfl, hE⟩ := h.2.resolve_left (by omega)
      obtain ⟨x, hx⟩ : ∃ x, l[k]? = some x := ⟨_, List.getElem?_eq_getElem (by rw [h.1]; omega)⟩
      obtain ⟨c0, _, _, _, _⟩ := ents_get hE hx
      have e1 : tagE l (k : Int) = x.tag := by
        unfold tagE atE
        rw [if_pos (by omega), Int.toNat_natCast, hx]
        rfl
      rw [e1]
      generalize x.tag = T at *
      clear e1 hE hx h
      go_enter Try.func44, Try.ntmps44
      go_wp2
      go_ret
      exact ⟨rfl, rfl⟩


theorem ents_at {w : World} {b o : Nat} {l : List Ent} (h : EntsAt w (some ⟨b, o, none⟩) l) {k : Nat} (hk : k < l.length) :
    w.cell? ⟨b, o + k * 5, none⟩ = some (.int .i64 (atE l (k : Int)).tag) ∧ w.cell? ⟨b, o + k * 5 + 1, none⟩ = some (.string ⟨(atE l (k : Int)).text.toArray⟩) ∧ w.cell? ⟨b, o + k * 5 + 2, none⟩ = some (.int .i64 (atE l (k : Int)).n) ∧ w.cell? ⟨b, o + k * 5 + 3, none⟩ = some (.int .i64 (atE l (k : Int)).a) ∧ w.cell? ⟨b, o + k * 5 + 4, none⟩ = some (.int .i64 (atE l (k : Int)).b) := by
  have e : l[k]? = some (atE l (k : Int)) := by rw [atE_nat, List.getElem?_eq_getElem hk]; rfl
  exact ents_get h e
theorem knumbers_any (w : World) (t : Int) :
    Calls Try.prog 54 #[.int .i64 t] w fun e w' => e = .returned (.int .i64 (if t = 5 then 2 else 1)) ∧ w' = w := by
  by_cases h5 : t = 5
  · subst h5
    go_enter Try.func54, Try.ntmps54
    go_wp2
    go_ret
    exact ⟨rfl, rfl⟩
  · rw [if_neg h5]
    have h5' : (t == 5) = false := by simpa using h5
    clear h5
    go_enter Try.func54, Try.ntmps54
    go_wp2
    go_ret
    exact ⟨rfl, rfl⟩
theorem kisGap_any (w : World) (a : Option Addr) (n c : Nat) (l : List Ent) (h : Es w a n l) (k : Nat) (hk : k < n) (hn : n ≤ 140737488351232) :
    Calls Try.prog 61 #[.slice a n c, .int .i64 (k : Int)] w fun e w' => e = .returned (.bool (gapE l k)) ∧ w' = w := by
  cases k with
  | zero =>
    have e1 : gapE l 0 = true := rfl
    rw [e1]
    clear h e1
    go_enter Try.func61, Try.ntmps61
    go_wp2
    go_ret
    exact ⟨rfl, rfl⟩
  | succ k =>
    rw [gapE_succ]
    obtain ⟨b, o, rfl, hE⟩ := h.2.resolve_left (by omega)
    obtain ⟨c0, _, _, _, _⟩ := ents_at hE (k := k) (by have := h.1; omega)
    obtain ⟨T, hT⟩ : ∃ T, (atE l (k : Int)).tag = T := ⟨_, rfl⟩
    rw [hT] at c0 ⊢
    have hk0 : (((k + 1 : Nat) : Int) == 0) = false := by
      rw [beq_eq_false_iff_ne]
      omega
    have hk1 : ((k + 1 : Nat) : Int) - 1 = (k : Int) := by omega
    have hk2 : (k : Int) < (n : Int) := by omega
    have hk3 : (0 : Int) ≤ (k : Int) := by omega
    have e5 : decide (T = 5) = (T == 5) := by rw [Bool.eq_iff_iff]; simp
    rw [e5]
    obtain ⟨K, hK⟩ : ∃ K : Int, K = ((k + 1 : Nat) : Int) := ⟨_, rfl⟩
    rw [← hK] at hk0 hk1 ⊢
    have hK1 : 0 ≤ K := by omega
    have hK2 : K ≤ 140737488351232 := by omega
    clear hT hE h hK e5
    go_enter Try.func61, Try.ntmps61
    go_wp2
    go_ret
    exact ⟨rfl, rfl⟩
theorem khasRoom_any (w : World) (a : Option Addr) (n c : Nat) (l : List Ent) (h : Es w a n l) (k : Nat) (hk : k < n) (hn : n ≤ 140737488351232) :
    Calls Try.prog 67 #[.slice a n c, .int .i64 (k : Int)] w fun e w' => e = .returned (.bool (decide ((k : Int) + (if (atE l (k : Int)).tag = 5 then 2 else 1) ≤ (n : Int)))) ∧ w' = w := by
  obtain ⟨b, o, rfl, hE⟩ := h.2.resolve_left (by omega)
  obtain ⟨c0, _, _, _, _⟩ := ents_at hE (k := k) (by have := h.1; omega)
  have HN := hide (knumbers_any w (atE l (k : Int)).tag)
  obtain ⟨M, hM⟩ : ∃ M : Int, M = (if (atE l (k : Int)).tag = 5 then 2 else 1) := ⟨_, rfl⟩
  rw [← hM] at HN ⊢
  have hM1 : 1 ≤ M := by rw [hM]; split <;> omega
  have hM2 : M ≤ 2 := by rw [hM]; split <;> omega
  have hk2 : (k : Int) < (n : Int) := by omega
  have hk3 : (0 : Int) ≤ (k : Int) := by omega
  clear hM
  generalize (atE l (k : Int)).tag = T at *
  clear hE h
  go_enter Try.func67, Try.ntmps67
  go_wp2_with fail
  refine (unhide HN).mono ?_
  rintro e w1 ⟨rfl, e0⟩
  have e0' := e0.symm
  clear e0
  subst e0'
  go_wp2
  go_ret
  exact ⟨rfl, rfl⟩
theorem wrap32_eq (n : Int) (hn : -9223372036854775808 ≤ n ∧ n ≤ 9223372036854775807) : (wrap64 (wrap32 n) == n) = decide (-2147483648 ≤ n ∧ n ≤ 2147483647) := by
  rw [Bool.eq_iff_iff, beq_iff_eq, decide_eq_true_eq]
  unfold wrap64 wrap32
  omega
theorem kfits_any (w : World) (t n : Int) (hn : -9223372036854775808 ≤ n ∧ n ≤ 9223372036854775807) :
    Calls Try.prog 66 #[.int .i64 t, .int .i64 n] w fun e w' => e = .returned (.bool (fitsE t n)) ∧ w' = w := by
  unfold fitsE
  by_cases h3 : t = 3
  · subst h3
    go_enter Try.func66, Try.ntmps66
    go_wp2
    go_ret
    exact ⟨by rw [wrap32_eq n hn]; rfl, rfl⟩
  · have h3' : (t == 3) = false := by simpa using h3
    have h3'' : (t != 3) = true := by simpa using h3
    rw [decide_eq_true h3]
    clear h3
    go_enter Try.func66, Try.ntmps66
    go_wp2
    go_ret
    exact ⟨rfl, rfl⟩

set_option maxHeartbeats 1600000 in
theorem kisText_any (w : World) (s : List UInt8) (hs : s.length ≤ 140737488355328) :
    Calls Try.prog 64 #[.string ⟨s.toArray⟩] w fun e w' => e = .returned (.bool (textB s)) ∧ w' = w := by
  have hsz : (⟨s.toArray⟩ : ByteArray).size = s.length := by simp [ByteArray.size]
  have H := hide (fun k (hk : k < s.length) => strI s k s[k] (List.getElem?_eq_getElem hk))
  by_cases hl : 255 < s.length
  · have e1 : textB s = false := by
      rw [textB_eq, decide_eq_false (by omega), Bool.and_false]
    rw [e1]
    have hl' : (255 : Int) < (s.length : Int) := by omega
    clear e1 H
    generalize (⟨s.toArray⟩ : ByteArray) = st at *
    go_enter Try.func64, Try.ntmps64
    go_wp2
    go_ret
    exact ⟨rfl, rfl⟩
  have hl' : ¬ (255 : Int) < (s.length : Int) := by omega
  obtain ⟨T, hT⟩ : ∃ T, T = textB s := ⟨_, rfl⟩
  rw [← hT]
  rw [textB_eq, decide_eq_true (show s.length ≤ 255 by omega), Bool.and_true] at hT
  have HT := hide hT
  generalize (⟨s.toArray⟩ : ByteArray) = st at *
  clear hT
  go_enter Try.func64, Try.ntmps64
  go_wp2
  go_loopw [9] (fun i wr => ∃ k : Nat, k ≤ s.length ∧ i = .int .i64 k ∧ (∀ j b, j < k → s[j]? = some b → okB b = true) ∧ wr = w) (fun i _ => s.length - (intOf i).toNat)
  case atStart => exact ⟨0, by omega, rfl, fun j b h => by omega, rfl⟩
  case round =>
    obtain ⟨k, hk, rfl, hall, e0⟩ := hrel
    have e0' := e0.symm
    clear e0
    subst e0'
    by_cases hlt : k < s.length
    · have hlt1 : (k : Int) < (s.length : Int) := by omega
      have hidx := unhide H k hlt
      have hks : s[k]? = some s[k] := List.getElem?_eq_getElem hlt
      obtain ⟨b, hb⟩ : ∃ b, b = s[k] := ⟨_, rfl⟩
      rw [← hb] at hidx hks
      by_cases h1 : b.toNat < 33
      · have e1 : Hid (T = false) := by
          rw [unhide HT]
          rw [List.all_eq_false]
          exact ⟨b, List.mem_of_getElem? hks, by unfold okB; simp; omega⟩
        have h1' : (b.toNat : Int) < 33 := by omega
        clear hall hks hb h1
        generalize b.toNat = B at *
        go_wp2
        go_ret
        exact ⟨by rw [unhide e1]; rfl, rfl⟩
      · by_cases h2 : 126 < b.toNat
        · have e1 : Hid (T = false) := by
            rw [unhide HT]
            rw [List.all_eq_false]
            exact ⟨b, List.mem_of_getElem? hks, by unfold okB; simp; omega⟩
          have h1' : ¬ (b.toNat : Int) < 33 := by omega
          have h2' : (126 : Int) < (b.toNat : Int) := by omega
          clear hall hks hb h1 h2
          generalize b.toNat = B at *
          go_wp2
          go_ret
          exact ⟨by rw [unhide e1]; rfl, rfl⟩
        · have HA : Hid (∀ j b, j < k + 1 → s[j]? = some b → okB b = true) := fun j b' hj hb' => by
            by_cases hjk : j = k
            · subst hjk
              rw [hks] at hb'
              injection hb' with hb'
              subst hb'
              unfold okB
              simp
              omega
            · exact hall j b' (by omega) hb'
          have h1' : ¬ (b.toNat : Int) < 33 := by omega
          have h2' : ¬ (126 : Int) < (b.toNat : Int) := by omega
          clear hall hks hb h1 h2
          generalize b.toNat = B at *
          go_wp2
          go_roundw
          case rel => exact ⟨k + 1, by omega, by go_num, unhide HA, by first | rfl | trivial⟩
          case measure => simp [intOf]; omega
    · obtain rfl : k = s.length := by omega
      have e1 : Hid (T = true) := by
        rw [unhide HT]
        rw [List.all_eq_true]
        intro x hx
        obtain ⟨j, hj⟩ := List.mem_iff_getElem?.1 hx
        exact hall j x ((List.getElem?_eq_some_iff.1 hj).1) hj
      clear hall H
      generalize s.length = n at *
      go_wp2
      go_ret
      exact ⟨by rw [unhide e1]; rfl, rfl⟩

end Go.Proofs.Ytchhjieciiaooaa
