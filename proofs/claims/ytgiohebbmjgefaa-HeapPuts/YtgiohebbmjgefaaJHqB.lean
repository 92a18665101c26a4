/- Layer 15, the document's side: Words, Check. -/
import Derived.Test.YtgiohebbmjgefaaJHpF

namespace Go.Proofs.Ytgiohebbmjgefaa
open Go.RowKit
set_option linter.unusedVariables false
set_option maxRecDepth 100000

set_option maxHeartbeats 800000 in
theorem rwords_any (w : World) (s : Sl) (rs : List ObR) (h : HIn w s rs) (hn : rs.length ≤ 5000) :
    Calls Try.prog 18 #[s.v] w fun e w' => e = .returned (.int .i64 (wordsH (rs.map ObR.o) : Nat)) ∧ Below w.heap.size w w' := by
  obtain ⟨a, n, c⟩ := s
  have hln := h.ls.1
  simp only at hln
  have HI := hide h
  have HW := hide (words_few h hn)
  have HZ : Hid (wordsH ((rs.map ObR.o).take 0) = 0) := hide rfl
  have HE : Hid (wordsH ((rs.map ObR.o).take n) = wordsH (rs.map ObR.o)) := hide (by rw [List.take_of_length_le]; rw [List.length_map]; omega)
  clear h
  unfold Sl.v at *
  simp only
  go_enter Try.func18, Try.ntmps18
  go_wp2
  go_loopw [3, 4] (fun m i wr => ∃ k : Nat, k ≤ n ∧ m = .int .i64 (wordsH ((rs.map ObR.o).take k) : Nat) ∧ i = .int .i64 k ∧ Below w.heap.size w wr) (fun m i _ => n - (intOf i).toNat)
  case atStart => exact ⟨0, by omega, by rw [unhide HZ]; rfl, rfl, Below.refl _ _⟩
  case round =>
    obtain ⟨k, hk, rfl, rfl, hR⟩ := hrel
    by_cases hlt : k < n
    · have hlt1 : (k : Int) < (n : Int) := by omega
      have hk0 : (0 : Int) ≤ (k : Int) := by omega
      obtain ⟨x, hx⟩ : ∃ x, rs[k]? = some x := ⟨_, List.getElem?_eq_getElem (by omega)⟩
      obtain ⟨b, o, ea, q⟩ := memb_row (unhide HI) hx
      simp only at ea
      subst ea
      have q1 := q hR
      have hwl := ((unhide HI).each _ (List.mem_of_getElem? hx)).ls.1
      have d1 := q1 1 _ rfl
      have hs := wordsH_succ (map_get (f := ObR.o) hx)
      have hw1 := unhide HW (k + 1)
      obtain ⟨ty, ⟨sa, sn, sc⟩, ws⟩ := x
      simp only [ObR.o, Sl.v] at hs d1 hwl
      have HR := hide hR
      have HX := hide hx
      generalize hS : wordsH ((rs.map ObR.o).take k) = S at *
      have hwr : IntKind.i64.wrap ((S : Int) + (sn : Int)) = (S : Int) + sn := by rw [IntKind.wrap_i64]; omega
      have HS := hide (show wordsH ((rs.map ObR.o).take (k + 1)) = S + sn by rw [hs, hwl])
      clear q q1 hx hR hs hw1 hwl hS
      go_wp2
      go_roundw
      case rel => exact ⟨k + 1, by omega, by rw [unhide HS]; simp, by go_num, unhide HR⟩
      case measure => simp [intOf]; omega
    · obtain rfl : k = n := by omega
      have HR := hide hR
      clear hR
      go_wp2
      go_ret
      exact ⟨by rw [← unhide HE]; rfl, unhide HR⟩
set_option maxHeartbeats 3200000 in
theorem rcheck_any (w : World) (s : Sl) (rs : List ObR) (h : HIn w s rs) :
    Calls Try.prog 16 #[s.v] w fun e w' => e = .returned (.int .i64 (checkE (rs.map ObR.o))) ∧ Below w.heap.size w w' := by
  obtain ⟨a, n, c⟩ := s
  have hln := h.ls.1
  have hsm := h.small
  simp only at hln hsm
  have hC : checkH (rs.map ObR.o) = (decide (n ≤ 4096) && decide (wordsH (rs.map ObR.o) ≤ 65536) && !endsH (rs.map ObR.o) && !decide (firstH freeW (rs.map ObR.o) < n)) := by
    unfold checkH
    rw [all_first, List.length_map, hln]
  have HI := hide h
  have HE0 : Hid (n = 0 → endsH (rs.map ObR.o) = false) := hide fun e => ends_nil (by omega)
  have HE1 : Hid (∀ r, rs[n - 1]? = some r → endsH (rs.map ObR.o) = r.ty.isEmpty) := hide fun r hr => ends_at (by rw [hln]; exact hr)
  have HK : Hid (∀ (k : Nat) (r : ObR), rs[k]? = some r → freeW r.o = true → firstH freeW (rs.map ObR.o) < n) := hide fun k r hr hp => by
    have hk := (List.getElem?_eq_some_iff.1 hr).1
    rcases Nat.lt_or_ge (firstH freeW (rs.map ObR.o)) n with h1 | h1
    · exact h1
    · have := List.not_of_lt_findIdx (p := freeW) (xs := rs.map ObR.o) (i := k) (by unfold firstH at h1; omega)
      rw [List.getElem_map, (List.getElem?_eq_some_iff.1 hr).2, hp] at this
      simp at this
  have HN : Hid ((∀ (j : Nat) (r' : ObR), j < n → rs[j]? = some r' → freeW r'.o = false) → ¬ firstH freeW (rs.map ObR.o) < n) := hide fun hf hlt => by
    unfold firstH at hlt
    have hlt2 : List.findIdx freeW (rs.map ObR.o) < (rs.map ObR.o).length := by rw [List.length_map]; omega
    have h1 := List.findIdx_getElem (p := freeW) (xs := rs.map ObR.o) (w := hlt2)
    rw [List.getElem_map] at h1
    have h2 := hf (List.findIdx freeW (rs.map ObR.o)) _ hlt (List.getElem?_eq_getElem (by omega))
    rw [h2] at h1
    cases h1
  have HW := hide (fun (hn : rs.length ≤ 5000) => rwords_any w ⟨a, n, c⟩ rs h hn)
  have hV : checkE (rs.map ObR.o) = if checkH (rs.map ObR.o) = true then 0 else 150 := rfl
  rw [hC] at hV
  clear hC
  generalize checkE (rs.map ObR.o) = V at *
  generalize wordsH (rs.map ObR.o) = S at *
  generalize endsH (rs.map ObR.o) = E at *
  generalize firstH freeW (rs.map ObR.o) = F at *
  have HC := hide hV
  clear h hV
  unfold Sl.v at *
  simp only at HW ⊢
  by_cases h1 : n ≤ 4096
  case neg =>
    have g1 : (4096 : Int) < (n : Int) := by omega
    go_enter Try.func16, Try.ntmps16
    go_wp2
    go_ret
    have := unhide HC
    exact ⟨by rw [this]; simp [h1], Below.refl _ _⟩
  have g1 : ¬ (4096 : Int) < (n : Int) := by omega
  have HW1 := hide (unhide HW (by omega))
  clear HW
  go_enter Try.func16, Try.ntmps16
  go_wp2_with fail
  refine (unhide HW1).mono ?_
  rintro e w1 ⟨rfl, f1⟩
  have F1 := hide f1
  clear f1
  by_cases h2 : S ≤ 65536
  case neg =>
    have g2 : (65536 : Int) < (S : Int) := by omega
    go_wp2
    go_ret
    have := unhide HC
    exact ⟨by rw [this]; simp [h2], unhide F1⟩
  have g2 : ¬ (65536 : Int) < (S : Int) := by omega
  have KEY : ∀ (W : World), Below w.heap.size w W → E = false → True := fun _ _ _ => trivial
  clear KEY
  by_cases hn0 : n = 0
  · have HE := hide (unhide HE0 hn0)
    have HN1 := hide (unhide HN (fun j r' hj => by omega))
    subst hn0
    clear HE0 HE1 HK HN
    go_wp2
    go_loopw [3] (fun i wr => i = .int .i64 0 ∧ Below w.heap.size w wr) (fun i _ => 0)
    case atStart => exact ⟨rfl, unhide F1⟩
    case round =>
      obtain ⟨rfl, hR⟩ := hrel
      have HR := hide hR
      clear hR
      go_wp2
      go_ret
      have := unhide HC
      have e1 := unhide HE
      have e2 := unhide HN1
      exact ⟨by rw [this, e1]; simp [h2], unhide HR⟩
  obtain ⟨r, hr⟩ : ∃ r, rs[n - 1]? = some r := ⟨_, List.getElem?_eq_getElem (by omega)⟩
  obtain ⟨b, o, ea, q⟩ := memb_row (unhide HI) hr
  simp only at ea
  subst ea
  have q1 := q (unhide F1)
  have d0 := q1.zero
  have HE := hide (unhide HE1 r hr)
  have hty := ty_nil r.ty
  have gn : (0 : Int) < (n : Int) := by omega
  have hwr : IntKind.i64.wrap ((n : Int) - 1) = ((n - 1 : Nat) : Int) := by rw [IntKind.wrap_i64]; omega
  have hnl : ((n - 1 : Nat) : Int) < (n : Int) := by omega
  have hnl2 : n - 1 < n := by omega
  clear q q1 hr HE0 HE1
  generalize r.ty = ty at *
  generalize hst : (⟨ty.toArray⟩ : ByteArray) = st at *
  cases ht : ty.isEmpty with
  | true =>
    rw [ht] at hty
    have hty2 : st.toList = [] := by simpa using hty
    go_wp2
    go_ret
    have := unhide HC
    have e1 := unhide HE
    exact ⟨by rw [this, e1, ht]; simp, unhide F1⟩
  | false =>
    rw [ht] at hty
    have hty2 : ¬ st.toList = [] := by simpa using hty
    have HEF := unhide HE
    rw [ht] at HEF
    have HEF := hide HEF
    clear HE
    go_wp2
    clear d0
    go_loopw [3] (fun i wr => ∃ k : Nat, k ≤ n ∧ i = .int .i64 (k : Int) ∧ Below w.heap.size w wr ∧ ∀ (j : Nat) (r' : ObR), j < k → rs[j]? = some r' → freeW r'.o = false) (fun i _ => n - (intOf i).toNat)
    case atStart => exact ⟨0, by omega, rfl, unhide F1, fun j r' hj => absurd hj (by omega)⟩
    case round =>
      obtain ⟨k, hk, rfl, hR, hF⟩ := hrel
      by_cases hlt : k < n
      · have hlt1 : (k : Int) < (n : Int) := by omega
        have hk0 : (0 : Int) ≤ (k : Int) := by omega
        obtain ⟨x, hx⟩ : ∃ x, rs[k]? = some x := ⟨_, List.getElem?_eq_getElem (by omega)⟩
        obtain ⟨b', o', ea, q⟩ := memb_row (unhide HI) hx
        injection ea with ea
        injection ea with ea1 ea2
        subst ea1 ea2
        have q1 := q hR
        have hwl := ((unhide HI).each _ (List.mem_of_getElem? hx)).ls.1
        obtain ⟨xty, ⟨sa, sn, sc⟩, ws⟩ := x
        have d0 := q1.zero
        have d1 := q1 1 _ rfl
        simp only [Sl.v] at d0 d1 hwl
        have hxt := ty_nil xty
        have HR := hide hR
        have HX := hide hx
        have HG := hide hF
        clear q q1 hx hR hF hty2 hty
        generalize hxs : (⟨xty.toArray⟩ : ByteArray) = xst at *
        by_cases hfw : (xty.isEmpty && decide (0 < sn)) = true
        · have hfw2 := hfw
          rw [Bool.and_eq_true, decide_eq_true_eq] at hfw2
          obtain ⟨hf1, hf2⟩ := hfw2
          rw [hf1] at hxt
          have hxt2 : xst.toList = [] := by simpa using hxt
          have hs1 : (0 : Int) < (sn : Int) := by omega
          go_wp2
          go_ret
          have := unhide HC
          have e1 := unhide HK k _ (unhide HX) (by simpa [freeW, ObR.o, freeO, hwl] using hfw)
          exact ⟨by rw [this]; simp [e1], unhide HR⟩
        · have HFW : Hid (freeW (ObR.o ⟨xty, ⟨sa, sn, sc⟩, ws⟩) = false) := hide (by simpa [freeW, ObR.o, freeO, hwl] using hfw)
          have HNX : Hid (∀ (j : Nat) (r' : ObR), j < k + 1 → rs[j]? = some r' → freeW r'.o = false) := hide fun j r' hj hr' => by
            by_cases hjk : j < k
            · exact unhide HG j r' hjk hr'
            · obtain rfl : j = k := by omega
              rw [unhide HX] at hr'
              injection hr' with hr'
              subst hr'
              exact unhide HFW
          by_cases hf1 : xty.isEmpty = true
          · rw [hf1] at hxt
            have hxt2 : xst.toList = [] := by simpa using hxt
            have hs1 : ¬ (0 : Int) < (sn : Int) := by
              intro e
              exact hfw (by rw [hf1]; simp; omega)
            go_wp2
            go_roundw
            case rel => exact ⟨k + 1, by omega, by go_num, unhide HR, unhide HNX⟩
            case measure => simp [intOf]; omega
          · have hxt2 : ¬ xst.toList = [] := by
              rw [Bool.not_eq_true] at hf1
              rw [hf1] at hxt
              simpa using hxt
            go_wp2
            go_roundw
            case rel => exact ⟨k + 1, by omega, by go_num, unhide HR, unhide HNX⟩
            case measure => simp [intOf]; omega
      · obtain rfl : k = n := by omega
        have HR := hide hR
        have HN1 := hide (unhide HN hF)
        clear hR hF
        go_wp2
        go_ret
        have := unhide HC
        have e1 := unhide HEF
        have e2 := unhide HN1
        exact ⟨by rw [this, e1]; simp only [h1, h2, e2]; simp, unhide HR⟩
end Go.Proofs.Ytgiohebbmjgefaa
