/- Layer 15, the document's side: Live; lists of numbers held against one another. -/
import Derived.Test.YtgiohebbmjgefaaJHpT0
import Derived.Test.YtgiohebbmjgefaaJHpC

namespace Go.Proofs.Ytgiohebbmjgefaa
open Go.RowKit
set_option linter.unusedVariables false
set_option maxRecDepth 100000

set_option maxHeartbeats 1600000 in
theorem SameInts_15 (w : World) (a b : Option Addr) (n c d : Nat) (x : List Int) (hA : Ls 1 i15 w a n x) (hB : Ls 1 i15 w b n x) (hs : n ≤ 9000000000000) :
    Calls Try.prog 19 #[.slice a n c, .slice b n d] w fun e w' => e = .returned (.bool true) ∧ Below w.heap.size w w' := by
  have hln := hA.1
  have HA := hide hA
  have HB := hide hB
  clear hA hB
  go_enter Try.func19, Try.ntmps19
  go_wp2
  go_loopw [5] (fun i wr => ∃ k : Nat, k ≤ n ∧ i = .int .i64 k ∧ Below w.heap.size w wr) (fun i _ => n - (intOf i).toNat)
  case atStart => exact ⟨0, by omega, rfl, Below.refl _ _⟩
  case round =>
    obtain ⟨k, hk, rfl, hR⟩ := hrel
    by_cases hlt : k < n
    · have hlt1 : (k : Int) < (n : Int) := by omega
      obtain ⟨b1, o1, h1a, h1⟩ := Ls.row (unhide HA) (w' := wr) (by omega)
      obtain ⟨b2, o2, h2a, h2⟩ := Ls.row (unhide HB) (w' := wr) (by omega)
      subst h1a h2a
      obtain ⟨r, hr⟩ : ∃ r, x[k]? = some r := ⟨_, List.getElem?_eq_getElem (by omega)⟩
      have c0 := (h1 hR k r hr).zero
      have d0 := (h2 hR k r hr).zero
      rw [Nat.mul_one] at c0 d0
      have HR := hide hR
      clear h1 h2 hr hR
      go_wp2
      go_quiet (fail)
      go_wp2
      go_roundw
      case rel => exact ⟨k + 1, by omega, by go_num, below_drewN (unhide HR) _⟩
      case measure => simp [intOf]; omega
    · obtain rfl : k = n := by omega
      have HR := hide hR
      clear hR
      go_wp2
      go_ret
      exact ⟨rfl, unhide HR⟩
set_option maxHeartbeats 1600000 in
theorem rlive_any (w : World) (s : Sl) (rs : List ObR) (h : HIn w s rs) (hn : rs.length ≤ 5000) :
    Calls Try.prog 21 #[s.v] w fun e w' => ∃ v, e = .returned v ∧ Orw i15 3 1 w' w.heap.size v (liveH (rs.map ObR.o)) ∧ Below w.heap.size w w' := by
  obtain ⟨a, n, c⟩ := s
  have hln := h.ls.1
  simp only at hln
  have HI := hide h
  have HE : Hid (liveFrom 0 ((rs.map ObR.o).take n) = liveH (rs.map ObR.o)) := hide (by rw [List.take_of_length_le]; rfl; rw [List.length_map]; omega)
  have HN : Hid (∀ k, (liveFrom 0 ((rs.map ObR.o).take k)).length ≤ 5000) := hide fun k => by
    have h1 := liveFrom_len ((rs.map ObR.o).take k) 0
    rw [List.length_take, List.length_map] at h1
    omega
  clear h
  unfold Sl.v at *
  simp only
  go_enter Try.func21, Try.ntmps21
  go_wp2
  go_loopw [3, 4] (fun m i wr => ∃ k : Nat, k ≤ n ∧ i = .int .i64 k ∧ Orw i15 3 1 wr w.heap.size m (liveFrom 0 ((rs.map ObR.o).take k)) ∧ Below w.heap.size w wr) (fun m i _ => n - (intOf i).toNat)
  case atStart => exact ⟨0, by omega, rfl, Orw.made _ _ _ w _ (Nat.le_refl _), (Below.refl _ _).alloc (Nat.le_refl _) _⟩
  case round =>
    obtain ⟨k, hk, rfl, hO, hR⟩ := hrel
    by_cases hlt : k < n
    · have hlt1 : (k : Int) < (n : Int) := by omega
      have hk0 : (0 : Int) ≤ (k : Int) := by omega
      obtain ⟨x, hx⟩ : ∃ x, rs[k]? = some x := ⟨_, List.getElem?_eq_getElem (by omega)⟩
      obtain ⟨b, o, ea, q⟩ := memb_row (unhide HI) hx
      simp only at ea
      subst ea
      have q1 := q hR
      obtain ⟨ty, ⟨sa, sn, sc⟩, ws⟩ := x
      have d0 := q1.zero
      have d1 := q1 1 _ rfl
      have hty := ty_nil ty
      have hs := live_take hx
      have HR := hide hR
      have HO := hide hO
      have hw1 : IntKind.i64.wrap ((k : Int) + 1) = (k : Int) + 1 := by rw [IntKind.wrap_i64]; omega
      obtain ⟨xs, hxs⟩ : ∃ xs, xs = liveFrom 0 ((rs.map ObR.o).take k) := ⟨_, rfl⟩
      have hlen := unhide HN k
      rw [← hxs] at hs HO hlen
      simp only at hs
      have HS := hide hs
      have HL := hide hlen
      clear q q1 hx hR hO hs hxs hlen
      simp only [Sl.v] at d0 d1
      generalize hst : (⟨ty.toArray⟩ : ByteArray) = st at *
      have HO2 := HO
      have HF2 := HR
      clear HO HR
      cases ht : ty.isEmpty with
      | true =>
        have HS1 := unhide HS
        rw [ht, if_pos rfl, List.append_nil] at HS1
        have HS1 := hide HS1
        clear HS
        rw [ht] at hty
        have hty2 : st.toList = [] := by simpa using hty
        go_wp2
        go_roundw
        case rel => exact ⟨k + 1, by omega, by go_num, by rw [unhide HS1]; exact unhide HO2, unhide HF2⟩
        case measure => simp [intOf]; omega
      | false =>
        have HS1 := unhide HS
        rw [ht, if_neg (by decide)] at HS1
        have HS1 := hide HS1
        rw [ht] at hty
        have hty2 : ¬ st.toList = [] := by simpa using hty
        have HO3 := hide (orw_on (unhide HO2) ((Below.refl wr.heap.size wr).alloc (Nat.le_refl _) (.cells #[.int .i64 ((k : Int) + 1)] 3)))
        have HL3 : Hid (Ls 1 i15 (wr.alloc (.cells #[.int .i64 ((k : Int) + 1)] 3)) (some ⟨wr.heap.size, 0, none⟩) 1 [(k : Int) + 1]) := ls_one wr _ _ _ rfl
        have hb3 := ((unhide HF2).trans (((Below.refl wr.heap.size wr).alloc (Nat.le_refl _) (.cells #[.int .i64 ((k : Int) + 1)] 3)).mono (unhide HF2).size))
        have HB3 := hide hb3
        have hln1 : (xs.length + 1) * 8 ≤ 140737488355328 := by have := unhide HL; omega
        have hln2 : xs.length + 1 ≤ 140737488355328 := by have := unhide HL; omega
        have HLN1 := hide hln1
        have HLN2 := hide hln2
        clear hb3 hln1 hln2 HS
        go_wp2_with (at_builtin; refine listR_append rkI15 rfl _ _ rfl w.heap.size _ _ rfl (unhide HO3) _ 1 1 [_] rfl (unhide HL3) (fun e => by cases e) (unhide HLN1) (unhide HLN2) (unhide HB3).size ?_)
        intro v' w5 o4 g4
        have F5 := hide (grown_below (unhide HB3) (unhide HO3) g4)
        have HO4 := hide o4
        clear o4 g4 HO3 HL3 HB3 HLN1 HLN2 HO2 HF2
        go_wp2
        go_roundw
        case rel => exact ⟨k + 1, by omega, by go_num, by rw [unhide HS1]; exact unhide HO4, unhide F5⟩
        case measure => simp [intOf]; omega
    · obtain rfl : k = n := by omega
      have HR := hide hR
      have HO := hide hO
      clear hR hO
      go_wp2
      go_ret
      exact ⟨_, rfl, by rw [← unhide HE]; exact unhide HO, unhide HR⟩
end Go.Proofs.Ytgiohebbmjgefaa
