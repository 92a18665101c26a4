/- Layer 15, the landed code: Live. -/
import Derived.Test.YtgiohebbmjgefaaJHpF

namespace Go.Proofs.Ytgiohebbmjgefaa
open Go.RowKit
set_option linter.unusedVariables false
set_option maxRecDepth 100000

def i15 (n : Int) : List Value := [.int .i64 n]
theorem rkI15 : Rk i15 3 38 1 8 (.int .i64 0) := ⟨fun _ => rfl, fun x u hu => by simp [i15] at hu; subst hu; rfl, by decide, by kernel_rfl, rfl, Try.underlying38⟩
theorem liveFrom_len : ∀ (l : List Ob) (j : Nat), (liveFrom j l).length ≤ l.length
  | [], j => by simp [liveFrom]
  | o :: l, j => by
    have := liveFrom_len l (j + 1)
    unfold liveFrom
    split <;> simp <;> omega
theorem live_take {rs : List ObR} {k : Nat} {r : ObR} (h : rs[k]? = some r) : liveFrom 0 ((rs.map ObR.o).take (k + 1)) = liveFrom 0 ((rs.map ObR.o).take k) ++ (if r.ty.isEmpty = true then [] else [(k : Int) + 1]) := by
  rw [liveFrom_take _ 0 k _ (map_get (f := ObR.o) h)]
  rw [Nat.zero_add]
  rfl
set_option maxHeartbeats 1600000 in
theorem live_any (w : World) (s : Sl) (rs : List ObR) (h : HIn w s rs) (hn : rs.length ≤ 5000) :
    Calls Try.prog 20 #[s.v] w fun e w' => ∃ v, e = .returned v ∧ Orw i15 3 1 w' w.heap.size v (liveH (rs.map ObR.o)) ∧ Below w.heap.size w w' := by
  obtain ⟨a, n, c⟩ := s
  have hln := h.ls.1
  simp only at hln
  have HI := hide h
  have HE : Hid (liveFrom 0 ((rs.map ObR.o).take n) = liveH (rs.map ObR.o)) := hide (by rw [List.take_of_length_le]; rfl; rw [List.length_map]; omega)
  have HN : Hid (∀ k, (liveFrom 0 ((rs.map ObR.o).take k)).length ≤ 5000) := hide fun k => by
    have h1 := liveFrom_len ((rs.map ObR.o).take k) 0
    rw [List.length_take, List.length_map] at h1
    omega
  have HF := hide (fun W t s => isFree_any W t s)
  clear h
  unfold Sl.v at *
  simp only
  go_enter Try.func20, Try.ntmps20
  go_wp2
  go_loopw [3, 8] (fun m i wr => ∃ k : Nat, k ≤ n ∧ i = .int .i64 k ∧ Orw i15 3 1 wr w.heap.size m (liveFrom 0 ((rs.map ObR.o).take k)) ∧ Below w.heap.size w wr) (fun m i _ => n - (intOf i).toNat)
  case atStart => exact ⟨0, by omega, rfl, Orw.nil _ _ _ _ _, Below.refl _ _⟩
  case round =>
    obtain ⟨k, hk, rfl, hO, hR⟩ := hrel
    by_cases hlt : k < n
    · have hlt1 : (k : Int) < (n : Int) := by omega
      have hk0 : (0 : Int) ≤ (k : Int) := by omega
      obtain ⟨x, hx⟩ : ∃ x, rs[k]? = some x := ⟨_, List.getElem?_eq_getElem (by omega)⟩
      obtain ⟨b, o, ea, q⟩ := memb_row (unhide HI) hx
      simp only at ea
      subst ea
      have q1 := q hR
      obtain ⟨ty, ⟨sa, sn, sc⟩, ws⟩ := x
      have d0 := q1.zero
      have d1 := q1 1 _ rfl
      have HC := hide (fun W => unhide HF W ty ⟨sa, sn, sc⟩)
      have hs := live_take hx
      have HR := hide hR
      have HO := hide hO
      have hw1 : IntKind.i64.wrap ((k : Int) + 1) = (k : Int) + 1 := by rw [IntKind.wrap_i64]; omega
      obtain ⟨xs, hxs⟩ : ∃ xs, xs = liveFrom 0 ((rs.map ObR.o).take k) := ⟨_, rfl⟩
      have hlen := unhide HN k
      rw [← hxs] at hs HO hlen
      simp only at hs
      have HS := hide hs
      have HL := hide hlen
      clear q q1 hx hR hO hs hxs hlen
      simp only [Sl.v] at d0 d1 HC
      generalize hst : (⟨ty.toArray⟩ : ByteArray) = st at *
      go_wp2_with fail
      refine (unhide HC _).mono ?_
      rintro e w2 ⟨rfl, f2⟩
      have f2' : Below wr.heap.size wr w2 := ((Below.refl wr.heap.size wr).alloc (Nat.le_refl _) _).trans (f2.mono (by simp))
      have O2 := orw_on (unhide HO) f2'
      have F2 := (unhide HR).trans (f2'.mono (unhide HR).size)
      have HO2 := hide O2
      have HF2 := hide F2
      clear f2 f2' O2 F2 HO HR d0 d1
      cases ht : ty.isEmpty with
      | true =>
        have HS1 := unhide HS
        rw [ht, if_pos rfl, List.append_nil] at HS1
        have HS1 := hide HS1
        clear HS
        go_wp2
        go_roundw
        case rel => exact ⟨k + 1, by omega, by go_num, by rw [unhide HS1]; exact unhide HO2, unhide HF2⟩
        case measure => simp [intOf]; omega
      | false =>
        have HS1 := unhide HS
        rw [ht, if_neg (by decide)] at HS1
        have HS1 := hide HS1
        have HO3 := hide (orw_on (unhide HO2) ((Below.refl w2.heap.size w2).alloc (Nat.le_refl _) (.cells #[.int .i64 ((k : Int) + 1)] 3)))
        have HL3 : Hid (Ls 1 i15 (w2.alloc (.cells #[.int .i64 ((k : Int) + 1)] 3)) (some ⟨w2.heap.size, 0, none⟩) 1 [(k : Int) + 1]) := ls_one w2 _ _ _ rfl
        have hb3 := ((unhide HF2).trans (((Below.refl w2.heap.size w2).alloc (Nat.le_refl _) (.cells #[.int .i64 ((k : Int) + 1)] 3)).mono (unhide HF2).size))
        have HB3 := hide hb3
        have hln1 : (xs.length + 1) * 8 ≤ 140737488355328 := by have := unhide HL; omega
        have hln2 : xs.length + 1 ≤ 140737488355328 := by have := unhide HL; omega
        have HLN1 := hide hln1
        have HLN2 := hide hln2
        clear hb3 hln1 hln2 HS
        go_wp2_with (at_builtin; refine listR_append rkI15 rfl _ _ rfl w.heap.size _ _ rfl (unhide HO3) _ 1 1 [_] rfl (unhide HL3) (fun e => by cases e) (unhide HLN1) (unhide HLN2) (unhide HB3).size ?_)
        intro v' w5 o4 g4
        have F5 := hide (grown_below (unhide HB3) (unhide HO3) g4)
        have HO4 := hide o4
        clear o4 g4 HO3 HL3 HB3 HLN1 HLN2 HO2 HF2
        go_wp2
        go_roundw
        case rel => exact ⟨k + 1, by omega, by go_num, by rw [unhide HS1]; exact unhide HO4, unhide F5⟩
        case measure => simp [intOf]; omega
    · obtain rfl : k = n := by omega
      have HR := hide hR
      have HO := hide hO
      clear hR hO
      go_wp2
      go_ret
      exact ⟨_, rfl, by rw [← unhide HE]; exact unhide HO, unhide HR⟩
end Go.Proofs.Ytgiohebbmjgefaa
