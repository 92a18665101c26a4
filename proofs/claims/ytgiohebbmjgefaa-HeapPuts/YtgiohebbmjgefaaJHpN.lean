/- Layer 15: values and objects held against one another; light. -/
import Derived.Test.YtgiohebbmjgefaaJHpI
import Derived.Test.YtgiohebbmjgefaaJH3

namespace Go.Proofs.Ytgiohebbmjgefaa
open Go.RowKit
set_option linter.unusedVariables false
set_option maxRecDepth 100000

theorem Vl.eq_iff (x y : Vl) : x = y ↔ x.kind = y.kind ∧ x.n = y.n := by
  obtain ⟨a, b⟩ := x
  obtain ⟨c, d⟩ := y
  simp
theorem val_cmp (w : World) (x y : Vl) :
    (binOp .eql 33 (.agg #[.int .i64 x.kind, .int .i64 x.n]) (.agg #[.int .i64 y.kind, .int .i64 y.n])).run Try.prog w = .ok (.bool (decide (x = y))) w := by
  rw [run_eql_struct]
  go_simp
  have e := Vl.eq_iff x y
  repeat' split
  all_goals
    congr 2
    simp_all
theorem val_cmpN (w : World) (x y : Vl) :
    (binOp .neq 33 (.agg #[.int .i64 x.kind, .int .i64 x.n]) (.agg #[.int .i64 y.kind, .int .i64 y.n])).run Try.prog w = .ok (.bool (!decide (x = y))) w := by
  rw [run_neq_struct]
  have h := val_cmp w x y
  rw [run_eql_struct] at h
  cases hq : (Op.equalIn 10000 33 (.agg #[.int .i64 x.kind, .int .i64 x.n]) (.agg #[.int .i64 y.kind, .int .i64 y.n])).run Try.prog w with
  | ok b w' =>
    rw [hq] at h
    simp only [Result.andThen_ok, Result.ok.injEq, Value.bool.injEq] at h
    obtain ⟨h1, h2⟩ := h
    subst h1 h2
    rfl
  | _ => rw [hq] at h; cases h
set_option maxHeartbeats 1600000 in
theorem SameValues_same (w : World) (s t : Sl) (l : List Vl) (hA : WsIn w s l) (hB : WsIn w t l) :
    Calls Try.prog 40 #[s.v, t.v] w fun e w' => e = .returned (.bool true) ∧ Below w.heap.size w w' := by
  obtain ⟨a, n, c⟩ := s
  obtain ⟨b, m, d⟩ := t
  have hs := hA.small
  have hln := hA.ls.1
  have hlm := hB.ls.1
  simp only at hln hlm hs
  obtain rfl : n = m := by omega
  have hs1 : n ≤ 140737488351232 := by omega
  unfold Sl.v
  simp only
  have HA := hide hA.ls
  have HB := hide hB.ls
  clear hA hB hs
  go_enter Try.func40, Try.ntmps40
  go_wp2
  go_loopw [5] (fun i wr => ∃ k : Nat, k ≤ n ∧ i = .int .i64 k ∧ Below w.heap.size w wr) (fun i _ => n - (intOf i).toNat)
  case atStart => exact ⟨0, by omega, rfl, Below.refl _ _⟩
  case round =>
    obtain ⟨k, hk, rfl, hR⟩ := hrel
    by_cases hlt : k < n
    · have hlt1 : (k : Int) < (n : Int) := by omega
      obtain ⟨b1, o1, h1a, h1⟩ := Ls.row (unhide HA) (w' := w) (by show n ≠ 0; omega)
      obtain ⟨b2, o2, h2a, h2⟩ := Ls.row (unhide HB) (w' := w) (by show n ≠ 0; omega)
      subst h1a h2a
      obtain ⟨r, hr⟩ : ∃ r, l[k]? = some r := ⟨_, List.getElem?_eq_getElem (by omega)⟩
      have q1 := h1 hR k r hr
      have q2 := h2 hR k r hr
      have c0 := q1.zero
      have c1 := q1 1 _ rfl
      have d0 := q2.zero
      have d1 := q2 1 _ rfl
      have JN : ∀ W, (binOp .neq 33 (.agg #[.int .i64 r.kind, .int .i64 r.n]) (.agg #[.int .i64 r.kind, .int .i64 r.n])).run Try.prog W = .ok (.bool false) W := fun W => by have := val_cmpN W r r; rw [decide_eq_true rfl] at this; exact this
      clear q1 q2
      have HR := hide hR
      clear h1 h2 hr hR
      go_wp2
      go_quiet (fail)
      go_wp2
      go_roundw
      case rel => exact ⟨k + 1, by omega, by go_num, below_drewN (unhide HR) _⟩
      case measure => simp [intOf]; omega
    · obtain rfl : k = n := by omega
      have HR := hide hR
      clear hR
      go_wp2
      go_ret
      exact ⟨rfl, unhide HR⟩
set_option maxHeartbeats 1600000 in
theorem SameObjects_same (w : World) (s t : Sl) (l m : List ObR) (hA : HIn w s l) (hB : HIn w t m) (hsame : l.map ObR.o = m.map ObR.o) :
    Calls Try.prog 22 #[s.v, t.v] w fun e w' => e = .returned (.bool true) ∧ Below w.heap.size w w' := by
  obtain ⟨a, n, c⟩ := s
  obtain ⟨b, n2, d⟩ := t
  have hs := hA.small
  have hln := hA.ls.1
  have hlm := hB.ls.1
  have hlen : l.length = m.length := by simpa using congrArg List.length hsame
  simp only at hln hlm hs
  obtain rfl : n = n2 := by omega
  have hs1 : n ≤ 140737488351232 := by omega
  unfold Sl.v
  simp only
  have HA := hide hA
  have HB := hide hB
  have HS := hide hsame
  clear hA hB hs hsame
  go_enter Try.func22, Try.ntmps22
  go_wp2
  go_loopw [5] (fun i wr => ∃ k : Nat, k ≤ n ∧ i = .int .i64 k ∧ Below w.heap.size w wr) (fun i _ => n - (intOf i).toNat)
  case atStart => exact ⟨0, by omega, rfl, Below.refl _ _⟩
  case round =>
    obtain ⟨k, hk, rfl, hR⟩ := hrel
    by_cases hlt : k < n
    · have hlt1 : (k : Int) < (n : Int) := by omega
      have hk0 : (0 : Int) ≤ (k : Int) := by omega
      obtain ⟨x, hx⟩ : ∃ x, l[k]? = some x := ⟨_, List.getElem?_eq_getElem (by omega)⟩
      obtain ⟨y, hy⟩ : ∃ y, m[k]? = some y := ⟨_, List.getElem?_eq_getElem (by omega)⟩
      have hxy : x.o = y.o := by
        have h1 := map_get (f := ObR.o) hx
        have h2 := map_get (f := ObR.o) hy
        rw [unhide HS, h2] at h1
        injection h1 with h1
        exact h1.symm
      obtain ⟨b1, o1, h1a, h1⟩ := memb_row (unhide HA) hx
      obtain ⟨b2, o2, h2a, h2⟩ := memb_row (unhide HB) hy
      simp only at h1a h2a
      subst h1a h2a
      have hwx := (unhide HA).each _ (List.mem_of_getElem? hx)
      have hwy := (unhide HB).each _ (List.mem_of_getElem? hy)
      have KC : Hid (∀ W, Below w.heap.size w W → RowAt W b1 (o1 + k * 2) (obc x) ∧ RowAt W b2 (o2 + k * 2) (obc y)) := fun W f => ⟨h1 f, h2 f⟩
      obtain ⟨ty, ⟨xa, xn, xc⟩, ws⟩ := x
      obtain ⟨ty2, ⟨ya, yn, yc⟩, ws2⟩ := y
      simp only [ObR.o, Ob.mk.injEq] at hxy
      obtain ⟨rfl, rfl⟩ := hxy
      have XT : Hid (∀ W, Below w.heap.size w W → Calls Try.prog 40 #[.slice xa xn xc, .slice ya yn yc] W fun e w' => e = .returned (.bool true) ∧ Below w.heap.size w w') := fun W f => Calls.mono (SameValues_same W ⟨xa, xn, xc⟩ ⟨ya, yn, yc⟩ ws (hwx.below f) (hwy.below f)) (by rintro e w' ⟨rfl, f2⟩; exact ⟨rfl, f.trans (f2.mono f.size)⟩)
      have KD : Hid (∀ W, Below w.heap.size w W → W.cell? ⟨b1, o1 + k * 2, none⟩ = some (.string ⟨ty.toArray⟩) ∧ W.cell? ⟨b1, o1 + k * 2 + 1, none⟩ = some (.slice xa xn xc) ∧ W.cell? ⟨b2, o2 + k * 2, none⟩ = some (.string ⟨ty.toArray⟩) ∧ W.cell? ⟨b2, o2 + k * 2 + 1, none⟩ = some (.slice ya yn yc)) := fun W f => ⟨((unhide KC) W f).1.zero, ((unhide KC) W f).1 1 _ rfl, ((unhide KC) W f).2.zero, ((unhide KC) W f).2 1 _ rfl⟩
      have HR := hide hR
      clear h1 h2 hx hy hR hwx hwy KC
      generalize (⟨ty.toArray⟩ : ByteArray) = st at *
      go_wp2
      refine wp_region_seq (fun W => Below w.heap.size w W) (by kernel_rfl) (by kernel_rfl) ((unhide HR).drew) ?_
      repeat (first
        | (refine SeqDo.skips (by rfl) ?_; simp only [Act.put, List.setIfInBounds_toArray, List.set_cons_zero, List.set_cons_succ])
        | (refine SeqDo.yields (v := ?_) (by rfl) ?_ ?_; rotate_left; (focus ((intro W hSW; obtain ⟨c0, c1, d0, d1⟩ := unhide KD W hSW; go_simp) <;> with_reducible rfl)); simp only [Act.put, List.setIfInBounds_toArray, List.set_cons_zero, List.set_cons_succ])
        | (refine SeqDo.does (v := .bool true) (by rfl) (fun W hSW KK hKK => ?_) ?_; (focus (go_simp; go_wp2_with (go_at_call 40; refine (unhide XT _ hSW).mono ?_; rintro e W' ⟨rfl, fJ⟩); exact hKK.out _ fJ)); simp only [Act.put, List.setIfInBounds_toArray, List.set_cons_zero, List.set_cons_succ]))
      intro W hSW
      have HR2 := hide hSW
      clear hSW XT KD HR
      go_wp2
      go_roundw
      case rel => exact ⟨k + 1, by omega, by go_num, unhide HR2⟩
      case measure => simp [intOf]; omega
    · obtain rfl : k = n := by omega
      have HR := hide hR
      clear hR
      go_wp2
      go_ret
      exact ⟨rfl, unhide HR⟩
set_option maxHeartbeats 1600000 in
theorem heapWords_any (w : World) (s : Sl) (rs : List ObR) (h : HIn w s rs) (hn : rs.length ≤ 5000) :
    Calls Try.prog 32 #[s.v] w fun e w' => (∃ N : Nat, e = .returned (.int .i64 N) ∧ (N ≤ 70000 → wordsH (rs.map ObR.o) = N) ∧ (70000 < N → 70000 < wordsH (rs.map ObR.o))) ∧ Below w.heap.size w w' := by
  obtain ⟨a, n, c⟩ := s
  have hln := h.ls.1
  simp only at hln
  have HI := hide h
  have HZ : Hid (wordsH ((rs.map ObR.o).take 0) = 0) := hide rfl
  have HE : Hid (wordsH ((rs.map ObR.o).take n) = wordsH (rs.map ObR.o)) := hide (by rw [List.take_of_length_le]; rw [List.length_map]; omega)
  have HT := hide (wordsH_take (rs.map ObR.o))
  have HW := hide (words_few h hn)
  clear h
  unfold Sl.v at *
  simp only
  go_enter Try.func32, Try.ntmps32
  go_wp2
  go_loopw [3, 4] (fun m i wr => ∃ k : Nat, k ≤ n ∧ m = .int .i64 (wordsH ((rs.map ObR.o).take k) : Nat) ∧ i = .int .i64 k ∧ Below w.heap.size w wr) (fun m i _ => n - (intOf i).toNat)
  case atStart => exact ⟨0, by omega, by rw [unhide HZ]; rfl, rfl, Below.refl _ _⟩
  case round =>
    obtain ⟨k, hk, rfl, rfl, hR⟩ := hrel
    by_cases hlt : k < n
    · have hlt1 : (k : Int) < (n : Int) := by omega
      have hk0 : (0 : Int) ≤ (k : Int) := by omega
      obtain ⟨x, hx⟩ : ∃ x, rs[k]? = some x := ⟨_, List.getElem?_eq_getElem (by omega)⟩
      obtain ⟨b, o, ea, q⟩ := memb_row (unhide HI) hx
      simp only at ea
      subst ea
      have q1 := q hR
      have hwl := ((unhide HI).each _ (List.mem_of_getElem? hx)).ls.1
      have d1 := q1 1 _ rfl
      have hs := wordsH_succ (map_get (f := ObR.o) hx)
      have hw1 := unhide HW (k + 1)
      obtain ⟨ty, ⟨sa, sn, sc⟩, ws⟩ := x
      simp only [ObR.o, Sl.v] at hs d1 hwl
      have HR := hide hR
      have hall := unhide HT k
      generalize hS : wordsH ((rs.map ObR.o).take k) = S at *
      have hwr : IntKind.i64.wrap ((S : Int) + (sn : Int)) = (S : Int) + sn := by rw [IntKind.wrap_i64]; omega
      have HS := hide (show wordsH ((rs.map ObR.o).take (k + 1)) = S + sn by rw [hs, hwl])
      have HAll := hide hall
      clear q q1 hx hR hs hw1 hwl hS hall
      by_cases h8 : S < 80000
      · have h81 : (S : Int) < 80000 := by omega
        go_wp2
        go_roundw
        case rel => exact ⟨k + 1, by omega, by rw [unhide HS]; simp, by go_num, unhide HR⟩
        case measure => simp [intOf]; omega
      · have h81 : ¬ (S : Int) < 80000 := by omega
        go_wp2
        go_ret
        have := unhide HAll
        exact ⟨⟨S, rfl, fun h => by omega, fun h => by omega⟩, unhide HR⟩
    · obtain rfl : k = n := by omega
      have HR := hide hR
      clear hR
      go_wp2
      go_ret
      refine ⟨⟨_, rfl, fun _ => (unhide HE).symm, fun h => by rw [unhide HE] at h; exact h⟩, unhide HR⟩
def lightB (l : List Ob) : Bool := decide (l.length ≤ 5000) && decide (wordsH l ≤ 70000)
set_option maxHeartbeats 1600000 in
theorem light_any (w : World) (s : Sl) (rs : List ObR) (h : HIn w s rs) :
    Calls Try.prog 9 #[s.v] w fun e w' => e = .returned (.bool (lightB (rs.map ObR.o))) ∧ Below w.heap.size w w' := by
  obtain ⟨a, n, c⟩ := s
  have hln := h.ls.1
  simp only at hln
  by_cases h5 : n ≤ 5000
  · have HC := hide (heapWords_any w ⟨a, n, c⟩ rs h (by omega))
    have hL : lightB (rs.map ObR.o) = decide (wordsH (rs.map ObR.o) ≤ 70000) := by
      unfold lightB
      rw [List.length_map, hln, decide_eq_true h5, Bool.true_and]
    rw [hL]
    clear h hL
    have h51 : (n : Int) ≤ 5000 := by omega
    generalize wordsH (rs.map ObR.o) = S at *
    unfold Sl.v at *
    simp only at HC ⊢
    go_enter Try.func9, Try.ntmps9
    go_wp2_with fail
    refine (unhide HC).mono ?_
    rintro e w1 ⟨⟨N, rfl, h1, h2⟩, f1⟩
    have F1 := hide f1
    have hdec : decide (S ≤ 70000) = decide (N ≤ 70000) := by
      by_cases hN : N ≤ 70000
      · rw [h1 hN]
      · rw [decide_eq_false hN, decide_eq_false (by have := h2 (by omega); omega)]
    have HD := hide hdec
    clear f1 h1 h2 hdec
    go_wp2
    go_ret
    refine ⟨?_, unhide F1⟩
    rw [unhide HD]
    by_cases hN : N ≤ 70000
    · simp [hN]
      omega
    · simp [hN]
      omega
  · have hL : lightB (rs.map ObR.o) = false := by
      unfold lightB
      rw [List.length_map, hln, decide_eq_false h5, Bool.false_and]
    rw [hL]
    clear h hL
    have h51 : ¬ (n : Int) ≤ 5000 := by omega
    unfold Sl.v at *
    simp only
    go_enter Try.func9, Try.ntmps9
    go_wp2
    go_ret
    exact ⟨rfl, Below.refl _ _⟩
end Go.Proofs.Ytgiohebbmjgefaa
