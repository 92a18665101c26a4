/- Layer 15, the landed code: endsFree, first (written by mk/mkhpc.py). -/
import Derived.Test.YtgiohebbmjgefaaJHpB

namespace Go.Proofs.Ytgiohebbmjgefaa
open Go.RowKit
set_option linter.unusedVariables false
set_option maxRecDepth 100000

theorem map_get {α β : Type} {f : α → β} {l : List α} {k : Nat} {x : α} (h : l[k]? = some x) : (l.map f)[k]? = some (f x) := by rw [List.getElem?_map, h]; rfl
theorem ends_at {rs : List ObR} {r : ObR} (h : rs[rs.length - 1]? = some r) : endsH (rs.map ObR.o) = r.ty.isEmpty := by
  unfold endsH
  rw [List.getLast?_eq_getElem?, List.length_map, map_get h]
  rfl
theorem ends_nil {rs : List ObR} (h : rs.length = 0) : endsH (rs.map ObR.o) = false := by
  rw [List.eq_nil_of_length_eq_zero h]
  rfl
set_option maxHeartbeats 800000 in
theorem endsFree_any (w : World) (s : Sl) (rs : List ObR) (h : HIn w s rs) :
    Calls Try.prog 33 #[s.v] w fun e w' => e = .returned (.bool (endsH (rs.map ObR.o))) ∧ Below w.heap.size w w' := by
  obtain ⟨a, n, c⟩ := s
  have hln := h.ls.1
  have hsm := h.small
  simp only at hln hsm
  have HM := hide (memberO_any w ⟨a, n, c⟩ rs h ((n : Int) - 1) (by unfold fitI; omega))
  have HF := hide (fun W t s => isFree_any W t s)
  have hE0 : n = 0 → endsH (rs.map ObR.o) = false := fun e => ends_nil (by omega)
  have hE1 : ∀ r, rs[n - 1]? = some r → endsH (rs.map ObR.o) = r.ty.isEmpty := fun r hr => ends_at (by rw [hln]; exact hr)
  generalize endsH (rs.map ObR.o) = E at *
  have HE0 := hide hE0
  have HE1 := hide hE1
  clear h hE0 hE1
  have hwrap : IntKind.i64.wrap ((n : Int) - 1) = (n : Int) - 1 := by rw [IntKind.wrap_i64]; omega
  unfold Sl.v at *
  simp only at HM ⊢
  go_enter Try.func33, Try.ntmps33
  go_wp2_with fail
  refine (unhide HM).mono ?_
  rintro e w1 ⟨f1, ⟨h0, h1, r, hr, rfl⟩ | ⟨hno, rfl⟩⟩
  · obtain ⟨ty, ⟨sa, sn, sc⟩, ws⟩ := r
    have hj : ((n : Int) - 1).toNat = n - 1 := by omega
    rw [hj] at hr
    have HT := hide (unhide HE1 _ hr)
    simp only at HT
    have HC := fun W => unhide HF W ty ⟨sa, sn, sc⟩
    have HC := hide HC
    have FB := hide f1
    clear f1 hr HM HF HE0 HE1
    unfold Sl.v at *
    simp only at HC
    generalize (⟨ty.toArray⟩ : ByteArray) = st at *
    go_wp2_with fail
    refine (unhide HC _).mono ?_
    rintro e w2 ⟨rfl, f2⟩
    have F2 := hide ((unhide FB).trans ((((Below.refl _ _).alloc (Nat.le_refl _) _).trans (f2.mono (by simp))).mono (unhide FB).size))
    clear f2
    go_wp2
    go_ret
    exact ⟨by rw [unhide HT]; rfl, unhide F2⟩
  · have hn0 : n = 0 := by omega
    have HE := hide (unhide HE0 hn0)
    have FB := hide f1
    clear f1 HM HF HE0 HE1 hno
    go_wp2
    go_ret
    exact ⟨by rw [unhide HE]; rfl, (unhide FB).trans (((Below.refl _ _).alloc (Nat.le_refl _) _).mono (unhide FB).size)⟩
set_option maxHeartbeats 800000 in
theorem firstF_any (w : World) (s : Sl) (rs : List ObR) (h : HIn w s rs) :
    Calls Try.prog 34 #[s.v, .func (.func 39) #[] #[]] w fun e w' => e = .returned (.int .i64 (firstH freeO (rs.map ObR.o) : Nat)) ∧ Below w.heap.size w w' := by
  obtain ⟨a, n, c⟩ := s
  have hln := h.ls.1
  have hsm := h.small
  simp only at hln hsm
  have HI := hide h
  have HF := hide (fun W t s => isFree_any W t s)
  have HK : Hid (∀ k r, rs[k]? = some r → freeO r.o = true → (∀ j r', j < k → rs[j]? = some r' → freeO r'.o = false) → firstH freeO (rs.map ObR.o) = k) := hide fun k r hr hp hf => by
    have hk := (List.getElem?_eq_some_iff.1 hr).1
    unfold firstH
    rw [List.findIdx_eq (by rw [List.length_map]; exact hk)]
    refine ⟨by rw [List.getElem_map, (List.getElem?_eq_some_iff.1 hr).2]; exact hp, fun j hj => ?_⟩
    rw [List.getElem_map]
    exact hf j _ hj (List.getElem?_eq_getElem (by omega))
  have HN : Hid ((∀ j r', j < n → rs[j]? = some r' → freeO r'.o = false) → firstH freeO (rs.map ObR.o) = n) := hide fun hf => by
    unfold firstH
    rw [← hln, ← List.length_map (f := ObR.o), List.findIdx_eq_length]
    intro x hx
    obtain ⟨r, hr, rfl⟩ := List.mem_map.1 hx
    obtain ⟨j, hj⟩ := List.mem_iff_getElem?.1 hr
    exact hf j r (by have := (List.getElem?_eq_some_iff.1 hj).1; omega) hj
  generalize firstH freeO (rs.map ObR.o) = E at *
  clear h
  unfold Sl.v at *
  simp only
  go_enter Try.func34, Try.ntmps34
  go_wp2
  go_loopw [9] (fun i wr => ∃ k : Nat, k ≤ n ∧ i = .int .i64 k ∧ Below w.heap.size w wr ∧ ∀ j r', j < k → rs[j]? = some r' → freeO r'.o = false) (fun i _ => n - (intOf i).toNat)
  case atStart => exact ⟨0, by omega, rfl, Below.refl _ _, fun j r' hj => absurd hj (by omega)⟩
  case round =>
    obtain ⟨k, hk, rfl, hR, hF⟩ := hrel
    by_cases hlt : k < n
    · have hlt1 : (k : Int) < (n : Int) := by omega
      have hk0 : (0 : Int) ≤ (k : Int) := by omega
      obtain ⟨x, hx⟩ : ∃ x, rs[k]? = some x := ⟨_, List.getElem?_eq_getElem (by omega)⟩
      obtain ⟨b, o, ea, q⟩ := memb_row (unhide HI) hx
      simp only at ea
      subst ea
      have q1 := q hR
      obtain ⟨ty, ⟨sa, sn, sc⟩, ws⟩ := x
      have d0 := q1.zero
      have d1 := q1 1 _ rfl
      have HC := fun W => unhide HF W ty ⟨sa, sn, sc⟩
      have HC := hide HC
      have HR := hide hR
      have HX := hide hx
      have HG := hide hF
      skip
      clear q q1 hx hR hF HF
      unfold Sl.v at *
      simp only at HC d0 d1
      have HK1 := hide (unhide HK k _ (unhide HX))
      simp only [ObR.o] at HK1
      generalize hst : (⟨ty.toArray⟩ : ByteArray) = st at *
      go_wp2_with fail
      refine (unhide HC _).mono ?_
      rintro e w2 ⟨rfl, f2⟩
      have F2 := hide ((unhide HR).trans ((((Below.refl _ _).alloc (Nat.le_refl _) _).trans (f2.mono (by simp))).mono (unhide HR).size))
      clear f2
      cases ht : ty.isEmpty
      · go_wp2
        go_roundw
        case rel =>
          refine ⟨k + 1, by omega, by go_num, unhide F2, fun j r' hj hr' => ?_⟩
          by_cases hjk : j < k
          · exact unhide HG j r' hjk hr'
          · obtain rfl : j = k := by omega
            rw [unhide HX] at hr'
            injection hr' with hr'
            subst hr'
            exact ht
        case measure => simp [intOf]; omega
      · go_wp2
        go_ret
        refine ⟨?_, unhide F2⟩
        have hp : freeO (ObR.o ⟨ty, ⟨sa, sn, sc⟩, ws⟩) = true := by
          exact ht
        rw [unhide HK1 hp (unhide HG)]
        rfl
    · obtain rfl : k = n := by omega
      have HR := hide hR
      have HE := hide (unhide HN hF)
      clear hR hF
      go_wp2
      go_ret
      exact ⟨by rw [unhide HE]; rfl, unhide HR⟩
set_option maxHeartbeats 800000 in
theorem firstW_any (w : World) (s : Sl) (rs : List ObR) (h : HIn w s rs) :
    Calls Try.prog 34 #[s.v, .func (.func 35) #[] #[]] w fun e w' => e = .returned (.int .i64 (firstH freeW (rs.map ObR.o) : Nat)) ∧ Below w.heap.size w w' := by
  obtain ⟨a, n, c⟩ := s
  have hln := h.ls.1
  have hsm := h.small
  simp only at hln hsm
  have HI := hide h
  have HF := hide (fun W t s => isFreeW_any W t s)
  have HK : Hid (∀ k r, rs[k]? = some r → freeW r.o = true → (∀ j r', j < k → rs[j]? = some r' → freeW r'.o = false) → firstH freeW (rs.map ObR.o) = k) := hide fun k r hr hp hf => by
    have hk := (List.getElem?_eq_some_iff.1 hr).1
    unfold firstH
    rw [List.findIdx_eq (by rw [List.length_map]; exact hk)]
    refine ⟨by rw [List.getElem_map, (List.getElem?_eq_some_iff.1 hr).2]; exact hp, fun j hj => ?_⟩
    rw [List.getElem_map]
    exact hf j _ hj (List.getElem?_eq_getElem (by omega))
  have HN : Hid ((∀ j r', j < n → rs[j]? = some r' → freeW r'.o = false) → firstH freeW (rs.map ObR.o) = n) := hide fun hf => by
    unfold firstH
    rw [← hln, ← List.length_map (f := ObR.o), List.findIdx_eq_length]
    intro x hx
    obtain ⟨r, hr, rfl⟩ := List.mem_map.1 hx
    obtain ⟨j, hj⟩ := List.mem_iff_getElem?.1 hr
    exact hf j r (by have := (List.getElem?_eq_some_iff.1 hj).1; omega) hj
  generalize firstH freeW (rs.map ObR.o) = E at *
  clear h
  unfold Sl.v at *
  simp only
  go_enter Try.func34, Try.ntmps34
  go_wp2
  go_loopw [9] (fun i wr => ∃ k : Nat, k ≤ n ∧ i = .int .i64 k ∧ Below w.heap.size w wr ∧ ∀ j r', j < k → rs[j]? = some r' → freeW r'.o = false) (fun i _ => n - (intOf i).toNat)
  case atStart => exact ⟨0, by omega, rfl, Below.refl _ _, fun j r' hj => absurd hj (by omega)⟩
  case round =>
    obtain ⟨k, hk, rfl, hR, hF⟩ := hrel
    by_cases hlt : k < n
    · have hlt1 : (k : Int) < (n : Int) := by omega
      have hk0 : (0 : Int) ≤ (k : Int) := by omega
      obtain ⟨x, hx⟩ : ∃ x, rs[k]? = some x := ⟨_, List.getElem?_eq_getElem (by omega)⟩
      obtain ⟨b, o, ea, q⟩ := memb_row (unhide HI) hx
      simp only at ea
      subst ea
      have q1 := q hR
      obtain ⟨ty, ⟨sa, sn, sc⟩, ws⟩ := x
      have d0 := q1.zero
      have d1 := q1 1 _ rfl
      have HC := fun W => unhide HF W ty ⟨sa, sn, sc⟩
      have HC := hide HC
      have HR := hide hR
      have HX := hide hx
      have HG := hide hF
      have hwl := (unhide HI).each _ (List.mem_of_getElem? hx) |>.ls.1
      clear q q1 hx hR hF HF
      unfold Sl.v at *
      simp only at HC d0 d1
      have HK1 := hide (unhide HK k _ (unhide HX))
      simp only [ObR.o] at HK1
      generalize hst : (⟨ty.toArray⟩ : ByteArray) = st at *
      go_wp2_with fail
      refine (unhide HC _).mono ?_
      rintro e w2 ⟨rfl, f2⟩
      have F2 := hide ((unhide HR).trans ((((Below.refl _ _).alloc (Nat.le_refl _) _).trans (f2.mono (by simp))).mono (unhide HR).size))
      clear f2
      cases ht : (ty.isEmpty && decide (0 < sn))
      · go_wp2
        go_roundw
        case rel =>
          refine ⟨k + 1, by omega, by go_num, unhide F2, fun j r' hj hr' => ?_⟩
          by_cases hjk : j < k
          · exact unhide HG j r' hjk hr'
          · obtain rfl : j = k := by omega
            rw [unhide HX] at hr'
            injection hr' with hr'
            subst hr'
            simpa [freeW, ObR.o, freeO, hwl] using ht
        case measure => simp [intOf]; omega
      · go_wp2
        go_ret
        refine ⟨?_, unhide F2⟩
        have hp : freeW (ObR.o ⟨ty, ⟨sa, sn, sc⟩, ws⟩) = true := by
          simpa [freeW, ObR.o, freeO, hwl] using ht
        rw [unhide HK1 hp (unhide HG)]
        rfl
    · obtain rfl : k = n := by omega
      have HR := hide hR
      have HE := hide (unhide HN hF)
      clear hR hF
      go_wp2
      go_ret
      exact ⟨by rw [unhide HE]; rfl, unhide HR⟩
end Go.Proofs.Ytgiohebbmjgefaa
