/- Joined: HqB HpK HpM HqF. -/
import Derived.Test.YtnnanlniffjnkaaJY1
import Derived.Test.YtnnanlniffjnkaaJY2
import Derived.Test.YtnnanlniffjnkaaJX3
import Derived.Test.YtnnanlniffjnkaaJY0

/- Layer 15, the document's side: Words, Check. -/
namespace Go.Proofs.Ytnnanlniffjnkaa
open Go.RowKit
set_option linter.unusedVariables false
set_option maxRecDepth 100000

set_option maxHeartbeats 800000 in
theorem rwords_any (w : World) (s : Sl) (rs : List ObR) (h : HIn w s rs) (hn : rs.length ≤ 5000) :
    Calls Try.prog 41 #[s.v] w fun e w' => e = .returned (.int .i64 (wordsH (rs.map ObR.o) : Nat)) ∧ Below w.heap.size w w' := by
  obtain ⟨a, n, c⟩ := s
  have hln := h.ls.1
  simp only at hln
  have HI := hide h
  have HW := hide (words_few h hn)
  have HZ : Hid (wordsH ((rs.map ObR.o).take 0) = 0) := hide rfl
  have HE : Hid (wordsH ((rs.map ObR.o).take n) = wordsH (rs.map ObR.o)) := hide (by rw [List.take_of_length_le]; rw [List.length_map]; omega)
  clear h
  unfold Sl.v at *
  simp only
  go_enter Try.func41, Try.ntmps41
  go_wp2
  go_loopw [3, 4] (fun m i wr => ∃ k : Nat, k ≤ n ∧ m = .int .i64 (wordsH ((rs.map ObR.o).take k) : Nat) ∧ i = .int .i64 k ∧ Below w.heap.size w wr) (fun m i _ => n - (intOf i).toNat)
  case atStart => exact ⟨0, by omega, by rw [unhide HZ]; rfl, rfl, Below.refl _ _⟩
  case round =>
    obtain ⟨k, hk, rfl, rfl, hR⟩ := hrel
    by_cases hlt : k < n
    · have hlt1 : (k : Int) < (n : Int) := by omega
      have hk0 : (0 : Int) ≤ (k : Int) := by omega
      obtain ⟨x, hx⟩ : ∃ x, rs[k]? = some x := ⟨_, List.getElem?_eq_getElem (by omega)⟩
      obtain ⟨b, o, ea, q⟩ := memb_row (unhide HI) hx
      simp only at ea
      subst ea
      have q1 := q hR
      have hwl := ((unhide HI).each _ (List.mem_of_getElem? hx)).ls.1
      have d1 := q1 1 _ rfl
      have hs := wordsH_succ (map_get (f := ObR.o) hx)
      have hw1 := unhide HW (k + 1)
      obtain ⟨ty, ⟨sa, sn, sc⟩, ws⟩ := x
      simp only [ObR.o, Sl.v] at hs d1 hwl
      have HR := hide hR
      have HX := hide hx
      generalize hS : wordsH ((rs.map ObR.o).take k) = S at *
      have hwr : IntKind.i64.wrap ((S : Int) + (sn : Int)) = (S : Int) + sn := by rw [IntKind.wrap_i64]; omega
      have HS := hide (show wordsH ((rs.map ObR.o).take (k + 1)) = S + sn by rw [hs, hwl])
      clear q q1 hx hR hs hw1 hwl hS
      go_wp2
      go_roundw
      case rel => exact ⟨k + 1, by omega, by rw [unhide HS]; simp, by go_num, unhide HR⟩
      case measure => simp [intOf]; omega
    · obtain rfl : k = n := by omega
      have HR := hide hR
      clear hR
      go_wp2
      go_ret
      exact ⟨by rw [← unhide HE]; rfl, unhide HR⟩
set_option maxHeartbeats 3200000 in
theorem rcheck_any (w : World) (s : Sl) (rs : List ObR) (h : HIn w s rs) :
    Calls Try.prog 25 #[s.v] w fun e w' => e = .returned (.int .i64 (checkE (rs.map ObR.o))) ∧ Below w.heap.size w w' := by
  obtain ⟨a, n, c⟩ := s
  have hln := h.ls.1
  have hsm := h.small
  simp only at hln hsm
  have hC : checkH (rs.map ObR.o) = (decide (n ≤ 4096) && decide (wordsH (rs.map ObR.o) ≤ 65536) && !endsH (rs.map ObR.o) && !decide (firstH freeW (rs.map ObR.o) < n)) := by
    unfold checkH
    rw [all_first, List.length_map, hln]
  have HI := hide h
  have HE0 : Hid (n = 0 → endsH (rs.map ObR.o) = false) := hide fun e => ends_nil (by omega)
  have HE1 : Hid (∀ r, rs[n - 1]? = some r → endsH (rs.map ObR.o) = r.ty.isEmpty) := hide fun r hr => ends_at (by rw [hln]; exact hr)
  have HK : Hid (∀ (k : Nat) (r : ObR), rs[k]? = some r → freeW r.o = true → firstH freeW (rs.map ObR.o) < n) := hide fun k r hr hp => by
    have hk := (List.getElem?_eq_some_iff.1 hr).1
    rcases Nat.lt_or_ge (firstH freeW (rs.map ObR.o)) n with h1 | h1
    · exact h1
    · have := List.not_of_lt_findIdx (p := freeW) (xs := rs.map ObR.o) (i := k) (by unfold firstH at h1; omega)
      rw [List.getElem_map, (List.getElem?_eq_some_iff.1 hr).2, hp] at this
      simp at this
  have HN : Hid ((∀ (j : Nat) (r' : ObR), j < n → rs[j]? = some r' → freeW r'.o = false) → ¬ firstH freeW (rs.map ObR.o) < n) := hide fun hf hlt => by
    unfold firstH at hlt
    have hlt2 : List.findIdx freeW (rs.map ObR.o) < (rs.map ObR.o).length := by rw [List.length_map]; omega
    have h1 := List.findIdx_getElem (p := freeW) (xs := rs.map ObR.o) (w := hlt2)
    rw [List.getElem_map] at h1
    have h2 := hf (List.findIdx freeW (rs.map ObR.o)) _ hlt (List.getElem?_eq_getElem (by omega))
    rw [h2] at h1
    cases h1
  have HW := hide (fun (hn : rs.length ≤ 5000) => rwords_any w ⟨a, n, c⟩ rs h hn)
  have hV : checkE (rs.map ObR.o) = if checkH (rs.map ObR.o) = true then 0 else 150 := rfl
  rw [hC] at hV
  clear hC
  generalize checkE (rs.map ObR.o) = V at *
  generalize wordsH (rs.map ObR.o) = S at *
  generalize endsH (rs.map ObR.o) = E at *
  generalize firstH freeW (rs.map ObR.o) = F at *
  have HC := hide hV
  clear h hV
  unfold Sl.v at *
  simp only at HW ⊢
  by_cases h1 : n ≤ 4096
  case neg =>
    have g1 : (4096 : Int) < (n : Int) := by omega
    go_enter Try.func25, Try.ntmps25
    go_wp2
    go_ret
    have := unhide HC
    exact ⟨by rw [this]; simp [h1], Below.refl _ _⟩
  have g1 : ¬ (4096 : Int) < (n : Int) := by omega
  have HW1 := hide (unhide HW (by omega))
  clear HW
  go_enter Try.func25, Try.ntmps25
  go_wp2_with fail
  refine (unhide HW1).mono ?_
  rintro e w1 ⟨rfl, f1⟩
  have F1 := hide f1
  clear f1
  by_cases h2 : S ≤ 65536
  case neg =>
    have g2 : (65536 : Int) < (S : Int) := by omega
    go_wp2
    go_ret
    have := unhide HC
    exact ⟨by rw [this]; simp [h2], unhide F1⟩
  have g2 : ¬ (65536 : Int) < (S : Int) := by omega
  have KEY : ∀ (W : World), Below w.heap.size w W → E = false → True := fun _ _ _ => trivial
  clear KEY
  by_cases hn0 : n = 0
  · have HE := hide (unhide HE0 hn0)
    have HN1 := hide (unhide HN (fun j r' hj => by omega))
    subst hn0
    clear HE0 HE1 HK HN
    go_wp2
    go_loopw [3] (fun i wr => i = .int .i64 0 ∧ Below w.heap.size w wr) (fun i _ => 0)
    case atStart => exact ⟨rfl, unhide F1⟩
    case round =>
      obtain ⟨rfl, hR⟩ := hrel
      have HR := hide hR
      clear hR
      go_wp2
      go_ret
      have := unhide HC
      have e1 := unhide HE
      have e2 := unhide HN1
      exact ⟨by rw [this, e1]; simp [h2], unhide HR⟩
  obtain ⟨r, hr⟩ : ∃ r, rs[n - 1]? = some r := ⟨_, List.getElem?_eq_getElem (by omega)⟩
  obtain ⟨b, o, ea, q⟩ := memb_row (unhide HI) hr
  simp only at ea
  subst ea
  have q1 := q (unhide F1)
  have d0 := q1.zero
  have HE := hide (unhide HE1 r hr)
  have hty := ty_nil r.ty
  have gn : (0 : Int) < (n : Int) := by omega
  have hwr : IntKind.i64.wrap ((n : Int) - 1) = ((n - 1 : Nat) : Int) := by rw [IntKind.wrap_i64]; omega
  have hnl : ((n - 1 : Nat) : Int) < (n : Int) := by omega
  have hnl2 : n - 1 < n := by omega
  clear q q1 hr HE0 HE1
  generalize r.ty = ty at *
  generalize hst : (⟨ty.toArray⟩ : ByteArray) = st at *
  cases ht : ty.isEmpty with
  | true =>
    rw [ht] at hty
    have hty2 : st.toList = [] := by simpa using hty
    go_wp2
    go_ret
    have := unhide HC
    have e1 := unhide HE
    exact ⟨by rw [this, e1, ht]; simp, unhide F1⟩
  | false =>
    rw [ht] at hty
    have hty2 : ¬ st.toList = [] := by simpa using hty
    have HEF := unhide HE
    rw [ht] at HEF
    have HEF := hide HEF
    clear HE
    go_wp2
    clear d0
    go_loopw [3] (fun i wr => ∃ k : Nat, k ≤ n ∧ i = .int .i64 (k : Int) ∧ Below w.heap.size w wr ∧ ∀ (j : Nat) (r' : ObR), j < k → rs[j]? = some r' → freeW r'.o = false) (fun i _ => n - (intOf i).toNat)
    case atStart => exact ⟨0, by omega, rfl, unhide F1, fun j r' hj => absurd hj (by omega)⟩
    case round =>
      obtain ⟨k, hk, rfl, hR, hF⟩ := hrel
      by_cases hlt : k < n
      · have hlt1 : (k : Int) < (n : Int) := by omega
        have hk0 : (0 : Int) ≤ (k : Int) := by omega
        obtain ⟨x, hx⟩ : ∃ x, rs[k]? = some x := ⟨_, List.getElem?_eq_getElem (by omega)⟩
        obtain ⟨b', o', ea, q⟩ := memb_row (unhide HI) hx
        injection ea with ea
        injection ea with ea1 ea2
        subst ea1 ea2
        have q1 := q hR
        have hwl := ((unhide HI).each _ (List.mem_of_getElem? hx)).ls.1
        obtain ⟨xty, ⟨sa, sn, sc⟩, ws⟩ := x
        have d0 := q1.zero
        have d1 := q1 1 _ rfl
        simp only [Sl.v] at d0 d1 hwl
        have hxt := ty_nil xty
        have HR := hide hR
        have HX := hide hx
        have HG := hide hF
        clear q q1 hx hR hF hty2 hty
        generalize hxs : (⟨xty.toArray⟩ : ByteArray) = xst at *
        by_cases hfw : (xty.isEmpty && decide (0 < sn)) = true
        · have hfw2 := hfw
          rw [Bool.and_eq_true, decide_eq_true_eq] at hfw2
          obtain ⟨hf1, hf2⟩ := hfw2
          rw [hf1] at hxt
          have hxt2 : xst.toList = [] := by simpa using hxt
          have hs1 : (0 : Int) < (sn : Int) := by omega
          go_wp2
          go_ret
          have := unhide HC
          have e1 := unhide HK k _ (unhide HX) (by simpa [freeW, ObR.o, freeO, hwl] using hfw)
          exact ⟨by rw [this]; simp [e1], unhide HR⟩
        · have HFW : Hid (freeW (ObR.o ⟨xty, ⟨sa, sn, sc⟩, ws⟩) = false) := hide (by simpa [freeW, ObR.o, freeO, hwl] using hfw)
          have HNX : Hid (∀ (j : Nat) (r' : ObR), j < k + 1 → rs[j]? = some r' → freeW r'.o = false) := hide fun j r' hj hr' => by
            by_cases hjk : j < k
            · exact unhide HG j r' hjk hr'
            · obtain rfl : j = k := by omega
              rw [unhide HX] at hr'
              injection hr' with hr'
              subst hr'
              exact unhide HFW
          by_cases hf1 : xty.isEmpty = true
          · rw [hf1] at hxt
            have hxt2 : xst.toList = [] := by simpa using hxt
            have hs1 : ¬ (0 : Int) < (sn : Int) := by
              intro e
              exact hfw (by rw [hf1]; simp; omega)
            go_wp2
            go_roundw
            case rel => exact ⟨k + 1, by omega, by go_num, unhide HR, unhide HNX⟩
            case measure => simp [intOf]; omega
          · have hxt2 : ¬ xst.toList = [] := by
              rw [Bool.not_eq_true] at hf1
              rw [hf1] at hxt
              simpa using hxt
            go_wp2
            go_roundw
            case rel => exact ⟨k + 1, by omega, by go_num, unhide HR, unhide HNX⟩
            case measure => simp [intOf]; omega
      · obtain rfl : k = n := by omega
        have HR := hide hR
        have HN1 := hide (unhide HN hF)
        clear hR hF
        go_wp2
        go_ret
        have := unhide HC
        have e1 := unhide HEF
        have e2 := unhide HN1
        exact ⟨by rw [this, e1]; simp only [h1, h2, e2]; simp, unhide HR⟩
end Go.Proofs.Ytnnanlniffjnkaa

/- Layer 15, the landed code: Set. -/
namespace Go.Proofs.Ytnnanlniffjnkaa
open Go.RowKit
set_option linter.unusedVariables false
set_option maxRecDepth 100000

def setPost (w : World) (l : List Ob) (n k : Int) (v : Vl) (e : Ending) (w' : World) : Prop :=
  Below w.heap.size w w' ∧ ((setH l n k v = none ∧ e = .returned (.tuple #[.slice none 0 0, .int .i64 150])) ∨ ∃ l' s rs, setH l n k v = some l' ∧ HIn w' s rs ∧ rs.map ObR.o = l' ∧ e = .returned (.tuple #[s.v, .int .i64 0]))
theorem set_flat {dn : List ObR} {j : Nat} {r : ObR} (hr : dn[j]? = some r) (ws : List Vl) : (dn.set j ⟨r.ty, r.s, ws⟩).flatMap obc = dn.flatMap obc := by
  have hj := (List.getElem?_eq_some_iff.1 hr).1
  have el : dn.set j ⟨r.ty, r.s, ws⟩ = dn.take j ++ ⟨r.ty, r.s, ws⟩ :: dn.drop (j + 1) := List.set_eq_take_append_cons_drop.trans (if_pos hj)
  have hsp : dn = dn.take j ++ (r :: dn.drop (j + 1)) := by
    rw [← (List.getElem?_eq_some_iff.1 hr).2, ← List.drop_eq_getElem_cons hj, List.take_append_drop]
  rw [el]
  conv => rhs; rw [hsp]
  rw [List.flatMap_append, List.flatMap_append, List.flatMap_cons, List.flatMap_cons]
  rfl
/-- A word of an object of one's own is written over. -/
theorem HOwn.word {w : World} {B g j k n c : Nat} {v : Value} {dn : List ObR} {ty : List UInt8} {ws : List Vl} (h : HOwn w B v dn) (hr : dn[j]? = some ⟨ty, ⟨some ⟨g, 0, none⟩, n, c⟩, ws⟩) (hk : k < ws.length) (x : Vl) : HOwn (w.setCells g (k * 2) (vlc x)) B v (dn.set j ⟨ty, ⟨some ⟨g, 0, none⟩, n, c⟩, ws.set k x⟩) := by
  have hj := (List.getElem?_eq_some_iff.1 hr).1
  have hm := List.mem_of_getElem? hr
  have ho := h.each _ hm
  simp only [Sl.v] at ho
  have hwn : ws.length = n := by obtain ⟨_, _, e', _⟩ := ho.form; injection e' with _ e2 _; exact e2.symm
  obtain ⟨g', cur, eg, hB, hh, _, _⟩ := ho.blkR rkV.len (by omega)
  injection eg with eg
  injection eg with eg
  subst eg
  refine ⟨?_, fun r hrm => ?_, ?_⟩
  · have h1 : Orw obc 43 2 (w.setCells g (k * 2) (vlc x)) B v dn := h.row.keep fun q X _ hX => heap_cells_other g _ _ _ _ (fun e => by
      rw [e, hh] at hX
      injection hX with hX
      injection hX with _ hX
      cases hX)
    unfold Orw at h1 ⊢
    rw [List.length_set, set_flat hr]
    exact h1
  · obtain ⟨i, hi⟩ := List.mem_iff_getElem?.1 hrm
    rw [List.getElem?_set] at hi
    split at hi
    · injection hi with hi
      subst hi
      exact Orw.setR rkV.len ho (by omega) x
    · rename_i hne
      have hri := List.mem_of_getElem? hi
      refine (h.each r hri).below fun b hb => heap_cells_other g _ _ _ _ (fun e => ?_)
      subst e
      have hil := (List.getElem?_eq_some_iff.1 hi).1
      have ei := (List.getElem?_eq_some_iff.1 hi).2
      have ej := (List.getElem?_eq_some_iff.1 hr).2
      have ap := List.pairwise_iff_getElem.1 h.apart
      rcases Nat.lt_or_ge i j with hlt | hge
      · have := ap i j hil hj hlt b (by rw [ei]; exact hb)
        rw [ej] at this
        exact this rfl
      · have := ap j i hj hil (by omega) b (by rw [ej]; rfl)
        rw [ei] at this
        exact this hb
  · rw [List.pairwise_iff_getElem]
    intro i q hi hq hiq b hbi hbq
    have ap := List.pairwise_iff_getElem.1 h.apart
    rw [List.length_set] at hi hq
    have same : ∀ i (hi : i < (dn.set j ⟨ty, ⟨some ⟨g, 0, none⟩, n, c⟩, ws.set k x⟩).length), (dn.set j ⟨ty, ⟨some ⟨g, 0, none⟩, n, c⟩, ws.set k x⟩)[i].s = (dn[i]'(by rw [List.length_set] at hi; exact hi)).s := fun i hi => by
      rw [List.getElem_set]
      split
      · rename_i e
        subst e
        rw [(List.getElem?_eq_some_iff.1 hr).2]
      · rfl
    rw [same] at hbi hbq
    exact ap i q hi hq hiq b hbi hbq
theorem setH_none {l : List Ob} {n k : Int} {v : Vl} (h : wordH l n k = none) : setH l n k v = none := by
  unfold setH
  rw [h]
  rfl
theorem setH_kind {l : List Ob} {n k : Int} {u v : Vl} (h : wordH l n k = some u) (hk : ¬ u.kind = v.kind) : setH l n k v = none := by
  unfold setH
  rw [h]
  simp [hk]
theorem wordH_in {rs : List ObR} {n k : Int} {u : Vl} (h : wordH (rs.map ObR.o) n k = some u) : checkH (rs.map ObR.o) = true ∧ 1 ≤ n ∧ n ≤ (rs.length : Int) ∧ 0 ≤ k ∧ ∃ o, (rs.map ObR.o)[(n - 1).toNat]? = some o ∧ freeO o = false ∧ o.ws[k.toNat]? = some u := by
  unfold wordH getH at h
  split at h
  · rename_i hc
    simp only [List.length_map] at hc
    refine ⟨hc.1, hc.2.1, hc.2.2, ?_⟩
    cases ho : (rs.map ObR.o)[(n - 1).toNat]? with
    | none => rw [ho] at h; cases h
    | some o =>
      rw [ho] at h
      simp only [Option.bind_some] at h
      cases hf : freeO o with
      | true => simp [hf] at h
      | false =>
        simp only [hf, Bool.false_eq_true, if_false, Option.bind_some] at h
        split at h
        · rename_i h0
          exact ⟨h0, o, rfl, hf, h⟩
        · cases h
  · cases h
theorem setH_some {rs : List ObR} {n k : Int} {u v : Vl} {o : Ob} (h : wordH (rs.map ObR.o) n k = some u) (hk : u.kind = v.kind) (ho : (rs.map ObR.o)[(n - 1).toNat]? = some o) : setH (rs.map ObR.o) n k v = some ((rs.map ObR.o).set (n - 1).toNat (setOb o k.toNat v)) := by
  unfold setH
  rw [h]
  simp only [Option.bind_some, hk, if_true, ho, Option.map_some]
end Go.Proofs.Ytnnanlniffjnkaa

/- Layer 15, the landed code: Free. -/
namespace Go.Proofs.Ytnnanlniffjnkaa
open Go.RowKit
set_option linter.unusedVariables false
set_option maxRecDepth 100000

def freePost (w : World) (l : List Ob) (n : Int) (e : Ending) (w' : World) : Prop :=
  Below w.heap.size w w' ∧ ((freeH l n = none ∧ e = .returned (.tuple #[.slice none 0 0, .int .i64 150])) ∨ ∃ l' s rs, freeH l n = some l' ∧ HIn w' s rs ∧ rs.map ObR.o = l' ∧ e = .returned (.tuple #[s.v, .int .i64 0]))
theorem freeH_none {l : List Ob} {n : Int} (h : getH l n = none) : freeH l n = none := by
  unfold freeH
  rw [h]
  rfl
theorem freeH_some {l : List Ob} {n : Int} {o : Ob} (h : getH l n = some o) : freeH l n = some (trimH (l.set (n - 1).toNat zeroO)) := by
  unfold freeH
  rw [h]
  rfl
theorem HOwn.cut {w : World} {B g n c k : Nat} {dn : List ObR} (h : HOwn w B (.slice (some ⟨g, 0, none⟩) n c) dn) (hk : k ≤ n) : HOwn w B (.slice (some ⟨g, 0, none⟩) k c) (dn.take k) :=
  ⟨h.row.cutR rkO.len hk (by simp), fun r hr => h.each r (List.mem_of_mem_take hr), h.apart.sublist (List.take_sublist _ _)⟩
def lenS : Value → Nat
  | .slice _ n _ => n
  | _ => 0
/-- Between two rounds of Free. -/
structure Fr15 (w : World) (g m : Nat) (L : List ObR) (k : Nat) (W : World) : Prop where
  few : k ≤ m
  own : HOwn W w.heap.size (.slice (some ⟨g, 0, none⟩) k m) (L.take k)
  same : trimH ((L.take k).map ObR.o) = trimH (L.map ObR.o)
  bel : Below w.heap.size w W
theorem Fr15.on {w W W2 : World} {g m k : Nat} {L : List ObR} (h : Fr15 w g m L k W) (f : Below W.heap.size W W2) : Fr15 w g m L k W2 := ⟨h.few, h.own.below f, h.same, h.bel.trans (f.mono h.bel.size)⟩
theorem take_less {α : Type} (L : List α) {j : Nat} (h : j + 1 ≤ L.length) : (L.take (j + 1)).take ((L.take (j + 1)).length - 1) = L.take j := by
  rw [List.length_take, Nat.min_eq_left h, Nat.add_sub_cancel, List.take_take, Nat.min_eq_left (Nat.le_succ _)]
theorem Fr15.next {w W : World} {g m j : Nat} {L : List ObR} (h : Fr15 w g m L (j + 1) W) (hL : L.length = m) (he : endsH ((L.take (j + 1)).map ObR.o) = true) : Fr15 w g m L j W := by
  have hf := h.few
  refine ⟨by omega, ?_, ?_, h.bel⟩
  · have := h.own.cut (Nat.le_succ j)
    rw [List.take_take, Nat.min_eq_left (Nat.le_succ _)] at this
    exact this
  · rw [← h.same]
    have e := (trimH_take he).1
    rw [← List.map_take, List.length_map, take_less L (by omega)] at e
    exact e.symm
end Go.Proofs.Ytnnanlniffjnkaa

/- Layer 15, the document's side: Live; lists of numbers held against one another. -/
namespace Go.Proofs.Ytnnanlniffjnkaa
open Go.RowKit
set_option linter.unusedVariables false
set_option maxRecDepth 100000

set_option maxHeartbeats 1600000 in
theorem SameInts_15 (w : World) (a b : Option Addr) (n c d : Nat) (x : List Int) (hA : Ls 1 i15 w a n x) (hB : Ls 1 i15 w b n x) (hs : n ≤ 9000000000000) :
    Calls Try.prog 15 #[.slice a n c, .slice b n d] w fun e w' => e = .returned (.bool true) ∧ Below w.heap.size w w' := by
  have hln := hA.1
  have HA := hide hA
  have HB := hide hB
  clear hA hB
  go_enter Try.func15, Try.ntmps15
  go_wp2
  go_loopw [5] (fun i wr => ∃ k : Nat, k ≤ n ∧ i = .int .i64 k ∧ Below w.heap.size w wr) (fun i _ => n - (intOf i).toNat)
  case atStart => exact ⟨0, by omega, rfl, Below.refl _ _⟩
  case round =>
    obtain ⟨k, hk, rfl, hR⟩ := hrel
    by_cases hlt : k < n
    · have hlt1 : (k : Int) < (n : Int) := by omega
      obtain ⟨b1, o1, h1a, h1⟩ := Ls.row (unhide HA) (w' := wr) (by omega)
      obtain ⟨b2, o2, h2a, h2⟩ := Ls.row (unhide HB) (w' := wr) (by omega)
      subst h1a h2a
      obtain ⟨r, hr⟩ : ∃ r, x[k]? = some r := ⟨_, List.getElem?_eq_getElem (by omega)⟩
      have c0 := (h1 hR k r hr).zero
      have d0 := (h2 hR k r hr).zero
      rw [Nat.mul_one] at c0 d0
      have HR := hide hR
      clear h1 h2 hr hR
      go_wp2
      go_quiet (fail)
      go_wp2
      go_roundw
      case rel => exact ⟨k + 1, by omega, by go_num, below_drewN (unhide HR) _⟩
      case measure => simp [intOf]; omega
    · obtain rfl : k = n := by omega
      have HR := hide hR
      clear hR
      go_wp2
      go_ret
      exact ⟨rfl, unhide HR⟩
set_option maxHeartbeats 1600000 in
theorem rlive_any (w : World) (s : Sl) (rs : List ObR) (h : HIn w s rs) (hn : rs.length ≤ 5000) :
    Calls Try.prog 24 #[s.v] w fun e w' => ∃ v, e = .returned v ∧ Orw i15 3 1 w' w.heap.size v (liveH (rs.map ObR.o)) ∧ Below w.heap.size w w' := by
  obtain ⟨a, n, c⟩ := s
  have hln := h.ls.1
  simp only at hln
  have HI := hide h
  have HE : Hid (liveFrom 0 ((rs.map ObR.o).take n) = liveH (rs.map ObR.o)) := hide (by rw [List.take_of_length_le]; rfl; rw [List.length_map]; omega)
  have HN : Hid (∀ k, (liveFrom 0 ((rs.map ObR.o).take k)).length ≤ 5000) := hide fun k => by
    have h1 := liveFrom_len ((rs.map ObR.o).take k) 0
    rw [List.length_take, List.length_map] at h1
    omega
  clear h
  unfold Sl.v at *
  simp only
  go_enter Try.func24, Try.ntmps24
  go_wp2
  go_loopw [3, 4] (fun m i wr => ∃ k : Nat, k ≤ n ∧ i = .int .i64 k ∧ Orw i15 3 1 wr w.heap.size m (liveFrom 0 ((rs.map ObR.o).take k)) ∧ Below w.heap.size w wr) (fun m i _ => n - (intOf i).toNat)
  case atStart => exact ⟨0, by omega, rfl, Orw.made _ _ _ w _ (Nat.le_refl _), (Below.refl _ _).alloc (Nat.le_refl _) _⟩
  case round =>
    obtain ⟨k, hk, rfl, hO, hR⟩ := hrel
    by_cases hlt : k < n
    · have hlt1 : (k : Int) < (n : Int) := by omega
      have hk0 : (0 : Int) ≤ (k : Int) := by omega
      obtain ⟨x, hx⟩ : ∃ x, rs[k]? = some x := ⟨_, List.getElem?_eq_getElem (by omega)⟩
      obtain ⟨b, o, ea, q⟩ := memb_row (unhide HI) hx
      simp only at ea
      subst ea
      have q1 := q hR
      obtain ⟨ty, ⟨sa, sn, sc⟩, ws⟩ := x
      have d0 := q1.zero
      have d1 := q1 1 _ rfl
      have hty := ty_nil ty
      have hs := live_take hx
      have HR := hide hR
      have HO := hide hO
      have hw1 : IntKind.i64.wrap ((k : Int) + 1) = (k : Int) + 1 := by rw [IntKind.wrap_i64]; omega
      obtain ⟨xs, hxs⟩ : ∃ xs, xs = liveFrom 0 ((rs.map ObR.o).take k) := ⟨_, rfl⟩
      have hlen := unhide HN k
      rw [← hxs] at hs HO hlen
      simp only at hs
      have HS := hide hs
      have HL := hide hlen
      clear q q1 hx hR hO hs hxs hlen
      simp only [Sl.v] at d0 d1
      generalize hst : (⟨ty.toArray⟩ : ByteArray) = st at *
      have HO2 := HO
      have HF2 := HR
      clear HO HR
      cases ht : ty.isEmpty with
      | true =>
        have HS1 := unhide HS
        rw [ht, if_pos rfl, List.append_nil] at HS1
        have HS1 := hide HS1
        clear HS
        rw [ht] at hty
        have hty2 : st.toList = [] := by simpa using hty
        go_wp2
        go_roundw
        case rel => exact ⟨k + 1, by omega, by go_num, by rw [unhide HS1]; exact unhide HO2, unhide HF2⟩
        case measure => simp [intOf]; omega
      | false =>
        have HS1 := unhide HS
        rw [ht, if_neg (by decide)] at HS1
        have HS1 := hide HS1
        rw [ht] at hty
        have hty2 : ¬ st.toList = [] := by simpa using hty
        have HO3 := hide (orw_on (unhide HO2) ((Below.refl wr.heap.size wr).alloc (Nat.le_refl _) (.cells #[.int .i64 ((k : Int) + 1)] 3)))
        have HL3 : Hid (Ls 1 i15 (wr.alloc (.cells #[.int .i64 ((k : Int) + 1)] 3)) (some ⟨wr.heap.size, 0, none⟩) 1 [(k : Int) + 1]) := ls_one wr _ _ _ rfl
        have hb3 := ((unhide HF2).trans (((Below.refl wr.heap.size wr).alloc (Nat.le_refl _) (.cells #[.int .i64 ((k : Int) + 1)] 3)).mono (unhide HF2).size))
        have HB3 := hide hb3
        have hln1 : (xs.length + 1) * 8 ≤ 140737488355328 := by have := unhide HL; omega
        have hln2 : xs.length + 1 ≤ 140737488355328 := by have := unhide HL; omega
        have HLN1 := hide hln1
        have HLN2 := hide hln2
        clear hb3 hln1 hln2 HS
        go_wp2_with (at_builtin; refine listR_append rkI15 rfl _ _ rfl w.heap.size _ _ rfl (unhide HO3) _ 1 1 [_] rfl (unhide HL3) (fun e => by cases e) (unhide HLN1) (unhide HLN2) (unhide HB3).size ?_)
        intro v' w5 o4 g4
        have F5 := hide (grown_below (unhide HB3) (unhide HO3) g4)
        have HO4 := hide o4
        clear o4 g4 HO3 HL3 HB3 HLN1 HLN2 HO2 HF2
        go_wp2
        go_roundw
        case rel => exact ⟨k + 1, by omega, by go_num, by rw [unhide HS1]; exact unhide HO4, unhide F5⟩
        case measure => simp [intOf]; omega
    · obtain rfl : k = n := by omega
      have HR := hide hR
      have HO := hide hO
      clear hR hO
      go_wp2
      go_ret
      exact ⟨_, rfl, by rw [← unhide HE]; exact unhide HO, unhide HR⟩
end Go.Proofs.Ytnnanlniffjnkaa
