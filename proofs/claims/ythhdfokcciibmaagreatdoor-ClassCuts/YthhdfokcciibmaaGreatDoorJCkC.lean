/- The landed class: isType, longsAreWide, doRise. -/
import Derived.Test.YthhdfokcciibmaaGreatDoorJCkN
import Derived.Test.YthhdfokcciibmaaGreatDoorJClFi
import Derived.Test.YthhdfokcciibmaaGreatDoorJClD

namespace Go.Proofs.YthhdfokcciibmaaGreatDoor
open Go.RowKit
set_option linter.unusedVariables false
set_option maxRecDepth 100000

theorem str_empty {s : List UInt8} : ((⟨s.toArray⟩ : ByteArray) = ⟨#[]⟩) ↔ s = [] := by simp
set_option maxHeartbeats 1600000 in
theorem nType_any (w : World) (g mt mc : Nat) (p : Sl) (l : List Ent) (h : Nm w g mt mc p l) (t : Ty) (ht : TyFit t) :
    Calls Tryz.prog 137 #[.pointer (some ⟨g, 0, none⟩), .agg #[.int .i64 t.kind, .string ⟨t.name.toArray⟩]] w fun e w' => e = .returned (.bool (okT l t)) ∧ Below w.heap.size w w' := by
  obtain ⟨k, nm⟩ := t
  obtain ⟨hk, hn⟩ := ht
  simp only at hk hn
  obtain ⟨w0, e0, f0, K0⟩ := one_local w #[.int .i64 k, .string ⟨nm.toArray⟩] 143
  have q0 := K0 w0 (Below.refl _ _) 0 _ rfl
  have q1 := K0 w0 (Below.refl _ _) 1 _ rfl
  have HC := hide (nHasClass_any w0 g mt mc p l (h.below f0) nm hn)
  have E0 := hide e0
  have F0 := hide f0
  unfold fitI at hk
  by_cases h4 : k = 4
  · subst h4
    have hT : okT l ⟨4, nm⟩ = decide (clsN l nm ≠ 0) := by simp [okT]
    simp only
    rw [hT]
    generalize decide (clsN l nm ≠ 0) = dd at *
    clear h hT K0 e0 f0
    generalize (⟨nm.toArray⟩ : ByteArray) = st at *
    have e0 := unhide E0
    go_enter Tryz.func137, Tryz.ntmps137
    go_wp2_with fail
    refine (unhide HC).mono ?_
    rintro e w' ⟨rfl, rfl⟩
    clear e0
    go_wp2
    go_ret
    exact ⟨rfl, unhide F0⟩
  · have h4b : (k == 4) = false := by simpa using h4
    by_cases h1 : 0 ≤ k
    · by_cases h2 : k < 5
      · have hT : okT l ⟨k, nm⟩ = decide (nm = []) := by
          unfold okT
          simp only
          rw [if_neg h4, decide_eq_true (by omega : k = 0 ∨ k = 1 ∨ k = 2 ∨ k = 3 ∨ k = 4), Bool.true_and]
        simp only
        rw [hT]
        obtain ⟨zs, hzs⟩ : ∃ zs : ByteArray, zs = ⟨nm.toArray⟩ := ⟨_, rfl⟩
        have i1 : zs = ⟨#[]⟩ ↔ nm = [] := by rw [hzs]; simp
        have i2 : zs.toList = [] ↔ nm = [] := by rw [hzs]; simp
        rw [← hzs] at q1 E0 ⊢
        clear h hT K0 e0 f0 HC hzs
        have e0 := unhide E0
        by_cases hz : nm = []
        · have hz1 := i1.2 hz
          rw [decide_eq_true hz]
          subst hz1
          clear i1 i2 hz
          go_enter Tryz.func137, Tryz.ntmps137
          go_wp2
          go_ret
          exact ⟨rfl, unhide F0⟩
        · have hz2 : ¬ zs.toList = [] := fun h => hz (i2.1 h)
          have hz3 : (zs.toList == []) = false := by simpa using hz2
          rw [decide_eq_false hz]
          clear i1 i2 hz
          go_enter Tryz.func137, Tryz.ntmps137
          go_wp2
          go_ret
          exact ⟨by first | rfl | (simp only [hz3]; rfl) | simp [hz2, hz3], unhide F0⟩
      · have hT : okT l ⟨k, nm⟩ = false := by
          unfold okT
          rw [decide_eq_false (by simp only; omega), Bool.false_and]
        simp only
        rw [hT]
        have h2b : decide (k < 5) = false := by simpa using h2
        clear h hT K0 e0 f0 HC
        generalize (⟨nm.toArray⟩ : ByteArray) = st at *
        have e0 := unhide E0
        go_enter Tryz.func137, Tryz.ntmps137
        go_wp2
        go_ret
        exact ⟨rfl, unhide F0⟩
    · have hT : okT l ⟨k, nm⟩ = false := by
        unfold okT
        rw [decide_eq_false (by simp only; omega), Bool.false_and]
      simp only
      rw [hT]
      have h1b : decide (0 ≤ k) = false := by simpa using h1
      clear h hT K0 e0 f0 HC
      generalize (⟨nm.toArray⟩ : ByteArray) = st at *
      have e0 := unhide E0
      go_enter Tryz.func137, Tryz.ntmps137
      go_wp2
      go_ret
      exact ⟨rfl, unhide F0⟩

set_option maxHeartbeats 3200000 in
theorem longsWide_any (w : World) (s : Sl) (ts : List Ty) (hA : TysIn w s ts) :
    Calls Tryz.prog 138 #[s.v] w fun e w' => e = .returned (.bool (longsB ts)) ∧ Below w.heap.size w w' := by
  obtain ⟨a, n, c⟩ := s
  have hs := hA.small
  have hln := hA.ls.1
  simp only at hln hs
  unfold Sl.v
  simp only
  have HA := hide hA.ls
  have HF := hide hA.each
  obtain ⟨T, hT⟩ : ∃ T, T = longsB ts := ⟨_, rfl⟩
  rw [← hT]
  have HTT := hide hT
  clear hA hT
  go_enter Tryz.func138, Tryz.ntmps138
  go_wp2
  go_loopw [7] (fun i wr => ∃ k : Nat, k ≤ n ∧ i = .int .i64 k ∧ Below w.heap.size w wr ∧ ∀ (j : Nat) (t : Ty), j < k → ts[j]? = some t → t.kind = 2 → ∃ z, ts[j + 1]? = some z ∧ z.kind = 0) (fun i _ => n - (intOf i).toNat)
  case atStart => exact ⟨0, by omega, rfl, Below.refl _ _, fun j t hj => absurd hj (Nat.not_lt_zero _)⟩
  case round =>
    obtain ⟨k, hk, rfl, hR, hgo⟩ := hrel
    have HGO := hide hgo
    clear hgo
    by_cases hlt : k < n
    · have hlt1 : (k : Int) < (n : Int) := by omega
      have hk0 : (0 : Int) ≤ (k : Int) := by omega
      obtain ⟨b1, o1, h1a, h1⟩ := Ls.row (unhide HA) (w' := w) (by show n ≠ 0; omega)
      subst h1a
      obtain ⟨t, ht⟩ : ∃ t, ts[k]? = some t := ⟨_, List.getElem?_eq_getElem (by omega)⟩
      have q := h1 hR k t ht
      have c0 := q.zero
      have c1 := q 1 _ rfl
      have hfit := (unhide HF t (List.mem_of_getElem? ht)).1
      unfold fitI at hfit
      have hf1 := ((Below.refl wr.heap.size wr).alloc (Nat.le_refl _) (.cells #[.int .i64 t.kind, .string ⟨t.name.toArray⟩] 143))
      have HR1 := hide (hR.trans (hf1.mono hR.size))
      have HTk := hide ht
      by_cases h2 : t.kind = 2
      · by_cases hend : k + 1 = n
        · have hbad : Hid (T = false) := by
            show T = false
            rw [unhide HTT]
            cases hb : longsB ts with
            | false => rfl
            | true =>
              obtain ⟨z, hz, _⟩ := (longsB_at ts).1 hb k t ht h2
              have := (List.getElem?_eq_some_iff.1 hz).1
              omega
          have hend1 : (k : Int) + 1 = (n : Int) := by omega
          clear q h1 ht hR hf1
          generalize (⟨t.name.toArray⟩ : ByteArray) = s1 at *
          generalize t.kind = tk at *
          subst h2
          go_wp2
          go_ret
          exact ⟨by rw [unhide hbad]; rfl, unhide HR1⟩
        · obtain ⟨z, hz⟩ : ∃ z, ts[k + 1]? = some z := ⟨_, List.getElem?_eq_getElem (by omega)⟩
          have qz := h1 (hR.trans (hf1.mono hR.size)) (k + 1) z hz
          have z0 := qz.zero
          have hend1 : ((k : Int) + 1 == (n : Int)) = false := by simp; omega
          have hend2 : ¬ ((k : Int) + 1 = (n : Int)) := by omega
          have hk2 : (k : Int) + 1 < (n : Int) := by omega
          have hk3 : (0 : Int) ≤ (k : Int) + 1 := by omega
          have hk4 : ((k : Int) + 1).toNat = k + 1 := by omega
          have hfz := (unhide HF z (List.mem_of_getElem? hz)).1
          unfold fitI at hfz
          have hnext : Hid (z.kind = 0 → ∀ (j : Nat) (t : Ty), j < k + 1 → ts[j]? = some t → t.kind = 2 → ∃ z, ts[j + 1]? = some z ∧ z.kind = 0) := fun hz0 j t' hj ht' hk' => by
            by_cases e : j < k
            · exact unhide HGO j t' e ht' hk'
            · obtain rfl : j = k := by omega
              exact ⟨z, hz, hz0⟩
          have hbad : Hid (z.kind ≠ 0 → T = false) := fun hz0 => by
            rw [unhide HTT]
            cases hb : longsB ts with
            | false => rfl
            | true =>
              obtain ⟨z', hz', hz2⟩ := (longsB_at ts).1 hb k t ht h2
              rw [hz] at hz'
              injection hz' with hz'
              subst hz'
              exact absurd hz2 hz0
          clear q h1 ht hR hf1 qz hz
          generalize (⟨t.name.toArray⟩ : ByteArray) = s1 at *
          generalize t.kind = tk at *
          generalize z.kind = zk at *
          subst h2
          by_cases hz0 : zk = 0
          · subst hz0
            go_wp2
            go_roundw
            case rel => exact ⟨k + 1, by omega, by go_num, unhide HR1, unhide hnext (by first | rfl | trivial)⟩
            case measure => simp [intOf]; omega
          · have hz1 : (zk != 0) = true := by simpa using hz0
            have hz2 : (zk == 0) = false := by simpa using hz0
            go_wp2
            go_ret
            exact ⟨by rw [unhide hbad hz0]; rfl, unhide HR1⟩
      · have h2b : (t.kind == 2) = false := by simpa using h2
        have hnext : Hid (∀ (j : Nat) (t : Ty), j < k + 1 → ts[j]? = some t → t.kind = 2 → ∃ z, ts[j + 1]? = some z ∧ z.kind = 0) := fun j t' hj ht' hk' => by
          by_cases e : j < k
          · exact unhide HGO j t' e ht' hk'
          · obtain rfl : j = k := by omega
            rw [ht] at ht'
            injection ht' with ht'
            subst ht'
            exact absurd hk' h2
        clear q h1 ht hR hf1 h2
        generalize (⟨t.name.toArray⟩ : ByteArray) = s1 at *
        generalize t.kind = tk at *
        go_wp2
        go_roundw
        case rel => exact ⟨k + 1, by omega, by go_num, unhide HR1, unhide hnext⟩
        case measure => simp [intOf]; omega
    · obtain rfl : k = n := by omega
      have hT : T = true := by
        rw [unhide HTT, longsB_at]
        intro i t ht hk2
        exact unhide HGO i t (by have := (List.getElem?_eq_some_iff.1 ht).1; omega) ht hk2
      subst hT
      have HR := hide hR
      clear hR HTT
      go_wp2
      go_ret
      exact ⟨rfl, unhide HR⟩

set_option maxHeartbeats 3200000 in
theorem doRise_any (w : World) (s : Sl) (mr : List MpR) (hA : LIn 3 56 mpc (MpIn w) w s mr) :
    Calls Tryz.prog 117 #[s.v] w fun e w' => e = .returned (.bool (riseB (-1) (mr.map MpR.m))) ∧ Below w.heap.size w w' := by
  obtain ⟨a, n, c⟩ := s
  have hs := hA.small
  have hln := hA.ls.1
  simp only at hln hs
  unfold Sl.v
  simp only
  have HA := hide hA.ls
  have HF := hide hA.each
  obtain ⟨ms, hms⟩ : ∃ ms, ms = mr.map MpR.m := ⟨_, rfl⟩
  rw [← hms]
  have HMS := hide hms
  obtain ⟨T, hT⟩ : ∃ T, T = riseB (-1) ms := ⟨_, rfl⟩
  rw [← hT]
  have HTT := hide hT
  clear hA hT hms
  go_enter Tryz.func117, Tryz.ntmps117
  go_wp2
  go_loopw [3, 8] (fun av i wr => ∃ (k : Nat) (ah : Int), k ≤ n ∧ av = .int .i64 ah ∧ i = .int .i64 k ∧ Below w.heap.size w wr ∧ ah = ((ms.take k).map Mp.at_).getLast?.getD (-1) ∧ fitI ah ∧ riseB (-1) (ms.take k) = true) (fun _ i _ => n - (intOf i).toNat)
  case atStart => exact ⟨0, -1, by omega, rfl, rfl, Below.refl _ _, rfl, by unfold fitI; omega, rfl⟩
  case round =>
    obtain ⟨k, ah, hk, rfl, rfl, hR, hah, hfa, hri⟩ := hrel
    unfold fitI at hfa
    by_cases hlt : k < n
    · have hlt1 : (k : Int) < (n : Int) := by omega
      have hk0 : (0 : Int) ≤ (k : Int) := by omega
      obtain ⟨b1, o1, h1a, h1⟩ := Ls.row (unhide HA) (w' := w) (by show n ≠ 0; omega)
      subst h1a
      obtain ⟨m, hm⟩ : ∃ m, mr[k]? = some m := ⟨_, List.getElem?_eq_getElem (by omega)⟩
      have hmm : ms[k]? = some m.m := by rw [unhide HMS, List.getElem?_map, hm]; rfl
      have q := h1 hR k m hm
      obtain ⟨mm, ⟨la, ln, lc⟩, ⟨sa, sn, sc⟩⟩ := m
      have c0 := q.zero
      have c1 := q 1 _ rfl
      have c2 := q 2 _ rfl
      simp only [Sl.v] at c0 c1 c2
      have hfit := (unhide HF _ (List.mem_of_getElem? hm)).fit
      simp only at hfit hmm
      unfold fitI at hfit
      have hf1 := ((Below.refl wr.heap.size wr).alloc (Nat.le_refl _) (.cells #[.int .i64 mm.at_, .slice la ln lc, .slice sa sn sc] 52))
      have HR1 := hide (hR.trans (hf1.mono hR.size))
      have hstep := riseB_take ms (-1) k mm hmm hri
      rw [← hah] at hstep
      have hlast : ((ms.take (k + 1)).map Mp.at_).getLast?.getD (-1) = mm.at_ := by
        rw [List.take_add_one, hmm]
        simp
      have HS := hide hstep
      have HL := hide hlast
      clear q h1 hm hR hf1 hstep hlast hah hri hmm
      by_cases h2 : mm.at_ ≤ ah
      · have hbad : Hid (T = false) := (unhide HTT).trans (riseB_false ms (-1) (k + 1) ((unhide HS).trans (by simpa using h2)))
        generalize mm.at_ = mA at *
        go_wp2
        go_ret
        exact ⟨by rw [unhide hbad]; rfl, unhide HR1⟩
      · have hgo : Hid (riseB (-1) (ms.take (k + 1)) = true) := (unhide HS).trans (by simpa using h2)
        have h2b : decide (mm.at_ ≤ ah) = false := by simpa using h2
        generalize mm.at_ = mA at *
        go_wp2
        go_roundw
        case rel => exact ⟨k + 1, mA, by omega, rfl, by go_num, unhide HR1, (unhide HL).symm, hfit, unhide hgo⟩
        case measure => simp [intOf]; omega
    · obtain rfl : k = n := by omega
      have hT : T = true := by
        rw [unhide HTT, ← hri, List.take_of_length_le]
        rw [unhide HMS, List.length_map]
        omega
      subst hT
      have HR := hide hR
      clear hR HTT hah hri
      go_wp2
      go_ret
      exact ⟨rfl, unhide HR⟩
end Go.Proofs.YthhdfokcciibmaaGreatDoor
