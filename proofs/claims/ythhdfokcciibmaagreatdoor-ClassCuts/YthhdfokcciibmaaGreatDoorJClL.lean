/- Is a class small enough? -/
import Derived.Test.YthhdfokcciibmaaGreatDoorJClFi

namespace Go.Proofs.YthhdfokcciibmaaGreatDoor
open Go.RowKit
set_option linter.unusedVariables false
set_option maxRecDepth 100000

def mapsN (ms : List Mp) : Nat := (ms.map fun m => 1 + m.loc.length + m.stk.length).sum
def methN (m : Md) : Nat := m.code.bytes.length + m.code.hs.length + mapsN m.code.maps
/-- How much a class has. -/
def sizeK (c : Cl) : Nat := c.pool.length + c.fields.length + c.methods.length + (c.methods.map methN).sum
theorem sum_take_succ {α : Type} (f : α → Nat) {l : List α} {k : Nat} {x : α} (h : l[k]? = some x) : ((l.take (k + 1)).map f).sum = ((l.take k).map f).sum + f x := by
  rw [List.take_add_one, h]
  simp
theorem sum_take_le {α : Type} (f : α → Nat) (l : List α) (k : Nat) : ((l.take k).map f).sum ≤ (l.map f).sum := by
  conv => rhs; rw [← List.take_append_drop k l]
  rw [List.map_append, List.sum_append]
  omega

set_option maxHeartbeats 6400000 in
theorem light8_any (w : World) (r : ClR) (hC : CIn w r) :
    Calls Tryz.prog 7 #[r.v] w fun e w' => e = .returned (.bool (decide (sizeK r.c < 5000))) ∧ Below w.heap.size w w' := by
  obtain ⟨cc, p1, f1, m1, mr⟩ := r
  obtain ⟨pl, nm, sp, fl, ml⟩ := cc
  obtain ⟨p1a, p1n, p1c⟩ := p1
  obtain ⟨f1a, f1n, f1c⟩ := f1
  obtain ⟨m1a, m1n, m1c⟩ := m1
  obtain ⟨w0, e0, f0, K0⟩ := one_local w #[.slice p1a p1n p1c, .string ⟨nm.toArray⟩, .string ⟨sp.toArray⟩, .slice f1a f1n f1c, .slice m1a m1n m1c] 26
  have KL : Hid (∀ W, Below w0.heap.size w0 W → W.cell? ⟨w.heap.size, 4, none⟩ = some (.slice m1a m1n m1c)) := fun W f => K0 W f 4 _ rfl
  have q0 := K0 w0 (Below.refl _ _) 0 _ rfl
  have q3 := K0 w0 (Below.refl _ _) 3 _ rfl
  have q4 := K0 w0 (Below.refl _ _) 4 _ rfl
  replace hC := hC.below f0
  have hl := hC.methods.ls.1
  have hsm := hC.methods.small
  have hlf := hC.fields.ls.1
  have hsf := hC.fields.small
  have hlp := hC.pool.arg.es.1
  have hsp := hC.pool.small
  have hsame := hC.same
  simp only at hl hsm hsame hlf hsf hlp hsp
  have hs1 : m1n ≤ 140737488351232 := by omega
  have HM := hide hC.methods.ls
  have HME := hide hC.methods.each
  simp only at HM HME
  have E0 := hide e0
  have F0 := hide f0
  obtain ⟨T, hT⟩ : ∃ T, T = sizeK ⟨pl, nm, sp, fl, ml⟩ := ⟨_, rfl⟩
  rw [← hT]
  obtain ⟨B, hB⟩ : ∃ B : Nat, B = p1n + f1n + m1n := ⟨_, rfl⟩
  have hTT : T = B + (ml.map methN).sum := by rw [hT, hB]; unfold sizeK; simp only; rw [hlp, hlf, hsame]; simp [hl]
  have hB1 : (p1n : Int) + (f1n : Int) + (m1n : Int) = (B : Int) := by omega
  have hBs : B ≤ 422212465053696 := by omega
  have HTT := hide hTT
  have HSM := hide hsame
  clear hT e0 f0 K0 hC hsm hsf hsp hsame hTT hlf hlp hB
  unfold ClR.v Sl.v
  simp only
  go_enter Tryz.func7, Tryz.ntmps7
  have e0 := unhide E0
  go_wp2
  clear e0 q0 q3 q4
  go_loopw [3, 4] (fun nv i wr => ∃ k N : Nat, k ≤ m1n ∧ nv = .int .i64 (N : Int) ∧ i = .int .i64 k ∧ (N = B + ((ml.take k).map methN).sum ∨ (5000 ≤ N ∧ 5000 ≤ T)) ∧ N ≤ 900000000000000 ∧ Below w0.heap.size w0 wr) (fun _ i _ => m1n - (intOf i).toNat)
  case atStart => exact ⟨0, B, by omega, rfl, rfl, .inl (by simp), by omega, Below.refl _ _⟩
  case round =>
    obtain ⟨k, N, hk, rfl, rfl, hN, hNb, hR⟩ := hrel
    have HN := hide hN
    have HR := hide hR
    have k0 := unhide KL _ hR
    clear hN
    have done : (¬ k < m1n ∨ ¬ N < 5000) → decide ((N : Int) < 5000) = decide (T < 5000) := fun hd => by
      have h := unhide HN
      have hT := unhide HTT
      have hle := sum_take_le methN ml k
      have hml : ml.length = m1n := by rw [unhide HSM, List.length_map]; exact hl
      rcases h with h | h
      · by_cases h5 : N < 5000
        · have hkm : ml.take k = ml := List.take_of_length_le (by omega)
          rw [hkm] at h
          have : T = N := by omega
          rw [this]
          congr 1
          exact propext ⟨fun h => by omega, fun h => by omega⟩
        · rw [decide_eq_false (by omega), decide_eq_false (by omega)]
      · rw [decide_eq_false (by omega), decide_eq_false (by omega)]
    by_cases hlt : k < m1n
    · have hlt1 : (k : Int) < (m1n : Int) := by omega
      by_cases h5 : N < 5000
      · have h51 : (N : Int) < 5000 := by omega
        clear done
        obtain ⟨b1, o1, h1a, h1⟩ := Ls.row (unhide HM) (w' := w) (by omega)
        subst h1a
        obtain ⟨x, hx⟩ : ∃ x, mr[k]? = some x := ⟨_, List.getElem?_eq_getElem (by omega)⟩
        have hmx : ml[k]? = some x.m := by rw [unhide HSM, List.getElem?_map, hx]; rfl
        have hMd := unhide HME x (List.mem_of_getElem? hx)
        have hstep := sum_take_succ methN hmx
        have hle := sum_take_le methN ml (k + 1)
        have q1 := h1 hR k x hx
        obtain ⟨xm, ⟨xBa, xBn, xBc⟩, ⟨xHa, xHn, xHc⟩, ⟨xMa, xMn, xMc⟩, xr⟩ := x
        have c3 := q1 3 _ rfl
        have c4 := q1 4 _ rfl
        have c5 := q1 5 _ rfl
        have c6 := q1 6 _ rfl
        have c7 := q1 7 _ rfl
        simp only [Sl.v] at c3 c4 c5 c6 c7
        have hbn := hMd.bs.bs.1
        have hbs := hMd.few
        have hhn := hMd.hs.ls.1
        have hhs := hMd.hs.small
        have hmn := hMd.maps.ls.1
        have hms := hMd.maps.small
        have hmm := hMd.same
        simp only at hbn hbs hhn hhs hmn hms hmm
        have HMM := hide hMd.maps.ls
        have HMEa := hide hMd.maps.each
        simp only at HMM HMEa
        obtain ⟨w3, e3, f3, K3⟩ := one_local wr #[.int .i64 xm.code.stack, .int .i64 xm.code.locals, .slice xBa xBn xBc, .slice xHa xHn xHc, .slice xMa xMn xMc] 47
        have KI : Hid (∀ W, Below w3.heap.size w3 W → W.cell? ⟨wr.heap.size, 4, none⟩ = some (.slice xMa xMn xMc)) := fun W f => K3 W f 4 _ rfl
        have E3 := hide e3
        have F3 := hide (hR.trans (f3.mono hR.size))
        obtain ⟨N1, hN1⟩ : ∃ N1 : Nat, N1 = N + (xBn + xHn) := ⟨_, rfl⟩
        have hN2 : (N : Int) + ((xBn : Int) + (xHn : Int)) = (N1 : Int) := by omega
        have hN1b : N1 ≤ 300000000000000 := by omega
        have hmeth : methN xm = xBn + xHn + mapsN xm.code.maps := by unfold methN; rw [hbn, hhn]
        have HFIN : Hid (∀ j, N1 + ((xm.code.maps.take j).map fun m => 1 + m.loc.length + m.stk.length).sum ≤ T) := fun j => by
          have hT := unhide HTT
          have hs := sum_take_le (fun m : Mp => 1 + m.loc.length + m.stk.length) xm.code.maps j
          have hd : mapsN xm.code.maps = (xm.code.maps.map fun m => 1 + m.loc.length + m.stk.length).sum := rfl
          have h := (unhide HN).resolve_right (fun h => by omega)
          rw [hstep] at hle
          simp only at hle
          omega
        have HEND : Hid (∀ j, xMn ≤ j → N1 + ((xm.code.maps.take j).map fun m => 1 + m.loc.length + m.stk.length).sum = B + ((ml.take (k + 1)).map methN).sum) := fun j hj => by
          have hd : mapsN xm.code.maps = (xm.code.maps.map fun m => 1 + m.loc.length + m.stk.length).sum := rfl
          have hlen : xm.code.maps.length ≤ j := by rw [hmm, List.length_map]; omega
          rw [List.take_of_length_le hlen]
          have h := (unhide HN).resolve_right (fun h => by omega)
          rw [hstep]
          simp only
          omega
        have HMX := hide hmm
        clear h1 q1 hx hmx hMd e3 f3 K3 hR hstep hle hmeth hN1 hmm
        go_wp2
        rw [unhide E3]
        clear c3 c4 c5 c6 c7 k0
        go_loopw [3, 6] (fun nv kv wr2 => ∃ j M : Nat, j ≤ xMn ∧ nv = .int .i64 (M : Int) ∧ kv = .int .i64 j ∧ M = N1 + ((xm.code.maps.take j).map fun m => 1 + m.loc.length + m.stk.length).sum ∧ M ≤ 900000000000000 ∧ Below w3.heap.size w3 wr2) (fun _ kv _ => xMn - (intOf kv).toNat)
        case atStart => exact ⟨0, N1, by omega, rfl, rfl, by simp, by omega, Below.refl _ _⟩
        case round =>
          obtain ⟨j, M, hj, rfl, rfl, hM, hMb, hR2⟩ := hrel
          have k1 := unhide KI _ hR2
          have HM2 := hide hM
          have HR2 := hide ((unhide F3).trans (hR2.mono (unhide F3).size))
          clear hM
          by_cases hjl : j < xMn
          · have hjl1 : (j : Int) < (xMn : Int) := by omega
            by_cases hM5 : M < 5000
            · have hM51 : (M : Int) < 5000 := by omega
              obtain ⟨b2, o2, h2a, h2⟩ := Ls.row (unhide HMM) (w' := w) (by omega)
              subst h2a
              obtain ⟨z, hz⟩ : ∃ z, xr[j]? = some z := ⟨_, List.getElem?_eq_getElem (by omega)⟩
              have hmz : xm.code.maps[j]? = some z.m := by rw [unhide HMX, List.getElem?_map, hz]; rfl
              have hst2 := sum_take_succ (fun m : Mp => 1 + m.loc.length + m.stk.length) hmz
              have q2 := h2 (unhide HR2) j z hz
              have hZ := unhide HMEa z (List.mem_of_getElem? hz)
              obtain ⟨zm, ⟨la, ln, lc⟩, ⟨sa, sn, sc⟩⟩ := z
              have d1 := q2 1 _ rfl
              have d2 := q2 2 _ rfl
              simp only [Sl.v] at d1 d2
              have hl1 := hZ.loc.ls.1
              have hl2 := hZ.loc.small
              have hl3 := hZ.stk.ls.1
              have hl4 := hZ.stk.small
              simp only at hl1 hl2 hl3 hl4 hst2
              obtain ⟨M2, hM2⟩ : ∃ M2 : Nat, M2 = M + (1 + ln + sn) := ⟨_, rfl⟩
              have hM3 : (M : Int) + (1 + (ln : Int) + (sn : Int)) = (M2 : Int) := by omega
              have HNX : Hid (M2 = N1 + ((xm.code.maps.take (j + 1)).map fun m => 1 + m.loc.length + m.stk.length).sum) := by
                show M2 = _
                rw [hst2, hl1, hl3, hM2, unhide HM2]
                omega
              have hM2b : M2 ≤ 900000000000000 := by omega
              have F4 := hide hR2
              clear h2 hz hmz hst2 q2 hZ hM2 hR2
              go_wp2
              go_quiet (fail)
              go_wp2
              go_roundw
              case rel => exact ⟨j + 1, M2, by omega, rfl, by go_num, unhide HNX, hM2b, below_drewN (unhide F4) _⟩
              case measure => simp [intOf]; omega
            · have hM51 : ¬ (M : Int) < 5000 := by omega
              clear hR2
              go_wp2
              go_roundw
              case rel => exact ⟨k + 1, M, by omega, rfl, by go_num, .inr ⟨by omega, by have := unhide HFIN j; rw [← unhide HM2] at this; omega⟩, hMb, unhide HR2⟩
              case measure => simp [intOf]; omega
          · clear hR2
            go_wp2
            go_roundw
            case rel => exact ⟨k + 1, M, by omega, rfl, by go_num, .inl ((unhide HM2).trans (unhide HEND j (by omega))), hMb, unhide HR2⟩
            case measure => simp [intOf]; omega
      · have h51 : ¬ (N : Int) < 5000 := by omega
        have hd : decide (T < 5000) = false := by rw [← done (.inr h5)]; exact decide_eq_false h51
        have HD := hide hd
        clear done hR hd
        go_wp2
        go_ret
        exact ⟨by rw [unhide HD]; rfl, (unhide F0).trans ((unhide HR).mono (unhide F0).size)⟩
    · obtain rfl : k = m1n := by omega
      have hd := done (.inl hlt)
      clear done hR
      go_wp2
      go_ret
      exact ⟨rfl, (unhide F0).trans ((unhide HR).mono (unhide F0).size)⟩
end Go.Proofs.YthhdfokcciibmaaGreatDoor
