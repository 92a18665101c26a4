/- Layer 16, the document's side: more, Reach. -/
import Derived.Test.YtnnanlniffjnkaaJUrA
import Derived.Test.YtnnanlniffjnkaaJUaB
import Derived.Test.YtnnanlniffjnkaaJUaD
import Derived.Test.YtnnanlniffjnkaaJUaF
import Derived.Test.YtnnanlniffjnkaaJUaM
import Derived.Test.YtnnanlniffjnkaaJY3

namespace Go.Proofs.Ytnnanlniffjnkaa
open Go.RowKit
set_option linter.unusedVariables false
set_option maxRecDepth 100000

theorem mem_qi {q : List Nat} {n : Nat} : ((n : Nat) : Int) ∈ qi q ↔ n ∈ q := by
  unfold qi
  rw [List.mem_map]
  constructor
  · rintro ⟨a, ha, he⟩
    have : a = n := by omega
    exact this ▸ ha
  · exact fun h => ⟨n, h, rfl⟩
def Mr (w0 w : World) (B : Nat) (l : List Ob) (q : List Nat) (vs : List Vl) (v : Value) (k : Nat) (W : World) : Prop := Orw i15 3 1 W B v (qi (moreQ l q (vs.take k))) ∧ Below B w W
set_option maxHeartbeats 1600000 in
theorem rmore_any (w0 w : World) (s : Sl) (rs : List ObR) (h : HIn w0 s rs) (f : Below w0.heap.size w0 w) (B : Nat) (hB : w0.heap.size ≤ B) (hB2 : B ≤ w.heap.size) (hrl : rs.length ≤ 100000) (q : List Nat) (hq : InQ (rs.map ObR.o) q) (v : Value) (hv : Orw i15 3 1 w B v (qi q)) (t : Sl) (vs : List Vl) (ht : WsIn w0 t vs) :
    Calls Try.prog 29 #[s.v, v, t.v] w fun e w' => ∃ v', e = .returned v' ∧ Orw i15 3 1 w' B v' (qi (moreQ (rs.map ObR.o) q vs)) ∧ Below B w w' := by
  obtain ⟨sa, sn, sc⟩ := s
  obtain ⟨ta, tn, tc⟩ := t
  have htn : vs.length = tn := ht.ls.1
  have htm := ht.small
  simp only at htm
  simp only [Sl.v]
  have HI := hide h
  have HV := hide ht
  have HQ := hide hq
  have H0 : Hid (Mr w0 w B (rs.map ObR.o) q vs v 0 w) := ⟨hv, Below.refl _ _⟩
  have HF := hide f
  have HL : Hid (∀ k, (moreQ (rs.map ObR.o) q (vs.take k)).length ≤ 100000) := fun k => by
    have := ((unhide HQ).more (vs.take k)).le
    rw [List.length_map] at this
    omega
  have HP : Hid (∀ k, ∀ n ∈ moreQ (rs.map ObR.o) q (vs.take k), n ≤ 100000) := fun k n hn => by
    have := (liveN_le (((unhide HQ).more (vs.take k)).2 n hn)).2.1
    rw [List.length_map] at this
    omega
  clear h ht hq hv f
  go_enter Try.func29, Try.ntmps29
  go_wp2
  go_loopw [1, 7] (fun o i wr => ∃ k : Nat, k ≤ tn ∧ i = .int .i64 k ∧ Mr w0 w B (rs.map ObR.o) q vs o k wr) (fun _ i _ => tn - (intOf i).toNat)
  case atStart => exact ⟨0, by omega, rfl, unhide H0⟩
  case round =>
    obtain ⟨k, hk, rfl, hO, hBW⟩ := hrel
    by_cases hlt : k < tn
    · have hlt1 : (k : Int) < (tn : Int) := by omega
      have hk0 : (0 : Int) ≤ (k : Int) := by omega
      obtain ⟨x, hx⟩ : ∃ x, vs[k]? = some x := ⟨_, List.getElem?_eq_getElem (by omega)⟩
      obtain ⟨b, o, ea, qq⟩ := memb_row (unhide HV) hx
      simp only at ea
      subst ea
      have hw0 : Below w0.heap.size w0 wr := (unhide HF).trans (hBW.mono hB)
      have c0 := (qq hw0).zero
      have c1 := (qq hw0) 1 _ rfl
      have HLD := hide (rleads_any wr ⟨sa, sn, sc⟩ rs ((unhide HI).below hw0) x)
      have hst := moreQ_take (l := rs.map ObR.o) (q := q) hx
      obtain ⟨q1, hq1⟩ : ∃ q1, q1 = moreQ (rs.map ObR.o) q (vs.take k) := ⟨_, rfl⟩
      obtain ⟨n, hn⟩ : ∃ n, n = leadsN (rs.map ObR.o) x := ⟨_, rfl⟩
      have hl1 := (unhide HL) k
      rw [← hq1] at hst hO hl1
      have hs2 : stepQ (rs.map ObR.o) q1 x = if n ≠ 0 ∧ n ∉ q1 then q1 ++ [n] else q1 := by rw [hn]; rfl
      rw [hs2] at hst
      have HST := hide hst
      rw [← hn] at HLD
      have hnl : n ≤ 100000 := by
        rw [hn]
        by_cases h0 : leadsN (rs.map ObR.o) x = 0
        · omega
        · have := (liveN_le (leads_live h0).1).2.1
          rw [List.length_map] at this
          omega
      have HO := hide hO
      have HB := hide hBW
      obtain ⟨oa, oc, hov, _⟩ := hO.form
      rw [qi_len] at hov
      subst hov
      have HHS : Hid (∀ W, Below wr.heap.size wr W → Calls Try.prog 34 #[.slice oa q1.length oc, .int .i64 (n : Int)] W fun e w' => e = .returned (.bool (decide (n ∈ q1))) ∧ w' = W) := fun W g => by
        have h1 := Orw.ls rkI15 (orw_on (unhide HO) g)
        have := v16has_any W oa q1.length oc (qi q1) h1 (by omega) (n : Int)
        exact this.mono (by rintro e w' ⟨rfl, rfl⟩; exact ⟨by rw [show decide ((n : Int) ∈ qi q1) = decide (n ∈ q1) from by simp only [mem_qi]], rfl⟩)
      clear qq hx hst hs2 hq1 hn hO hBW hw0
      obtain ⟨xk, xn⟩ := x
      simp only [Sl.v] at HLD c0 c1
      go_wp2_with fail
      refine (unhide HLD).mono ?_
      rintro e w1 ⟨rfl, f1⟩
      have HO1 := hide (orw_on (unhide HO) f1)
      have HB1 := hide ((unhide HB).trans (f1.mono (Nat.le_trans hB2 (unhide HB).size)))
      have HHS1 := hide (unhide HHS w1 f1)
      clear f1 HO HB HLD HHS c0 c1
      by_cases hn0 : n = 0
      · have HS1 : Hid (moreQ (rs.map ObR.o) q (vs.take (k + 1)) = q1) := by rw [unhide HST, if_neg (fun c => c.1 hn0)]; rfl
        subst hn0
        clear HST HHS1
        go_wp2
        go_roundw
        case rel => exact ⟨k + 1, by omega, by go_num, by rw [unhide HS1]; exact unhide HO1, unhide HB1⟩
        case measure => simp [intOf]; omega
      · have hn1 : (0 : Int) < (n : Int) := by omega
        by_cases hm : n ∈ q1
        · have HS1 : Hid (moreQ (rs.map ObR.o) q (vs.take (k + 1)) = q1) := by rw [unhide HST, if_neg (fun c => c.2 hm)]; rfl
          rw [decide_eq_true hm] at HHS1
          clear HST hm
          go_wp2_with fail
          refine (unhide HHS1).mono ?_
          rintro e w1' ⟨rfl, rfl⟩
          go_wp2
          go_roundw
          case rel => exact ⟨k + 1, by omega, by go_num, by rw [unhide HS1]; exact unhide HO1, unhide HB1⟩
          case measure => simp [intOf]; omega
        · have HS1 : Hid (moreQ (rs.map ObR.o) q (vs.take (k + 1)) = q1 ++ [n]) := by rw [unhide HST, if_pos ⟨hn0, hm⟩]; rfl
          rw [decide_eq_false hm] at HHS1
          clear HST hm
          go_wp2_with fail
          refine (unhide HHS1).mono ?_
          rintro e w1' ⟨rfl, rfl⟩
          have hal := (Below.refl w1'.heap.size w1').alloc (Nat.le_refl _) (.cells #[.int .i64 (n : Int)] 3)
          have HO3 := hide (orw_on (unhide HO1) hal)
          have HL3 : Hid (Ls 1 i15 (w1'.alloc (.cells #[.int .i64 (n : Int)] 3)) (some ⟨w1'.heap.size, 0, none⟩) 1 [(n : Int)]) := ls_one w1' _ _ _ rfl
          have hsz := Nat.le_trans hB2 (unhide HB1).size
          have HB3 := hide ((unhide HB1).trans (hal.mono hsz))
          have HSZ3 : Hid (B ≤ (w1'.alloc (.cells #[.int .i64 (n : Int)] 3)).heap.size) := Nat.le_trans hsz hal.size
          have hln1 : ((qi q1).length + 1) * 8 ≤ 140737488355328 := by rw [qi_len]; omega
          have hln2 : (qi q1).length + 1 ≤ 140737488355328 := by rw [qi_len]; omega
          have HLN1 := hide hln1
          have HLN2 := hide hln2
          have HQL : Hid ((qi q1).length = q1.length) := qi_len q1
          clear hal hsz hln1 hln2 HHS1
          go_wp2_with (at_builtin; refine listR_append rkI15 rfl _ _ rfl B _ (qi q1) (by rfl) (unhide HO3) _ 1 1 [_] rfl (unhide HL3) (fun e => by cases e) (unhide HLN1) (unhide HLN2) (unhide HSZ3) ?_)
          intro v' w5 o4 g4
          have F5 : Hid (Below B w w5) := (unhide HB3).grown g4 (unhide HSZ3) (fun i hi => ((unhide HO3).lt i hi).1)
          have HO4 := hide o4
          clear o4 g4 HO3 HL3 HB3 HLN1 HLN2
          go_wp2
          go_roundw
          case rel => exact ⟨k + 1, by omega, by go_num, by rw [unhide HS1, qi_append]; exact unhide HO4, unhide F5⟩
          case measure => simp [intOf]; omega
    · obtain rfl : k = tn := by omega
      rw [List.take_of_length_le (by omega)] at hO
      have HO := hide hO
      have HB := hide hBW
      clear hO hBW
      go_wp2
      go_ret
      exact ⟨_, rfl, unhide HO, unhide HB⟩
set_option maxHeartbeats 1600000 in
theorem rReach_any (w : World) (s : Sl) (rs : List ObR) (h : HIn w s rs) (t : Sl) (vs : List Vl) (hv : WsIn w t vs) :
    Calls Try.prog 12 #[s.v, t.v] w fun e w' => ∃ v, e = .returned (.tuple #[v, .int .i64 (checkE (rs.map ObR.o))]) ∧ Orw i15 3 1 w' w.heap.size v (qi (reachV (rs.map ObR.o) vs)) ∧ Below w.heap.size w w' := by
  have HC := hide (rcheck_any w s rs h)
  obtain ⟨sa, sn, sc⟩ := s
  obtain ⟨ta, tn, tc⟩ := t
  have hln : rs.length = sn := h.ls.1
  simp only [Sl.v] at HC ⊢
  have HI := hide h
  have HV := hide hv
  clear h hv
  obtain ⟨ce, hce⟩ : ∃ ce, ce = checkE (rs.map ObR.o) := ⟨_, rfl⟩
  have HCE := hide hce
  rw [← hce] at HC
  clear hce
  go_enter Try.func12, Try.ntmps12
  go_wp2_with fail
  refine (unhide HC).mono ?_
  rintro e w1 ⟨rfl, f1⟩
  have F1 := hide f1
  clear f1 HC
  by_cases h0 : ce = 0
  case neg =>
    have HR : Hid (reachV (rs.map ObR.o) vs = []) := by
      unfold Hid reachV
      rw [← unhide HCE, if_neg h0]
    go_wp2
    go_ret2
    exact ⟨_, by rw [← unhide HCE]; rfl, by rw [unhide HR]; exact Orw.nil _ _ _ _ _, unhide F1⟩
  subst h0
  have HR : Hid (reachV (rs.map ObR.o) vs = reachH (rs.map ObR.o) vs) := by
    unfold Hid reachV
    rw [← unhide HCE, if_pos rfl]
  have hck := check_fit (unhide HCE).symm
  rw [List.length_map] at hck
  have hal := (Below.refl w1.heap.size w1).alloc (Nat.le_refl _) (.cells #[] 3)
  have f2 := (unhide F1).trans (hal.mono (unhide F1).size)
  have hown : Orw i15 3 1 (w1.alloc (.cells #[] 3)) w.heap.size (.slice (some ⟨w1.heap.size, 0, none⟩) 0 0) (qi []) := Orw.made _ _ _ w1 _ (unhide F1).size
  have HM := hide (rmore_any w _ ⟨sa, sn, sc⟩ rs (unhide HI) f2 w.heap.size (Nat.le_refl _) f2.size (by omega) [] (InQ.nil _) _ hown ⟨ta, tn, tc⟩ vs (unhide HV))
  have F2 := hide f2
  simp only [Sl.v] at HM
  clear hal f2 hown F1
  go_wp2_with fail
  refine (unhide HM).mono ?_
  rintro e w3 ⟨v3, rfl, o3, f3⟩
  have H0 : Hid (Orw i15 3 1 w3 w.heap.size v3 (qi (rounds (rs.map ObR.o) vs 0)) ∧ Below w.heap.size w w3) := ⟨o3, (unhide F2).trans f3⟩
  have HRL : Hid (∀ k, (rounds (rs.map ObR.o) vs k).length ≤ sn) := fun k => by
    have := (rounds_in (rs.map ObR.o) vs k).le
    rw [List.length_map] at this
    omega
  clear o3 f3 HM F2
  go_wp2
  go_loopw [7, 8] (fun o i wr => ∃ k : Nat, k ≤ (rounds (rs.map ObR.o) vs k).length ∧ i = .int .i64 k ∧ Orw i15 3 1 wr w.heap.size o (qi (rounds (rs.map ObR.o) vs k)) ∧ Below w.heap.size w wr) (fun _ i _ => sn - (intOf i).toNat)
  case atStart => exact ⟨0, by omega, rfl, unhide H0⟩
  case round =>
    obtain ⟨k, hk, rfl, hO, hBW⟩ := hrel
    have hrk := (unhide HRL) k
    obtain ⟨oa, oc, hov, _⟩ := hO.form
    rw [qi_len] at hov
    subst hov
    by_cases hlt : k < (rounds (rs.map ObR.o) vs k).length
    · obtain ⟨n, hn⟩ : ∃ n, (rounds (rs.map ObR.o) vs k)[k]? = some n := ⟨_, List.getElem?_eq_getElem hlt⟩
      have hlv := liveN_le ((rounds_in (rs.map ObR.o) vs k).2 n (List.mem_of_getElem? hn))
      rw [List.length_map] at hlv
      obtain ⟨j, rfl⟩ : ∃ j, n = j + 1 := ⟨n - 1, by omega⟩
      obtain ⟨r, hr⟩ : ∃ r, rs[j]? = some r := ⟨_, List.getElem?_eq_getElem (by omega)⟩
      have hnx := rounds_next hn
      have hwo : wordsOf (rs.map ObR.o) (j + 1) = r.ws := by
        have e1 : (rs.map ObR.o)[j + 1 - 1]? = some r.o := by simpa using congrArg (Option.map ObR.o) hr
        unfold wordsOf
        rw [e1]
        rfl
      rw [hwo] at hnx
      have HNX := hide hnx
      obtain ⟨b, o, ea, qq⟩ := memb_row (unhide HI) hr
      simp only at ea
      subst ea
      obtain ⟨b2, o2, ea2, q2⟩ := Ls.row (Orw.ls rkI15 hO) (w' := wr) (by rw [qi_len] at *; omega)
      subst ea2
      have d0 : wr.cell? ⟨b2, o2 + k, none⟩ = some (.int .i64 (((j + 1 : Nat)) : Int)) := by
        have hq : (qi (rounds (rs.map ObR.o) vs k))[k]? = some (((j + 1 : Nat)) : Int) := by simp [qi, hn]
        simpa using (q2 (Below.refl _ _) k _ hq).zero
      have c1 := (qq hBW) 1 _ rfl
      have HMR := hide (rmore_any w wr ⟨some ⟨b, o, none⟩, sn, sc⟩ rs (unhide HI) hBW w.heap.size (Nat.le_refl _) hBW.size (by omega) _ (rounds_in _ _ k) _ hO r.s r.ws ((unhide HI).each _ (List.mem_of_getElem? hr)))
      have HB := hide hBW
      rw [show (((j + 1 : Nat)) : Int) = (j : Int) + 1 by omega] at d0
      have hw1 : IntKind.i64.wrap (j : Int) = (j : Int) := by rw [IntKind.wrap_i64]; omega
      have hj2 : (0 : Int) ≤ (j : Int) := by omega
      have hj3 : (j : Int) < (sn : Int) := by omega
      obtain ⟨ty, ⟨ra, rn, rc⟩, ws⟩ := r
      simp only [Sl.v] at HMR c1
      obtain ⟨L, hL⟩ : ∃ L, L = (rounds (rs.map ObR.o) vs k).length := ⟨_, rfl⟩
      rw [← hL] at hlt hrk HMR ⊢
      have hlt1 : (k : Int) < (L : Int) := by omega
      have HLE : Hid (k + 1 ≤ (rounds (rs.map ObR.o) vs (k + 1)).length) := by
        have h1 := (rounds_pre1 (rs.map ObR.o) vs k).length_le
        unfold Hid
        omega
      clear hn hnx hr qq q2 hO hBW hwo hL hlv
      go_wp2_with fail
      refine (unhide HMR).mono ?_
      rintro e w4 ⟨v4, rfl, o4, f4⟩
      have HO4 := hide o4
      have HB4 := hide ((unhide HB).trans f4)
      clear o4 f4 HMR HB d0 c1
      go_wp2
      go_roundw
      case rel => exact ⟨k + 1, unhide HLE, by go_num, by rw [unhide HNX]; exact unhide HO4, unhide HB4⟩
      case measure => simp [intOf]; omega
    · have he := rounds_end (l := rs.map ObR.o) (roots := vs) (k := k) (by omega)
      rw [he] at hO
      have HO := hide hO
      have HB := hide hBW
      have hkl : k = (rounds (rs.map ObR.o) vs k).length := by omega
      rw [he] at hkl
      rw [he, ← hkl]
      rw [← hkl] at HO
      have hlt1 : ¬ (k : Int) < (k : Int) := by omega
      clear hO hBW he hkl hlt hk hrk
      go_wp2
      go_ret2
      exact ⟨_, by rw [← unhide HCE]; rfl, by rw [unhide HR]; exact unhide HO, unhide HB⟩
end Go.Proofs.Ytnnanlniffjnkaa
