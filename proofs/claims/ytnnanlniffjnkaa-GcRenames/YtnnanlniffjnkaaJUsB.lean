/- Layer 16: the chapter's example works. -/
import Derived.Test.YtnnanlniffjnkaaJUsA

namespace Go.Proofs.Ytnnanlniffjnkaa
open Go.RowKit
set_option linter.unusedVariables false
set_option maxRecDepth 100000

theorem ob3_check : checkE ob3 = 0 := by decide
theorem ob3_reach : reachH ob3 [⟨4, 1⟩] = [1, 3] := by rfl
theorem ob3_reachV : reachV ob3 [⟨4, 1⟩] = [1, 3] := by rfl
theorem ob3_sweep : sweepL ob3 [⟨4, 1⟩] = [⟨[97], [⟨4, 3⟩]⟩, zeroO, ⟨[99], []⟩] := by rfl
theorem ob3_gone : goneN ob3 [⟨4, 1⟩] = 1 := by rfl
theorem ob3_canonO : canonO ob3 [⟨4, 1⟩] = [⟨[97], [⟨4, 2⟩]⟩, ⟨[99], []⟩] := by rfl
theorem ob3_canonV : canonV ob3 [⟨4, 1⟩] = [⟨4, 1⟩] := by rfl
theorem ob3_fit {rs : List ObR} (h : rs.map ObR.o = ob3) : ∀ r ∈ rs, VFit r.ws := fun r hr => by
  have h1 : r.o ∈ ob3 := h ▸ List.mem_map_of_mem (f := ObR.o) hr
  have h2 : r.ws = r.o.ws := rfl
  rw [h2]
  simp only [ob3, List.mem_cons, List.not_mem_nil, or_false] at h1
  rcases h1 with h1 | h1 | h1 <;> rw [h1] <;> intro v hv <;> simp at hv
  subst hv
  show -9223372036854775808 ≤ (3 : Int) ∧ (3 : Int) ≤ 9223372036854775807
  omega
set_option maxHeartbeats 1600000 in
theorem works16_any (w : World) : Calls Try.prog 17 #[] w fun e w' => e = .returned (.bool true) ∧ Below w.heap.size w w' := by
  obtain ⟨w1, hw1⟩ : ∃ w1, w1 = w.alloc (.cells #[.int .i64 4, .int .i64 1] 47) := ⟨_, rfl⟩
  have f1 : Below w.heap.size w w1 := by rw [hw1]; exact (Below.refl _ _).alloc (Nat.le_refl _) _
  have HR1 : Hid (WsIn w1 ⟨some ⟨w.heap.size, 0, none⟩, 1, 1⟩ [⟨4, 1⟩]) := by rw [hw1]; exact wsIn_one w ⟨4, 1⟩
  have HT := hide (three_any w1)
  have F1 := hide f1
  clear f1
  go_enter Try.func17, Try.ntmps17
  go_wp2_with fail
  rw [← hw1]
  clear hw1
  refine (unhide HT).mono ?_
  rintro e w2 ⟨s2, rs2, rfl, hi2, hm2, f2⟩
  have HRE := hide (Reach_any w2 rs2 hi2 _ _ ((unhide HR1).below f2))
  rw [hm2, ob3_check, ob3_reachV] at HRE
  obtain ⟨a2, n2, c2⟩ := s2
  simp only [Sl.v] at HRE ⊢
  have F2 := hide f2
  clear hi2 hm2 f2 HT
  go_wp2_with fail
  refine (unhide HRE).mono ?_
  rintro e w3 ⟨v3, rfl, o3, f3⟩
  obtain ⟨a3, c3, rfl, _⟩ := o3.form
  have h12 := (unhide F2).trans (f3.mono (unhide F2).size)
  have HT := hide (three_any w3)
  have F3 := hide h12
  have O3 := hide o3
  clear HRE F2 f3 o3 h12
  go_wp2_with fail
  refine (unhide HT).mono ?_
  rintro e w4 ⟨s4, rs4, rfl, hi4, hm4, f4⟩
  have h14 := (unhide F3).trans (f4.mono (unhide F3).size)
  have HSW := hide (Sweep_any w4 rs4 hi4 _ _ ((unhide HR1).below h14))
  rw [hm4, ob3_check, ob3_sweep, ob3_gone] at HSW
  have O4 := hide (orw_on (unhide O3) f4)
  obtain ⟨a4, n4, c4⟩ := s4
  simp only [Sl.v] at HSW ⊢
  have F4 := hide h14
  clear hi4 hm4 f4 HT F3 O3 h14
  go_wp2_with fail
  refine (unhide HSW).mono ?_
  rintro e w5 ⟨f5, hd5⟩
  obtain ⟨g5, k5, dn5, rfl, hown5, hs5⟩ : ∃ g k dn, e = .returned (.tuple #[.slice (some ⟨g, 0, none⟩) k k, .int .i64 1, .int .i64 0]) ∧ HOwn w5 w4.heap.size (.slice (some ⟨g, 0, none⟩) k k) dn ∧ dn.map ObR.o = [⟨[97], [⟨4, 3⟩]⟩, zeroO, ⟨[99], []⟩] := by
    rcases hd5 with ⟨h, _⟩ | ⟨_, h⟩
    · exact absurd rfl h
    · exact h
  have hl5 : dn5.length = 3 := by have := congrArg List.length hs5; simpa using this
  obtain rfl : k5 = 3 := by
    obtain ⟨_, _, e', _⟩ := hown5.row.form
    injection e' with _ e2 _
    omega
  have h15 := (unhide F4).trans (f5.mono (unhide F4).size)
  have HT := hide (three_any w5)
  have F5 := hide h15
  have O5 := hide (orw_on (unhide O4) f5)
  have HO5 := hide (And.intro hown5 hs5)
  clear HSW f5 hd5 hown5 hs5 h15 F4 O4
  go_wp2_with fail
  refine (unhide HT).mono ?_
  rintro e w6 ⟨s6, rs6, rfl, hi6, hm6, f6⟩
  have h16 := (unhide F5).trans (f6.mono (unhide F5).size)
  have HCA := hide (Canon_any w6 rs6 hi6 _ _ ((unhide HR1).below h16) (ob3_fit hm6) (by intro v hv; simp at hv; subst hv; show -9223372036854775808 ≤ (1 : Int) ∧ (1 : Int) ≤ 9223372036854775807; omega))
  rw [hm6, ob3_check, ob3_canonO, ob3_canonV] at HCA
  have O6 := hide (orw_on (unhide O5) f6)
  have HO6 := hide (And.intro ((unhide HO5).1.below f6) (unhide HO5).2)
  obtain ⟨a6, n6, c6⟩ := s6
  simp only [Sl.v] at HCA ⊢
  have F6 := hide h16
  clear hi6 hm6 f6 HT F5 O5 HO5 h16
  go_wp2_with fail
  refine (unhide HCA).mono ?_
  rintro e w7 ⟨f7, hd7⟩
  obtain ⟨v7, u7, dn7, rfl, hown7, hs7, hu7⟩ : ∃ v u dn, e = .returned (.tuple #[v, u, .int .i64 0]) ∧ HOwn w7 w6.heap.size v dn ∧ dn.map ObR.o = [⟨[97], [⟨4, 2⟩]⟩, ⟨[99], []⟩] ∧ Orw vlc 47 2 w7 w6.heap.size u [⟨4, 1⟩] := by
    rcases hd7 with ⟨h, _⟩ | ⟨_, h⟩
    · exact absurd rfl h
    · exact h
  have hl7 : dn7.length = 2 := by have := congrArg List.length hs7; simpa using this
  obtain ⟨av, cv, rfl, _⟩ := hown7.row.form
  obtain ⟨au, cu, rfl, _⟩ := hu7.form
  have h17 := (unhide F6).trans (f7.mono (unhide F6).size)
  obtain ⟨w8, hw8⟩ : ∃ w8, w8 = w7.alloc (.cells #[.int .i64 1, .int .i64 3] 3) := ⟨_, rfl⟩
  have f8 : Below w7.heap.size w7 w8 := by rw [hw8]; exact (Below.refl _ _).alloc (Nat.le_refl _) _
  have hA : Ls 1 i15 w8 a3 2 [1, 3] := Orw.ls rkI15 (orw_on (orw_on (unhide O6) f7) f8)
  have hBl : Ls 1 i15 w8 (some ⟨w7.heap.size, 0, none⟩) 2 [1, 3] := by
    have := heap_alloc_last w7 (.cells #[.int .i64 1, .int .i64 3] 3)
    rw [← hw8] at this
    exact ls_block (cs := i15) (sz := 1) (fun _ => rfl) this rfl
  have HSI := hide (SameInts_15 w8 a3 (some ⟨w7.heap.size, 0, none⟩) 2 c3 2 [1, 3] hA hBl (by omega))
  have H5 := hide (And.intro (((unhide HO6).1.below f7).below f8) (unhide HO6).2)
  have H7 := hide (And.intro (hown7.below f8) hs7)
  have U7 := hide (orw_on hu7 f8)
  have F8 := hide (h17.trans (f8.mono h17.size))
  clear HCA f7 hd7 hown7 hs7 hu7 h17 F6 O6 HO6 hA hBl f8
  simp only [hl7, show qi [1, 3] = [1, 3] from rfl, List.length_cons, List.length_nil, Nat.zero_add, Nat.reduceAdd]
  go_wp2_with fail
  rw [← hw8]
  refine (unhide HSI).mono ?_
  rintro e w9 ⟨rfl, f9⟩
  have F9 := hide ((unhide F8).trans (f9.mono (unhide F8).size))
  have r5 := orw_on (unhide H5).1.row f9
  have hs5 := (unhide H5).2
  have h7 := (unhide H7).1.below f9
  have hs7 := (unhide H7).2
  have u7 := orw_on (unhide U7) f9
  obtain ⟨g', cur, eg, _, _, _, q5⟩ := r5.blkR rkO.len (by omega)
  injection eg with eg
  injection eg with eg
  subst eg
  obtain ⟨x1, hx1⟩ : ∃ x, dn5[1]? = some x := ⟨_, List.getElem?_eq_getElem (by omega)⟩
  have e1 : x1.o = zeroO := by
    have := map_get (f := ObR.o) hx1
    rw [hs5] at this
    injection this with this
    exact this.symm
  have e1t : x1.ty = [] := congrArg Ob.ty e1
  have d5 := q5 1 x1 hx1 0 _ rfl
  rw [e1t] at d5
  obtain ⟨g7, cur7, eg, _, _, _, q7⟩ := h7.row.blkR rkO.len (by omega)
  subst eg
  obtain ⟨x7, hx7⟩ : ∃ x, dn7[0]? = some x := ⟨_, List.getElem?_eq_getElem (by omega)⟩
  have e7 : x7.o = ⟨[97], [⟨4, 2⟩]⟩ := by
    have := map_get (f := ObR.o) hx7
    rw [hs7] at this
    injection this with this
    exact this.symm
  have e7w : x7.ws = [⟨4, 2⟩] := congrArg Ob.ws e7
  have hw7 := h7.each _ (List.mem_of_getElem? hx7)
  have d7 := q7 0 x7 hx7 1 _ rfl
  rw [e7w] at hw7
  obtain ⟨xt, ⟨xa, xn, xc⟩, xw⟩ := x7
  simp only [Sl.v] at hw7 d7
  obtain rfl : xn = 1 := by
    obtain ⟨_, _, e', _⟩ := hw7.form
    injection e' with _ e2 _
  obtain ⟨gw, curw, eg, _, _, _, qw⟩ := hw7.blkR rkV.len (by simp)
  subst eg
  have dw := qw 0 _ rfl 1 _ rfl
  obtain ⟨gu, curu, eg, _, _, _, qu⟩ := u7.blkR rkV.len (by simp)
  subst eg
  have du := qu 0 _ rfl 1 _ rfl
  simp at d5 d7 dw du
  clear HSI H5 H7 U7 F8 f9 r5 h7 u7 q5 q7 qw qu hs5 hs7 hx1 hx7 e1 e1t e7 e7w hw7 hw8
  go_wp2
  go_ret
  exact ⟨rfl, (unhide F1).trans ((unhide F9).mono (unhide F1).size)⟩
end Go.Proofs.Ytnnanlniffjnkaa
