/- The walk of ClassCuts. -/
import Derived.Test.YthhdfokcciibmaaGreatDoorJClBa

namespace Go.Proofs.YthhdfokcciibmaaGreatDoor
open Go.RowKit
set_option linter.unusedVariables false
set_option maxRecDepth 100000

theorem rkB9 : Rk byc 5 29 1 1 (.int .u8 0) := ⟨fun _ => rfl, fun x u hu => by simp [byc] at hu; subst hu; rfl, by decide, by kernel_rfl, rfl, Tryz.underlying29⟩
theorem restR_pool {l : List Ent} {s r : List UInt8} {c : Cl} (h : restR l s = some (c, r)) : c.pool = l := by
  rw [restR_by] at h
  obtain ⟨_, _, h⟩ := Option.bind_eq_some_iff.1 h
  obtain ⟨_, _, h⟩ := Option.bind_eq_some_iff.1 h
  obtain ⟨_, _, h⟩ := Option.bind_eq_some_iff.1 h
  obtain ⟨_, _, h⟩ := Option.bind_eq_some_iff.1 h
  obtain ⟨_, _, h⟩ := Option.bind_eq_some_iff.1 h
  obtain ⟨_, _, h⟩ := Option.bind_eq_some_iff.1 h
  obtain ⟨rfl, _⟩ := got_end h
  rfl
theorem readK_fit {bs : List UInt8} {c : Cl} (hl : bs.length ≤ 1000000) (h : readK bs = some c) : ∀ x ∈ c.pool, EntFit x := by
  unfold readK at h
  split at h
  · cases h
  · split at h
    · cases h
    · obtain ⟨⟨c1, r1⟩, hr, rfl⟩ := Option.map_eq_some_iff.1 h
      rw [restR_pool hr]
      exact (readP_fit8 hl).2
theorem parse_which {bs : List UInt8} (hl : bs.length ≤ 32768) : (parseK bs).2 = 80 ∨ ((parseK bs).2 = 0 ∧ ∃ d, rightK d = true ∧ bytesK d = bs ∧ ∀ x ∈ d.pool, EntFit x) := by
  unfold parseK
  rw [if_neg (by omega)]
  cases hr : readK bs with
  | none => exact .inl rfl
  | some d =>
    simp only
    split
    · rename_i h
      exact .inr ⟨rfl, d, h.1, h.2, readK_fit (by omega) hr⟩
    · exact .inl rfl
theorem bytesK_pos (c : Cl) : 8 ≤ (bytesK c).length := by
  unfold bytesK headK
  simp
theorem cut_none {c : Cl} (hc : errK c = 0) (hf : ∀ x ∈ c.pool, EntFit x) {k : Nat} (hk : k < (bytesK c).length) : (parseK ((bytesK c).take k)).2 = 80 := by
  obtain ⟨h1, h2⟩ := errK_zero hc
  rcases parse_which (bs := (bytesK c).take k) (by rw [List.length_take]; omega) with h | ⟨_, d, h3, h4, h5⟩
  · exact h
  · have := bytesK_front h3 h1 h5 hf (r := (bytesK c).drop k) (by rw [h4]; exact (List.take_append_drop k _).symm)
    have h6 := congrArg List.length this.2
    rw [List.length_drop] at h6
    simp at h6
    omega
theorem more_which {c : Cl} (hc : errK c = 0) (hf : ∀ x ∈ c.pool, EntFit x) (m : List UInt8) : (m = [] ∧ (parseK (bytesK c ++ m)).2 = 0) ∨ (m ≠ [] ∧ ((parseK (bytesK c ++ m)).2 = 80 ∨ (parseK (bytesK c ++ m)).2 = 3)) := by
  obtain ⟨h1, h2⟩ := errK_zero hc
  by_cases hm : m = []
  · subst hm
    rw [List.append_nil, parse_yes hc rfl hf]
    exact .inl ⟨rfl, rfl⟩
  · refine .inr ⟨hm, ?_⟩
    by_cases hl : (bytesK c ++ m).length ≤ 32768
    · rcases parse_which hl with h | ⟨_, d, h3, h4, h5⟩
      · exact .inl h
      · exact absurd (bytesK_front h1 h3 hf h5 h4).2 hm
    · right
      unfold parseK
      rw [if_pos (by omega)]
theorem arg_take {w : World} {a : Option Addr} {n c k : Nat} {l : List UInt8} (h : Arg w a n c l) (h0 : 0 < n) (hk : k ≤ n) : Arg w a k c (l.take k) := by
  have hl := h.bs.1
  refine ⟨⟨by rw [List.length_take]; omega, ?_⟩, Nat.le_trans hk h.room, h.most, fun e => ?_⟩
  · rcases h.bs.2 with h1 | ⟨b, o, e, h1⟩
    · omega
    · refine .inr ⟨b, o, e, (fun e => by cases e), fun ad e2 j u hu => h1.2 ad e2 j u ?_⟩
      unfold bv at hu ⊢
      rw [List.map_take, List.getElem?_take] at hu
      split at hu
      · exact hu
      · cases hu
  · have := h.nil e
    omega
theorem ls_of_arg {w : World} {a : Option Addr} {n c : Nat} {l : List UInt8} (h : Arg w a n c l) : Ls 1 byc w a n l := by
  refine ⟨h.bs.1, ?_⟩
  by_cases h0 : n = 0
  · exact .inl h0
  · rcases h.bs.2 with h1 | ⟨b, o, e, h1⟩
    · exact .inl h1
    · have key : ∀ (k : Nat) (x : UInt8), l[k]? = some x → ∀ (q : Nat) (u : Value), (byc x)[q]? = some u → w.cell? ⟨b, o + k * 1 + q, none⟩ = some u := fun k x hx q u hu => by
        match q, hu with
        | 0, hu =>
          simp [byc] at hu
          have := h1.2 ⟨b, o, none⟩ rfl k u (by unfold bv; rw [List.getElem?_map, hx]; simp [hu])
          rw [Addr.add_mid] at this
          simpa using this
      obtain ⟨x, hx⟩ : ∃ x, l[0]? = some x := ⟨_, List.getElem?_eq_getElem (by have := h.bs.1; omega)⟩
      have hlt := World.block_lt_of_cell? _ _ (key 0 x hx 0 _ rfl)
      exact .inr ⟨b, o, e, hlt, key⟩

set_option maxHeartbeats 3200000 in
theorem cuts_tab8 (P : PrintOk) (Q : ParseOk) (w : World) (hT : Tab8 w) (r : ClR) (cut : Int) (a : Option Addr) (n c : Nat) (bs : List UInt8) (hC : CIn w r) (hA : Arg w a n c bs) (hn : n ≤ 140737488351232) :
    Calls Tryz.prog 6 #[r.v, .int .i64 cut, .slice a n c] w fun e w' => e = .returned (.bool true) ∧ Below w.heap.size w w' := by
  obtain ⟨cc, p1, f1, m1, mr⟩ := r
  obtain ⟨pl, nm, sp, fl, ml⟩ := cc
  obtain ⟨p1a, p1n, p1c⟩ := p1
  obtain ⟨f1a, f1n, f1c⟩ := f1
  obtain ⟨m1a, m1n, m1c⟩ := m1
  obtain ⟨w0, e0, f0, K0⟩ := one_local w #[.slice p1a p1n p1c, .string ⟨nm.toArray⟩, .string ⟨sp.toArray⟩, .slice f1a f1n f1c, .slice m1a m1n m1c] 26
  have hC0 := hC.below f0
  have hA0 := hA.below f0
  have hT0 := hT.below f0
  have hbl : bs.length = n := hA.bs.1
  have HW0 : Hid (Calls Tryz.prog 14 #[] w0 fun e w' => e = .returned (.bool true) ∧ Below w0.heap.size w0 w') := works8_tab P w0 hT0
  have HL0 : Hid (∀ W, Below w0.heap.size w0 W → Calls Tryz.prog 7 #[(⟨⟨pl, nm, sp, fl, ml⟩, ⟨p1a, p1n, p1c⟩, ⟨f1a, f1n, f1c⟩, ⟨m1a, m1n, m1c⟩, mr⟩ : ClR).v] W fun e w' => ∃ b, e = .returned (.bool b) ∧ Below w0.heap.size w0 w') := fun W f => (light8_any W _ (hC0.below f)).mono (by
    rintro e w' ⟨rfl, f'⟩
    exact ⟨_, rfl, f.trans (f'.mono f.size)⟩)
  have HPR : Hid (∀ W, Below w0.heap.size w0 W → Calls Tryz.prog 9 #[(⟨⟨pl, nm, sp, fl, ml⟩, ⟨p1a, p1n, p1c⟩, ⟨f1a, f1n, f1c⟩, ⟨m1a, m1n, m1c⟩, mr⟩ : ClR).v] W fun e w' => (∃ va vc, e = .returned (.tuple #[.slice va (printK ⟨pl, nm, sp, fl, ml⟩).length vc, .int .i64 (errK ⟨pl, nm, sp, fl, ml⟩)]) ∧ Arg w' va (printK ⟨pl, nm, sp, fl, ml⟩).length vc (printK ⟨pl, nm, sp, fl, ml⟩)) ∧ Below w0.heap.size w0 w') := fun W f => (P W _ (hT0.below f) (hC0.below f)).mono (by
    rintro e w' ⟨⟨v, rfl, o⟩, f'⟩
    obtain ⟨va, vc, rfl, _⟩ := own_form o
    exact ⟨⟨va, vc, rfl, arg_of_own rfl o⟩, f.trans (f'.mono f.size)⟩)
  have HPA : Hid (∀ W a n c bs, Below w0.heap.size w0 W → Arg W a n c bs → n ≤ 140737488351232 → Calls Tryz.prog 16 #[.slice a n c] W fun e w' => (∃ (pl : List Ent) (nm sp : List UInt8) (fl : List Fd) (ml : List Md) (pa fa ma : Option Addr) (pn pc fn fc mn mc : Nat) (mr : List MdR), e = .returned (.tuple #[.agg #[.slice pa pn pc, .string ⟨nm.toArray⟩, .string ⟨sp.toArray⟩, .slice fa fn fc, .slice ma mn mc], .int .i64 (parseK bs).2]) ∧ (⟨pl, nm, sp, fl, ml⟩ : Cl) = (parseK bs).1 ∧ CIn w' ⟨⟨pl, nm, sp, fl, ml⟩, ⟨pa, pn, pc⟩, ⟨fa, fn, fc⟩, ⟨ma, mn, mc⟩, mr⟩) ∧ Below W.heap.size W w') := fun W a n c bs f hA hn => (Q W a n c bs (hT0.below f) hA hn).mono (by
    rintro e w' ⟨⟨⟨⟨pl, nm, sp, fl, ml⟩, ⟨pa, pn, pc⟩, ⟨fa, fn, fc⟩, ⟨ma, mn, mc⟩, mr⟩, rfl, hc, hi⟩, f'⟩
    exact ⟨⟨pl, nm, sp, fl, ml, pa, fa, ma, pn, pc, fn, fc, mn, mc, mr, rfl, hc, hi⟩, f'⟩)
  have HEA : Hid (CIn w0 ⟨⟨pl, nm, sp, fl, ml⟩, ⟨p1a, p1n, p1c⟩, ⟨f1a, f1n, f1c⟩, ⟨m1a, m1n, m1c⟩, mr⟩) := hC0
  have HAR := hide hA0
  have HTB := hide hT0
  have HPP := hide P
  unfold ClR.v Sl.v at HL0 HPR ⊢
  simp only at HL0 HPR ⊢
  have KC : Hid (∀ W, Below w0.heap.size w0 W → W.cell? ⟨w.heap.size, 0, none⟩ = some (.slice p1a p1n p1c) ∧ W.cell? ⟨w.heap.size, 1, none⟩ = some (.string ⟨nm.toArray⟩) ∧ W.cell? ⟨w.heap.size, 2, none⟩ = some (.string ⟨sp.toArray⟩) ∧ W.cell? ⟨w.heap.size, 3, none⟩ = some (.slice f1a f1n f1c) ∧ W.cell? ⟨w.heap.size, 4, none⟩ = some (.slice m1a m1n m1c)) := fun W f => ⟨K0 W f 0 _ rfl, K0 W f 1 _ rfl, K0 W f 2 _ rfl, K0 W f 3 _ rfl, K0 W f 4 _ rfl⟩
  have F0 := hide f0
  clear hC hC0 hT hA hA0 hT0 P Q
  clear K0 f0
  go_enter Tryz.func6, Tryz.ntmps6
  go_wp2_with fail
  refine (unhide HW0).mono ?_
  rintro e w1 ⟨rfl, B1⟩
  obtain ⟨q0, q1, q2, q3, q4⟩ := unhide KC _ B1
  have HB1 := hide B1
  clear B1 e0
  go_wp2_with fail
  refine (unhide HL0 _ (unhide HB1)).mono ?_
  rintro e w2 ⟨b, rfl, B2⟩
  clear q0 q1 q2 q3 q4 HB1
  have HB2 := hide B2
  clear B2
  cases b with
  | false =>
    go_wp2
    go_ret
    exact ⟨rfl, (unhide F0).trans ((unhide HB2).mono (unhide F0).size)⟩
  | true =>
    by_cases hlong : 500 < n
    · have hlong' : (500 : Int) < (n : Int) := by omega
      go_wp2
      go_ret
      exact ⟨rfl, (unhide F0).trans ((unhide HB2).mono (unhide F0).size)⟩
    · have hlong' : ¬ (500 : Int) < (n : Int) := by omega
      obtain ⟨q0, q1, q2, q3, q4⟩ := unhide KC _ (unhide HB2)
      go_wp2_with fail
      refine (unhide HPR _ (unhide HB2)).mono ?_
      rintro e w3 ⟨⟨va, vc, rfl, A3⟩, B3⟩
      clear q0 q1 q2 q3 q4 HB2
      have HB3 := hide B3
      have HA3 := hide A3
      clear B3 A3
      by_cases he : errK ⟨pl, nm, sp, fl, ml⟩ = 0
      · have hfit := (unhide HEA).pool.fit.2
        have hpk : printK ⟨pl, nm, sp, fl, ml⟩ = bytesK ⟨pl, nm, sp, fl, ml⟩ := by unfold printK; rw [if_pos he]
        have hm8 := bytesK_pos ⟨pl, nm, sp, fl, ml⟩
        have hm9 := (errK_zero he).2
        have hcn := fun k hk => cut_none he hfit (k := k) hk
        have hmw := more_which he hfit bs
        rw [hpk] at HA3
        rw [hpk, he]
        generalize bytesK ⟨pl, nm, sp, fl, ml⟩ = bk at *
        obtain ⟨m, hm⟩ : ∃ m, bk.length = m := ⟨_, rfl⟩
        rw [hm] at HA3 hm8 hm9 hcn
        rw [hm]
        have hHM := hide hm
        have HCN := hide hcn
        have HMW := hide hmw
        clear hpk he hfit hcn hmw hm
        have HAM := hide (Among_any w3 cut m (by omega) (by omega))
        have hklt := among_lt cut m (by omega)
        generalize among cut m = k at *
        go_wp2_with fail
        refine (unhide HAM).mono ?_
        rintro e w4 ⟨rfl, e4⟩
        have e4' := e4.symm
        clear e4
        subst e4'
        have A4 := arg_take (unhide HA3) (by omega) (Nat.le_of_lt hklt)
        have hroom := (unhide HA3).room
        have hmost := (unhide HA3).most
        have HQ := hide (unhide HPA w3 va k vc _ (unhide HB3) A4 (by omega))
        rw [unhide HCN k hklt] at HQ
        have hk0 : (0 : Int) ≤ (k : Int) := by omega
        have hk1 : (k : Int) ≤ (vc : Int) := by omega
        have hk2 : (k : Int) ≤ 9223372036854775807 := by omega
        clear A4 HAM HCN
        go_wp2_with fail
        refine (unhide HQ).mono ?_
        rintro e w5 ⟨⟨pl', nm', sp', fl', ml', pa, fa, ma, pn, pc, fn, fc, mn, mc, mr', rfl, -, -⟩, f5⟩
        have B5 := (unhide HB3).trans (f5.mono (unhide HB3).size)
        obtain ⟨w6, e6, f6⟩ : ∃ w6, w5.alloc (.cells #[.slice pa pn pc, .string ⟨nm'.toArray⟩, .string ⟨sp'.toArray⟩, .slice fa fn fc, .slice ma mn mc] 26) = w6 ∧ Below w5.heap.size w5 w6 := ⟨_, rfl, (Below.refl _ _).alloc (Nat.le_refl _) _⟩
        have B6 := B5.trans (f6.mono B5.size)
        have A6 := ((unhide HA3).below f5).below f6
        have HBy := hide (Bytes_arg A6 (by omega))
        have HB6 := hide B6
        have HS06 := hide B6.size
        clear f5 B5 f6 B6 A6 HQ HA3 HB3 hroom hmost
        go_wp2_with fail
        refine (unhide HBy).mono ?_
        rintro e w7 ⟨v7, rfl, o7, f7⟩
        clear HBy e6
        have B7 := (unhide HB6).trans (f7.mono (unhide HB6).size)
        have O7 : Orw byc 5 1 w7 w6.heap.size v7 bk := orw_bv o7 (unhide hHM)
        have L7 := ls_of_arg ((unhide HAR).below B7)
        have hnl := (unhide HAR).nil
        have hln : (bk.length + n) * 1 ≤ 140737488355328 := by rw [unhide hHM]; omega
        have hln2 : bk.length + n ≤ 140737488355328 := by rw [unhide hHM]; omega
        have HO7 := hide O7
        have HL7 := hide L7
        have HNL := hide hnl
        have HLN := hide hln
        have HLN2 := hide hln2
        have HS7 := hide f7.size
        have HB7 := hide B7
        clear o7 f7 B7 O7 L7 hnl hln hln2 HB6
        go_wp2_with (first
          | (at_builtin; refine listR_append rkB9 rfl _ _ rfl w6.heap.size _ _ rfl (unhide HO7) _ n c bs rfl (unhide HL7) (unhide HNL) (unhide HLN) (unhide HLN2) (unhide HS7) ?_)
          | go_in)
        intro v8 w8 o8 g8
        have hb8 : Below w6.heap.size w7 w8 := Below.grown (Below.refl _ _) g8 (unhide HS7) (fun q hq => ((unhide HO7).lt q hq).1)
        have hw06 : w0.heap.size ≤ w6.heap.size := unhide HS06
        have B8 : Below w0.heap.size w0 w8 := (unhide HB7).trans (hb8.mono hw06)
        obtain ⟨a8, c8, rfl, _⟩ := o8.form
        have o8' : w8.ownsRow w6.heap.size 5 1 (.slice a8 (bk ++ bs).length c8) (bk ++ bs).length (bv (bk ++ bs)) := by rw [← byc_bv]; exact o8
        have A8 := arg_of_own rfl o8'
        have HQ := hide (unhide HPA w8 a8 _ c8 _ B8 A8 (by rw [List.length_append, unhide hHM]; omega))
        have HB8 := hide B8
        have hlen8 : (bk ++ bs).length = (bk ++ bs).length := rfl
        clear o8 g8 hb8 B8 o8' A8 HO7 HL7 HNL HLN HLN2 HS7 HB7 hlen8
        generalize (bk ++ bs).length = N8 at *
        go_wp2_with fail
        refine (unhide HQ).mono ?_
        rintro e w9 ⟨⟨pl', nm', sp', fl', ml', pa, fa, ma, pn, pc, fn, fc, mn, mc, mr', rfl, -, -⟩, f9⟩
        have HB9 := hide ((unhide HB8).trans ((f9.mono (unhide HB8).size).trans (((Below.refl w9.heap.size w9).alloc (Nat.le_refl _) (.cells #[.slice pa pn pc, .string ⟨nm'.toArray⟩, .string ⟨sp'.toArray⟩, .slice fa fn fc, .slice ma mn mc] 26)).mono (Nat.le_trans (unhide HB8).size f9.size))))
        clear f9 HQ
        have hmw := unhide HMW
        generalize (parseK (bk ++ bs)).2 = g at *
        clear HMW
        rcases hmw with ⟨hm0, hg⟩ | ⟨hm0, hg⟩
        · subst hg
          have hn0 : n = 0 := by rw [← hbl, hm0]; rfl
          subst hn0
          go_wp2
          go_ret
          exact ⟨rfl, (unhide F0).trans ((unhide HB9).mono (unhide F0).size)⟩
        · have hn0 : ((n : Int) == 0) = false := by
            rw [beq_eq_false_iff_ne]
            intro e
            apply hm0
            exact List.eq_nil_of_length_eq_zero (by omega)
          rcases hg with hg | hg
          · subst hg
            go_wp2
            go_ret
            exact ⟨rfl, (unhide F0).trans ((unhide HB9).mono (unhide F0).size)⟩
          · subst hg
            go_wp2
            go_ret
            exact ⟨rfl, (unhide F0).trans ((unhide HB9).mono (unhide F0).size)⟩
      · have he' : (errK ⟨pl, nm, sp, fl, ml⟩ != 0) = true := by simpa using he
        have hpk : printK ⟨pl, nm, sp, fl, ml⟩ = [] := by unfold printK; rw [if_neg he]
        rw [hpk]
        clear he hpk HA3
        generalize errK ⟨pl, nm, sp, fl, ml⟩ = E at *
        go_wp2
        go_ret
        exact ⟨rfl, (unhide F0).trans ((unhide HB3).mono (unhide F0).size)⟩
end Go.Proofs.YthhdfokcciibmaaGreatDoor
