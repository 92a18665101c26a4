/- The landed class: areRight of types, isMap, areRight of maps, isHandler, areRight of handlers. -/
import Derived.Test.YthhdfokcciibmaaGreatDoorJCkC

namespace Go.Proofs.YthhdfokcciibmaaGreatDoor
open Go.RowKit
set_option linter.unusedVariables false
set_option maxRecDepth 100000

set_option maxHeartbeats 3200000 in
theorem arT_any (w : World) (g mt mc : Nat) (p : Sl) (l : List Ent) (h : Nm w g mt mc p l) (s : Sl) (xs : List Ty) (hA : LIn 2 24 tyc TyFit w s xs) (most : Nat) (hm : most ≤ 1000) :
    Calls Tryz.prog 136 #[s.v, .int .i64 (most : Int), .func (.func 137) #[.pointer (some ⟨g, 0, none⟩)] #[]] w fun e w' => e = .returned (.bool (areB (okT l) most xs)) ∧ Below w.heap.size w w' := by
  obtain ⟨a, n, c⟩ := s
  have hs := hA.small
  have hln := hA.ls.1
  simp only at hln hs
  unfold Sl.v
  simp only
  have HA := hide hA.ls
  have HF := hide hA.each
  have HN := hide h
  obtain ⟨T, hT⟩ : ∃ T, T = areB (okT l) most xs := ⟨_, rfl⟩
  rw [← hT]
  have HTT : Hid (T = (decide (n ≤ most) && xs.all (fun x => okT l x))) := hT.trans (by unfold areB; rw [hln])
  clear hA hT h
  by_cases hmo : n ≤ most
  case neg =>
    have hT : T = false := by rw [unhide HTT]; simp [hmo]
    subst hT
    clear HTT
    have hmo1 : (most : Int) < (n : Int) := by omega
    go_enter Tryz.func136, Tryz.ntmps136
    go_wp2
    go_ret
    exact ⟨rfl, Below.refl _ _⟩
  have hmo1 : ¬ (most : Int) < (n : Int) := by omega
  go_enter Tryz.func136, Tryz.ntmps136
  go_wp2
  go_loopw [15] (fun i wr => ∃ k : Nat, k ≤ n ∧ i = .int .i64 k ∧ Below w.heap.size w wr ∧ (xs.take k).all (fun x => okT l x) = true) (fun i _ => n - (intOf i).toNat)
  case atStart => exact ⟨0, by omega, rfl, Below.refl _ _, rfl⟩
  case round =>
    obtain ⟨k, hk, rfl, hR, hgo⟩ := hrel
    by_cases hlt : k < n
    · have hlt1 : (k : Int) < (n : Int) := by omega
      have hk0 : (0 : Int) ≤ (k : Int) := by omega
      obtain ⟨b1, o1, h1a, h1⟩ := Ls.row (unhide HA) (w' := w) (by show n ≠ 0; omega)
      subst h1a
      obtain ⟨x, hx1⟩ : ∃ x, xs[k]? = some x := ⟨_, List.getElem?_eq_getElem (by omega)⟩
      have q := h1 hR k x hx1
      have hx := unhide HF x (List.mem_of_getElem? hx1)
      have hstep : (xs.take (k + 1)).all (fun x => okT l x) = (okT l x) := by
        rw [List.take_add_one, hx1, List.all_append, hgo]
        simp
      have hbad : (okT l x) = false → T = false := fun e => by
        rw [unhide HTT]
        have : xs.all (fun x => okT l x) = false := List.all_eq_false.2 ⟨x, List.mem_of_getElem? hx1, by simp [e]⟩
        rw [this, Bool.and_false]
      have c0 := q.zero
      have c1 := q 1 _ rfl
      have f0 := (Below.refl wr.heap.size wr).alloc (Nat.le_refl _) (.cells #[.int .i64 x.kind, .string ⟨x.name.toArray⟩] 143)
      have FB := hR.trans (f0.mono hR.size)
      have HP := hide (nType_any (wr.alloc (.cells #[.int .i64 x.kind, .string ⟨x.name.toArray⟩] 143)) g mt mc p l ((unhide HN).below FB) _ hx)
      have HB := hide FB
      have HST := hide hstep
      have HBD := hide hbad
      clear q h1 hx1 hR f0 FB hx hstep hbad hgo
      try simp only [Sl.v] at HP HST HBD
      generalize okT l x = bb at *
      generalize (⟨x.name.toArray⟩ : ByteArray) = s1 at *
      go_wp2_with fail
      refine (unhide HP).mono ?_
      rintro e w4 ⟨rfl, f4⟩
      have F4 := hide ((unhide HB).trans (f4.mono (unhide HB).size))
      clear HP f4 HB
      cases bb
      · have hT : T = false := unhide HBD (by first | rfl | trivial)
        subst hT
        go_wp2
        go_ret
        exact ⟨rfl, unhide F4⟩
      · go_wp2
        go_roundw
        case rel => exact ⟨k + 1, by omega, by go_num, unhide F4, unhide HST⟩
        case measure => simp [intOf]; omega
    · obtain rfl : k = n := by omega
      have hT : T = true := by
        rw [unhide HTT, decide_eq_true hmo, Bool.true_and, ← hgo, List.take_of_length_le (by omega)]
      subst hT
      have HR := hide hR
      clear hR HTT hgo
      go_wp2
      go_ret
      exact ⟨rfl, unhide HR⟩

theorem ints_at (w : World) (zs : List Int) (X : Array Value) (hX : X.toList = zs.map (Value.int .i64)) : ∀ (k : Nat) (z : Int), zs[k]? = some z → (w.alloc (.cells X 3)).cell? ⟨w.heap.size, k, none⟩ = some (.int .i64 z) := fun k z hz => by
  rw [cell_of_row _ _ _ _ _ _ (heap_alloc_last w (.cells X 3))]
  have : X.toList[k]? = some (.int .i64 z) := by rw [hX, List.getElem?_map, hz]; rfl
  simpa using this
theorem strs_at (w : World) (ss : List (List UInt8)) (X : Array Value) (hX : X.toList = ss.map (fun s => Value.string ⟨s.toArray⟩)) : StrsAt (w.alloc (.cells X 9)) w.heap.size ss := fun k z hz => by
  rw [cell_of_row _ _ _ _ _ _ (heap_alloc_last w (.cells X 9))]
  have : X.toList[k]? = some (.string ⟨z.toArray⟩) := by rw [hX, List.getElem?_map, hz]; rfl
  simpa using this

set_option maxHeartbeats 6400000 in
theorem nMap_any (w : World) (g mt mc : Nat) (p : Sl) (l : List Ent) (h : Nm w g mt mc p l) (r : MpR) (hr : MpIn w r) :
    Calls Tryz.prog 116 #[.pointer (some ⟨g, 0, none⟩), .agg #[.int .i64 r.m.at_, r.loc.v, r.stk.v]] w fun e w' => e = .returned (.bool (mapOk l r.m)) ∧ Below w.heap.size w w' := by
  obtain ⟨⟨at_, loc, stk⟩, ⟨la, ln, lc⟩, ⟨sa, sn, sc⟩⟩ := r
  obtain ⟨hf, hl, hs⟩ := hr
  simp only at hf hl hs
  unfold Sl.v
  simp only
  obtain ⟨w0, e0, f0, K0⟩ := one_local w #[.int .i64 at_, .slice la ln lc, .slice sa sn sc] 52
  have KC : Hid (∀ W, Below w0.heap.size w0 W → W.cell? ⟨w.heap.size, 0, none⟩ = some (.int .i64 at_) ∧ W.cell? ⟨w.heap.size, 1, none⟩ = some (.slice la ln lc) ∧ W.cell? ⟨w.heap.size, 2, none⟩ = some (.slice sa sn sc)) := fun W f => ⟨K0 W f 0 _ rfl, K0 W f 1 _ rfl, K0 W f 2 _ rfl⟩
  have E0 := hide e0
  have F0 := hide f0
  have HN := hide (h.below f0)
  have HL : Hid (TysIn w0 ⟨la, ln, lc⟩ loc) := hl.mono f0 (fun _ h => h)
  have HS : Hid (TysIn w0 ⟨sa, sn, sc⟩ stk) := hs.mono f0 (fun _ h => h)
  have b1 : Below w0.heap.size w0 (w0.alloc (.cells #[.int .i64 at_] 3)) := (Below.refl _ _).alloc (Nat.le_refl _) _
  have HU := hide (isUpTo_any (w0.alloc (.cells #[.int .i64 at_] 3)) w0.heap.size 1 1 65535 [at_] (by omega) rfl (by omega) (ints_at w0 [at_] _ rfl))
  have B1 := hide b1
  obtain ⟨q0, q1, q2⟩ := unhide KC w0 (Below.refl _ _)
  obtain ⟨T, hT⟩ : ∃ T, T = mapOk l ⟨at_, loc, stk⟩ := ⟨_, rfl⟩
  rw [← hT]
  have HTT : Hid (T = (upB 65535 [at_] && (areB (okT l) 64 loc && (longsB loc && areB (okT l) 64 stk)))) := hT
  clear h hl hs hf e0 f0 K0 b1 hT
  cases u1 : upB 65535 [at_]
  · have hT : T = false := by rw [unhide HTT, u1]; rfl
    subst hT
    rw [u1] at HU
    have e0 := unhide E0
    clear HTT u1
    go_enter Tryz.func116, Tryz.ntmps116
    go_wp2_with fail
    refine (unhide HU).mono ?_
    rintro e w1 ⟨rfl, e1⟩
    subst e1
    clear e0
    go_wp2
    go_ret
    exact ⟨rfl, (unhide F0).trans ((unhide B1).mono (unhide F0).size)⟩
  rw [u1] at HU
  have HA1 := hide (arT_any _ g mt mc p l ((unhide HN).below (unhide B1)) ⟨la, ln, lc⟩ loc ((unhide HL).mono (unhide B1) (fun _ h => h)) 64 (by omega))
  cases u2 : areB (okT l) 64 loc
  · have hT : T = false := by rw [unhide HTT, u1, u2]; rfl
    subst hT
    rw [u2] at HA1
    have e0 := unhide E0
    obtain ⟨p0, p1, p2⟩ := unhide KC _ (unhide B1)
    clear HTT u1 u2
    go_enter Tryz.func116, Tryz.ntmps116
    go_wp2_with fail
    refine (unhide HU).mono ?_
    rintro e w1 ⟨rfl, e1⟩
    subst e1
    clear e0
    go_wp2_with fail
    refine (unhide HA1).mono ?_
    rintro e w2 ⟨rfl, f2⟩
    have F2 := hide ((unhide F0).trans (((unhide B1).trans (f2.mono (unhide B1).size)).mono (unhide F0).size))
    clear f2
    go_wp2
    go_ret
    exact ⟨rfl, unhide F2⟩
  rw [u2] at HA1
  obtain ⟨LB, hLB⟩ : ∃ LB, LB = longsB loc := ⟨_, rfl⟩
  obtain ⟨SB, hSB⟩ : ∃ SB, SB = areB (okT l) 64 stk := ⟨_, rfl⟩
  have HT2 : Hid (T = (LB && SB)) := by show T = _; rw [unhide HTT, u1, u2, ← hLB, ← hSB]; rfl
  have HLW : Hid (∀ W, Below w0.heap.size w0 W → Calls Tryz.prog 138 #[.slice la ln lc] W fun e w' => e = .returned (.bool LB) ∧ Below W.heap.size W w') := fun W f => by rw [hLB]; exact longsWide_any W ⟨la, ln, lc⟩ loc ((unhide HL).mono f (fun _ h => h))
  have HAS : Hid (∀ W, Below w0.heap.size w0 W → Calls Tryz.prog 136 #[.slice sa sn sc, .int .i64 64, .func (.func 137) #[.pointer (some ⟨g, 0, none⟩)] #[]] W fun e w' => e = .returned (.bool SB) ∧ Below W.heap.size W w') := fun W f => by rw [hSB]; exact arT_any W g mt mc p l ((unhide HN).below f) ⟨sa, sn, sc⟩ stk ((unhide HS).mono f (fun _ h => h)) 64 (by omega)
  have e0 := unhide E0
  obtain ⟨p0, p1, p2⟩ := unhide KC _ (unhide B1)
  clear HTT u1 u2 hLB hSB HL HS HN
  go_enter Tryz.func116, Tryz.ntmps116
  go_wp2_with fail
  refine (unhide HU).mono ?_
  rintro e w1 ⟨rfl, e1⟩
  subst e1
  clear e0
  go_wp2_with fail
  refine (unhide HA1).mono ?_
  rintro e w2 ⟨rfl, f2⟩
  have F2 := hide ((unhide B1).trans (f2.mono (unhide B1).size))
  obtain ⟨r0, r1, r2⟩ := unhide KC _ (unhide F2)
  have HLW1 := hide (unhide HLW _ (unhide F2))
  clear f2 HA1 HU p0 p1 p2 q0 q1 q2
  go_wp2_with fail
  refine (unhide HLW1).mono ?_
  rintro e w3 ⟨rfl, f3⟩
  have F3 := hide ((unhide F2).trans (f3.mono (unhide F2).size))
  obtain ⟨s0, s1, s2⟩ := unhide KC _ (unhide F3)
  have HAS1 := hide (unhide HAS _ (unhide F3))
  clear f3 HLW1 r0 r1 r2
  cases LB
  · have hT : T = false := unhide HT2
    subst hT
    go_wp2
    go_ret
    exact ⟨rfl, (unhide F0).trans ((unhide F3).mono (unhide F0).size)⟩
  · have hT : T = SB := by rw [unhide HT2]; rfl
    subst hT
    go_wp2_with fail
    refine (unhide HAS1).mono ?_
    rintro e w4 ⟨rfl, f4⟩
    have F4 := hide ((unhide F0).trans (((unhide F3).trans (f4.mono (unhide F3).size)).mono (unhide F0).size))
    clear f4
    go_wp2
    go_ret
    exact ⟨rfl, unhide F4⟩

set_option maxHeartbeats 3200000 in
theorem arP_any (w : World) (g mt mc : Nat) (p : Sl) (l : List Ent) (h : Nm w g mt mc p l) (s : Sl) (xs : List MpR) (hA : LIn 3 56 mpc (MpIn w) w s xs) (most : Nat) (hm : most ≤ 1000) :
    Calls Tryz.prog 115 #[s.v, .int .i64 (most : Int), .func (.func 116) #[.pointer (some ⟨g, 0, none⟩)] #[]] w fun e w' => e = .returned (.bool (areB (mapOk l) most (xs.map MpR.m))) ∧ Below w.heap.size w w' := by
  obtain ⟨a, n, c⟩ := s
  have hs := hA.small
  have hln := hA.ls.1
  simp only at hln hs
  unfold Sl.v
  simp only
  have HA := hide hA.ls
  have HF := hide hA.each
  have HN := hide h
  obtain ⟨T, hT⟩ : ∃ T, T = areB (mapOk l) most (xs.map MpR.m) := ⟨_, rfl⟩
  rw [← hT]
  have HTT : Hid (T = (decide (n ≤ most) && xs.all (fun x => mapOk l x.m))) := hT.trans (by unfold areB; simp only [List.length_map, List.all_map, Function.comp_def]; rw [hln])
  clear hA hT h
  by_cases hmo : n ≤ most
  case neg =>
    have hT : T = false := by rw [unhide HTT]; simp [hmo]
    subst hT
    clear HTT
    have hmo1 : (most : Int) < (n : Int) := by omega
    go_enter Tryz.func115, Tryz.ntmps115
    go_wp2
    go_ret
    exact ⟨rfl, Below.refl _ _⟩
  have hmo1 : ¬ (most : Int) < (n : Int) := by omega
  go_enter Tryz.func115, Tryz.ntmps115
  go_wp2
  go_loopw [15] (fun i wr => ∃ k : Nat, k ≤ n ∧ i = .int .i64 k ∧ Below w.heap.size w wr ∧ (xs.take k).all (fun x => mapOk l x.m) = true) (fun i _ => n - (intOf i).toNat)
  case atStart => exact ⟨0, by omega, rfl, Below.refl _ _, rfl⟩
  case round =>
    obtain ⟨k, hk, rfl, hR, hgo⟩ := hrel
    by_cases hlt : k < n
    · have hlt1 : (k : Int) < (n : Int) := by omega
      have hk0 : (0 : Int) ≤ (k : Int) := by omega
      obtain ⟨b1, o1, h1a, h1⟩ := Ls.row (unhide HA) (w' := w) (by show n ≠ 0; omega)
      subst h1a
      obtain ⟨x, hx1⟩ : ∃ x, xs[k]? = some x := ⟨_, List.getElem?_eq_getElem (by omega)⟩
      have q := h1 hR k x hx1
      have hx := unhide HF x (List.mem_of_getElem? hx1)
      have hstep : (xs.take (k + 1)).all (fun x => mapOk l x.m) = (mapOk l x.m) := by
        rw [List.take_add_one, hx1, List.all_append, hgo]
        simp
      have hbad : (mapOk l x.m) = false → T = false := fun e => by
        rw [unhide HTT]
        have : xs.all (fun x => mapOk l x.m) = false := List.all_eq_false.2 ⟨x, List.mem_of_getElem? hx1, by simp [e]⟩
        rw [this, Bool.and_false]
      obtain ⟨xm, ⟨la, ln, lc⟩, ⟨sa, sn, sc⟩⟩ := x
      have c0 := q.zero
      have c1 := q 1 _ rfl
      have c2 := q 2 _ rfl
      simp only [Sl.v] at c0 c1 c2
      have f0 := (Below.refl wr.heap.size wr).alloc (Nat.le_refl _) (.cells #[.int .i64 xm.at_, .slice la ln lc, .slice sa sn sc] 52)
      have FB := hR.trans (f0.mono hR.size)
      have HP := hide (nMap_any (wr.alloc (.cells #[.int .i64 xm.at_, .slice la ln lc, .slice sa sn sc] 52)) g mt mc p l ((unhide HN).below FB) _ (hx.below FB))
      have HB := hide FB
      have HST := hide hstep
      have HBD := hide hbad
      clear q h1 hx1 hR f0 FB hx hstep hbad hgo
      try simp only [Sl.v] at HP HST HBD
      generalize mapOk l xm = bb at *
      go_wp2_with fail
      refine (unhide HP).mono ?_
      rintro e w4 ⟨rfl, f4⟩
      have F4 := hide ((unhide HB).trans (f4.mono (unhide HB).size))
      clear HP f4 HB
      cases bb
      · have hT : T = false := unhide HBD (by first | rfl | trivial)
        subst hT
        go_wp2
        go_ret
        exact ⟨rfl, unhide F4⟩
      · go_wp2
        go_roundw
        case rel => exact ⟨k + 1, by omega, by go_num, unhide F4, unhide HST⟩
        case measure => simp [intOf]; omega
    · obtain rfl : k = n := by omega
      have hT : T = true := by
        rw [unhide HTT, decide_eq_true hmo, Bool.true_and, ← hgo, List.take_of_length_le (by omega)]
      subst hT
      have HR := hide hR
      clear hR HTT hgo
      go_wp2
      go_ret
      exact ⟨rfl, unhide HR⟩


set_option maxHeartbeats 6400000 in
theorem nHandler_any (w : World) (g mt mc : Nat) (p : Sl) (l : List Ent) (h : Nm w g mt mc p l) (x : Hd) (hx : HdFit x) :
    Calls Tryz.prog 114 #[.pointer (some ⟨g, 0, none⟩), .agg #[.int .i64 x.frm, .int .i64 x.to_, .int .i64 x.at_, .int .i64 x.cls]] w fun e w' => e = .returned (.bool (rightH l x)) ∧ Below w.heap.size w w' := by
  obtain ⟨frm, to_, at_, cls⟩ := x
  obtain ⟨hf1, hf2, hf3, hf4⟩ := hx
  simp only at hf1 hf2 hf3 hf4 ⊢
  obtain ⟨w0, e0, f0, K0⟩ := one_local w #[.int .i64 frm, .int .i64 to_, .int .i64 at_, .int .i64 cls] 93
  obtain ⟨pa, pn, pc⟩ := p
  have hlen := h.len
  have hN0 := h.below f0
  obtain ⟨T, hT⟩ : ∃ T, T = rightH l ⟨frm, to_, at_, cls⟩ := ⟨_, rfl⟩
  rw [← hT]
  have HTT := hide (hT.trans (rightH_is l _))
  simp only at HTT
  have KI : Hid (∀ W, Below w0.heap.size w0 W → (W.cell? ⟨w.heap.size, 0, none⟩ = some (.int .i64 frm) ∧ W.cell? ⟨w.heap.size, 1, none⟩ = some (.int .i64 to_) ∧ W.cell? ⟨w.heap.size, 2, none⟩ = some (.int .i64 at_) ∧ W.cell? ⟨w.heap.size, 3, none⟩ = some (.int .i64 cls)) ∧ W.cell? ⟨g, 0, none⟩ = some (.slice pa pn pc)) := fun W f => ⟨⟨K0 W f 0 _ rfl, K0 W f 1 _ rfl, K0 W f 2 _ rfl, K0 W f 3 _ rfl⟩, (hN0.below f).c0⟩
  have HU : Hid (∀ W : World, Calls Tryz.prog 112 #[.int .i64 65535, .slice (some ⟨W.heap.size, 0, none⟩) 3 3] (W.alloc (.cells #[.int .i64 frm, .int .i64 to_, .int .i64 at_] 3)).drew fun e w' => e = .returned (.bool (upB 65535 [frm, to_, at_])) ∧ w' = (W.alloc (.cells #[.int .i64 frm, .int .i64 to_, .int .i64 at_] 3)).drew) := fun W => isUpTo_any _ _ 3 3 65535 [frm, to_, at_] (by omega) rfl (by omega) (fun k z hz => ints_at W [frm, to_, at_] _ rfl k z hz)
  have HG : Hid (∀ W, Below w0.heap.size w0 W → Calls Tryz.prog 131 #[.slice pa pn pc, .int .i64 cls] W fun e w' => e = .returned (.int .i64 (tagE l cls)) ∧ w' = W) := fun W f => ctagAt_any W pa pn pc l (hN0.below f).pool.arg.es (by have := (hN0.below f).pool.arg.es.1; simp only at this; omega) cls hf4
  have E0 := hide e0
  have F0 := hide f0
  clear hT h hN0 e0 f0 K0
  unfold fitI at hf4
  generalize upB 65535 [frm, to_, at_] = ub at *
  obtain ⟨tg, htg⟩ : ∃ tg, tg = tagE l cls := ⟨_, rfl⟩
  rw [← htg] at HTT HG
  clear htg
  have e0 := unhide E0
  go_enter Tryz.func114, Tryz.ntmps114
  go_wp2
  clear e0
  obtain ⟨SS, hSS⟩ : ∃ SS : World → Prop, SS = fun W => Below w0.heap.size w0 W := ⟨_, rfl⟩
  have KS : Hid (∀ W, SS W ↔ Below w0.heap.size w0 W) := fun W => by rw [hSS]
  clear hSS
  have F1 : Hid (Below w.heap.size w (w0.alloc (.cells #[.int .i64 frm, .int .i64 to_, .int .i64 at_] 3)).drew) := (unhide F0).trans ((((Below.refl _ _).alloc (Nat.le_refl _) _).drew).mono (unhide F0).size)
  have G1 : Hid (Below w0.heap.size w0 (w0.alloc (.cells #[.int .i64 frm, .int .i64 to_, .int .i64 at_] 3)).drew) := ((Below.refl _ _).alloc (Nat.le_refl _) _).drew
  cases ub
  case false =>
    have hT : T = false := by rw [unhide HTT]; rfl
    subst hT
    refine wp_region_txt SS [6, 7, 19] (List.range 24) (by kernel_rfl) (by kernel_rfl) ((unhide KS _).2 (Below.refl _ _).drew) ?_
    repeat (first
      | (refine Txt.skips (by rfl) (by rfl) ?_; simp only [Act.put, List.setIfInBounds_toArray, List.set_cons_zero, List.set_cons_succ])
      | (refine Txt.reads (v := ?_) (by rfl) (by rfl) (by rfl) ?_ ?_; rotate_left; (focus ((intro W hSW; obtain ⟨⟨p0, p1, p2, p3⟩, p4⟩ := unhide KI W ((unhide KS W).1 hSW); go_simp) <;> with_reducible rfl)); simp only [Act.put, List.setIfInBounds_toArray, List.set_cons_zero, List.set_cons_succ]))
    refine Txt.acts (by rfl) (by rfl) (by rfl) (fun K hK => ?_)
    go_simp
    refine hK.out _ _ ((unhide KS _).2 ((Below.refl _ _).alloc (Nat.le_refl _) _).drew) ?_
    clear hK K
    refine Txt.acts (by rfl) (by rfl) (by rfl) (fun K hK => ?_)
    go_simp
    refine (unhide HU w0).mono ?_
    rintro e w1 ⟨rfl, e1⟩
    subst e1
    refine hK.out _ _ ((unhide KS _).2 ((Below.refl _ _).alloc (Nat.le_refl _) _).drew) ?_
    clear hK K
    try simp only [Act.put, List.setIfInBounds_toArray, List.set_cons_zero, List.set_cons_succ]
    repeat (first
      | (refine Txt.skips (by rfl) (by rfl) ?_; simp only [Act.put, List.setIfInBounds_toArray, List.set_cons_zero, List.set_cons_succ])
      | (refine Txt.reads (v := ?_) (by rfl) (by rfl) (by rfl) ?_ ?_; rotate_left; (focus ((intro W hSW; obtain ⟨⟨p0, p1, p2, p3⟩, p4⟩ := unhide KI W ((unhide KS W).1 hSW); go_simp) <;> with_reducible rfl)); simp only [Act.put, List.setIfInBounds_toArray, List.set_cons_zero, List.set_cons_succ]))
    refine Txt.done ?_
    go_wp2
    go_ret
    exact ⟨rfl, unhide F1⟩
  case true =>
    by_cases hz : cls = 0
    · subst hz
      have hT : T = true := by rw [unhide HTT]; rfl
      subst hT
      refine wp_region_txt SS [6, 7, 19] (List.range 24) (by kernel_rfl) (by kernel_rfl) ((unhide KS _).2 (Below.refl _ _).drew) ?_
      repeat (first
        | (refine Txt.skips (by rfl) (by rfl) ?_; simp only [Act.put, List.setIfInBounds_toArray, List.set_cons_zero, List.set_cons_succ])
        | (refine Txt.reads (v := ?_) (by rfl) (by rfl) (by rfl) ?_ ?_; rotate_left; (focus ((intro W hSW; obtain ⟨⟨p0, p1, p2, p3⟩, p4⟩ := unhide KI W ((unhide KS W).1 hSW); go_simp) <;> with_reducible rfl)); simp only [Act.put, List.setIfInBounds_toArray, List.set_cons_zero, List.set_cons_succ]))
      refine Txt.acts (by rfl) (by rfl) (by rfl) (fun K hK => ?_)
      go_simp
      refine hK.out _ _ ((unhide KS _).2 ((Below.refl _ _).alloc (Nat.le_refl _) _).drew) ?_
      clear hK K
      refine Txt.acts (by rfl) (by rfl) (by rfl) (fun K hK => ?_)
      go_simp
      refine (unhide HU w0).mono ?_
      rintro e w1 ⟨rfl, e1⟩
      subst e1
      refine hK.out _ _ ((unhide KS _).2 ((Below.refl _ _).alloc (Nat.le_refl _) _).drew) ?_
      clear hK K
      try simp only [Act.put, List.setIfInBounds_toArray, List.set_cons_zero, List.set_cons_succ]
      repeat (first
        | (refine Txt.skips (by rfl) (by rfl) ?_; simp only [Act.put, List.setIfInBounds_toArray, List.set_cons_zero, List.set_cons_succ])
        | (refine Txt.reads (v := ?_) (by rfl) (by rfl) (by rfl) ?_ ?_; rotate_left; (focus ((intro W hSW; obtain ⟨⟨p0, p1, p2, p3⟩, p4⟩ := unhide KI W ((unhide KS W).1 hSW); go_simp) <;> with_reducible rfl)); simp only [Act.put, List.setIfInBounds_toArray, List.set_cons_zero, List.set_cons_succ]))
      refine Txt.done ?_
      go_wp2
      go_ret
      exact ⟨rfl, unhide F1⟩
    · have hzb : (cls == 0) = false := by simpa using hz
      have hT : T = (tg == 7) := by
        rw [unhide HTT, decide_eq_false hz, Bool.true_and, Bool.false_or, Bool.eq_iff_iff]
        simp
      subst hT
      refine wp_region_txt SS [6, 7, 19] (List.range 24) (by kernel_rfl) (by kernel_rfl) ((unhide KS _).2 (Below.refl _ _).drew) ?_
      repeat (first
        | (refine Txt.skips (by rfl) (by rfl) ?_; simp only [Act.put, List.setIfInBounds_toArray, List.set_cons_zero, List.set_cons_succ])
        | (refine Txt.reads (v := ?_) (by rfl) (by rfl) (by rfl) ?_ ?_; rotate_left; (focus ((intro W hSW; obtain ⟨⟨p0, p1, p2, p3⟩, p4⟩ := unhide KI W ((unhide KS W).1 hSW); go_simp) <;> with_reducible rfl)); simp only [Act.put, List.setIfInBounds_toArray, List.set_cons_zero, List.set_cons_succ]))
      refine Txt.acts (by rfl) (by rfl) (by rfl) (fun K hK => ?_)
      go_simp
      refine hK.out _ _ ((unhide KS _).2 ((Below.refl _ _).alloc (Nat.le_refl _) _).drew) ?_
      clear hK K
      refine Txt.acts (by rfl) (by rfl) (by rfl) (fun K hK => ?_)
      go_simp
      refine (unhide HU w0).mono ?_
      rintro e w1 ⟨rfl, e1⟩
      subst e1
      refine hK.out _ _ ((unhide KS _).2 ((Below.refl _ _).alloc (Nat.le_refl _) _).drew) ?_
      clear hK K
      try simp only [Act.put, List.setIfInBounds_toArray, List.set_cons_zero, List.set_cons_succ]
      repeat (first
        | (refine Txt.skips (by rfl) (by rfl) ?_; simp only [Act.put, List.setIfInBounds_toArray, List.set_cons_zero, List.set_cons_succ])
        | (refine Txt.reads (v := ?_) (by rfl) (by rfl) (by rfl) ?_ ?_; rotate_left; (focus ((intro W hSW; obtain ⟨⟨p0, p1, p2, p3⟩, p4⟩ := unhide KI W ((unhide KS W).1 hSW); go_simp) <;> with_reducible rfl)); simp only [Act.put, List.setIfInBounds_toArray, List.set_cons_zero, List.set_cons_succ]))
      refine Txt.acts (by rfl) (by rfl) (by rfl) (fun K hK => ?_)
      go_simp
      refine (unhide HG _ (unhide G1)).mono ?_
      rintro e w1 ⟨rfl, e1⟩
      subst e1
      refine hK.out _ _ ((unhide KS _).2 (unhide G1)) ?_
      clear hK K
      try simp only [Act.put, List.setIfInBounds_toArray, List.set_cons_zero, List.set_cons_succ]
      repeat (first
        | (refine Txt.skips (by rfl) (by rfl) ?_; simp only [Act.put, List.setIfInBounds_toArray, List.set_cons_zero, List.set_cons_succ])
        | (refine Txt.reads (v := ?_) (by rfl) (by rfl) (by rfl) ?_ ?_; rotate_left; (focus ((intro W hSW; obtain ⟨⟨p0, p1, p2, p3⟩, p4⟩ := unhide KI W ((unhide KS W).1 hSW); go_simp) <;> with_reducible rfl)); simp only [Act.put, List.setIfInBounds_toArray, List.set_cons_zero, List.set_cons_succ]))
      refine Txt.done ?_
      go_wp2
      go_ret
      exact ⟨rfl, unhide F1⟩

set_option maxHeartbeats 3200000 in
theorem arH_any (w : World) (g mt mc : Nat) (p : Sl) (l : List Ent) (h : Nm w g mt mc p l) (s : Sl) (xs : List Hd) (hA : LIn 4 32 hdc HdFit w s xs) (most : Nat) (hm : most ≤ 1000) :
    Calls Tryz.prog 113 #[s.v, .int .i64 (most : Int), .func (.func 114) #[.pointer (some ⟨g, 0, none⟩)] #[]] w fun e w' => e = .returned (.bool (areB (rightH l) most xs)) ∧ Below w.heap.size w w' := by
  obtain ⟨a, n, c⟩ := s
  have hs := hA.small
  have hln := hA.ls.1
  simp only at hln hs
  unfold Sl.v
  simp only
  have HA := hide hA.ls
  have HF := hide hA.each
  have HN := hide h
  obtain ⟨T, hT⟩ : ∃ T, T = areB (rightH l) most xs := ⟨_, rfl⟩
  rw [← hT]
  have HTT : Hid (T = (decide (n ≤ most) && xs.all (fun x => rightH l x))) := hT.trans (by unfold areB; rw [hln])
  clear hA hT h
  by_cases hmo : n ≤ most
  case neg =>
    have hT : T = false := by rw [unhide HTT]; simp [hmo]
    subst hT
    clear HTT
    have hmo1 : (most : Int) < (n : Int) := by omega
    go_enter Tryz.func113, Tryz.ntmps113
    go_wp2
    go_ret
    exact ⟨rfl, Below.refl _ _⟩
  have hmo1 : ¬ (most : Int) < (n : Int) := by omega
  go_enter Tryz.func113, Tryz.ntmps113
  go_wp2
  go_loopw [15] (fun i wr => ∃ k : Nat, k ≤ n ∧ i = .int .i64 k ∧ Below w.heap.size w wr ∧ (xs.take k).all (fun x => rightH l x) = true) (fun i _ => n - (intOf i).toNat)
  case atStart => exact ⟨0, by omega, rfl, Below.refl _ _, rfl⟩
  case round =>
    obtain ⟨k, hk, rfl, hR, hgo⟩ := hrel
    by_cases hlt : k < n
    · have hlt1 : (k : Int) < (n : Int) := by omega
      have hk0 : (0 : Int) ≤ (k : Int) := by omega
      obtain ⟨b1, o1, h1a, h1⟩ := Ls.row (unhide HA) (w' := w) (by show n ≠ 0; omega)
      subst h1a
      obtain ⟨x, hx1⟩ : ∃ x, xs[k]? = some x := ⟨_, List.getElem?_eq_getElem (by omega)⟩
      have q := h1 hR k x hx1
      have hx := unhide HF x (List.mem_of_getElem? hx1)
      have hstep : (xs.take (k + 1)).all (fun x => rightH l x) = (rightH l x) := by
        rw [List.take_add_one, hx1, List.all_append, hgo]
        simp
      have hbad : (rightH l x) = false → T = false := fun e => by
        rw [unhide HTT]
        have : xs.all (fun x => rightH l x) = false := List.all_eq_false.2 ⟨x, List.mem_of_getElem? hx1, by simp [e]⟩
        rw [this, Bool.and_false]
      have c0 := q.zero
      have c1 := q 1 _ rfl
      have c2 := q 2 _ rfl
      have c3 := q 3 _ rfl
      have f0 := (Below.refl wr.heap.size wr).alloc (Nat.le_refl _) (.cells #[.int .i64 x.frm, .int .i64 x.to_, .int .i64 x.at_, .int .i64 x.cls] 93)
      have FB := hR.trans (f0.mono hR.size)
      have HP := hide (nHandler_any (wr.alloc (.cells #[.int .i64 x.frm, .int .i64 x.to_, .int .i64 x.at_, .int .i64 x.cls] 93)) g mt mc p l ((unhide HN).below FB) _ hx)
      have HB := hide FB
      have HST := hide hstep
      have HBD := hide hbad
      clear q h1 hx1 hR f0 FB hx hstep hbad hgo
      try simp only [Sl.v] at HP HST HBD
      generalize rightH l x = bb at *
      go_wp2_with fail
      refine (unhide HP).mono ?_
      rintro e w4 ⟨rfl, f4⟩
      have F4 := hide ((unhide HB).trans (f4.mono (unhide HB).size))
      clear HP f4 HB
      cases bb
      · have hT : T = false := unhide HBD (by first | rfl | trivial)
        subst hT
        go_wp2
        go_ret
        exact ⟨rfl, unhide F4⟩
      · go_wp2
        go_roundw
        case rel => exact ⟨k + 1, by omega, by go_num, unhide F4, unhide HST⟩
        case measure => simp [intOf]; omega
    · obtain rfl : k = n := by omega
      have hT : T = true := by
        rw [unhide HTT, decide_eq_true hmo, Bool.true_and, ← hgo, List.take_of_length_le (by omega)]
      subst hT
      have HR := hide hR
      clear hR HTT hgo
      go_wp2
      go_ret
      exact ⟨rfl, unhide HR⟩

end Go.Proofs.YthhdfokcciibmaaGreatDoor
