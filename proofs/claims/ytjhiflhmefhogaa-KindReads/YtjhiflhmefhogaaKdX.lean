/- The document's Method. -/
import Derived.Test.YtjhiflhmefhogaaKdS
namespace Go.Proofs.Ytjhiflhmefhogaa
open Go.RowKit
set_option linter.unusedVariables false
set_option maxRecDepth 100000

theorem size_41 (b : List UInt8) : sizeN (41 :: b) = 0 := by
  rw [sizeN_is]
  rfl
theorem ansP_no {r : List UInt8} (h : r[0]? ≠ some 41) : ansP r = (ty0, 100) := if_neg h
theorem Args.stop {r : List UInt8} {l : List Ty} {rest : List UInt8} (h : Args r l rest) (hz : sizeN r = 0) : l = [] ∧ rest = r := h.at_done hz
theorem drop_at {s : List UInt8} {k : Nat} {c : UInt8} (h : s[k]? = some c) : s.drop k = c :: s.drop (k + 1) := by
  have hk := (List.getElem?_eq_some_iff.1 h).1
  rw [List.drop_eq_getElem_cons hk, (List.getElem?_eq_some_iff.1 h).2]
theorem metP_no {L : List Ty} {r : List UInt8} (h : r[0]? ≠ some 41) : metP L r = ([], ty0, 100) := by
  unfold metP
  rw [ansP_no h]
  simp
set_option maxHeartbeats 800000 in
theorem x10Method_no (w : World) (S : ByteArray) (s : List UInt8) (hS : Str S s) (h : s[0]? ≠ some 40) : Calls Try.prog 12 #[.string S] w fun e w' => e = .returned (.tuple #[.slice none 0 0, .agg #[.int .i64 0, .string ⟨#[]⟩], .int .i64 100]) ∧ Below w.heap.size w w' := by
  cases s with
  | nil =>
    obtain rfl : S = ⟨#[]⟩ := hS.eq
    clear hS
    go_enter Try.func12, Try.ntmps12
    go_wp2
    exact bodyPost_ret (ty_ret3 Try.results12 _ w.heap.size _ _ (heap_alloc_last _ _) _ rfl) rfl ⟨rfl, bA (Below.refl _ _) _⟩
  | cons c t =>
    obtain ⟨n1, n2, n3, n4⟩ := hS.txt
    obtain ⟨hk, q0⟩ := hS.at 0 c rfl
    have hc : c ≠ 40 := by simpa using h
    have c1 : ¬ (c.toNat : Int) = 40 := un73 (n := 40) hc (by decide)
    have c2 : ((c.toNat : Int) == 40) = false := by simpa using c1
    have c3 : ((c.toNat : Int) != 40) = true := by simpa using c1
    clear hS h hc
    go_enter Try.func12, Try.ntmps12
    go_wp2
    exact bodyPost_ret (ty_ret3 Try.results12 _ w.heap.size _ _ (heap_alloc_last _ _) _ rfl) rfl ⟨rfl, bA (Below.refl _ _) _⟩
set_option maxHeartbeats 3200000 in
theorem x10Method_yes (w : World) (S : ByteArray) (t : List UInt8) (hS : Str S (40 :: t)) (hs : (40 :: t).length ≤ 1000000) (L : List Ty) (rest : List UInt8) (hA : Args t L rest) : Calls Try.prog 12 #[.string S] w fun e w' => ∃ v, e = .returned (.tuple #[v, tyV (metP L rest).2.1, .int .i64 (metP L rest).2.2]) ∧ Orw tyc 23 2 w' w.heap.size v (metP L rest).1 ∧ Below w.heap.size w w' := by
  obtain ⟨n1, n2, n3, n4⟩ := hS.txt
  obtain ⟨hk, q0⟩ := hS.at 0 40 rfl
  have hz := hS.size
  have hlen := hA.len
  obtain ⟨w0, hw0⟩ : ∃ w0, w0 = (w.alloc (.cells #[.int .i64 0, .string ⟨#[]⟩] 23)).alloc (.cells #[] 23) := ⟨_, rfl⟩
  have HB : Hid (Bx2c w0 w.heap.size (.int .i64 0) (.string ⟨#[]⟩)) := by rw [hw0]; exact (Bx2c.made _ _ _).keep (bA (Below.refl _ _) _)
  have F0 : Hid (Below w.heap.size w w0) := by rw [hw0]; exact bA (bA (Below.refl _ _) _) _
  have O0 : Hid (Orw tyc 23 2 w0 (w.heap.size + 1) (.slice (some ⟨w.heap.size + 1, 0, none⟩) 0 0) ([] : List Ty)) := by
    rw [hw0]
    have := Orw.made tyc 23 2 (w.alloc (.cells #[.int .i64 0, .string ⟨#[]⟩] 23)) (w.heap.size + 1) (by simp)
    rw [show (w.alloc (.cells #[.int .i64 0, .string ⟨#[]⟩] 23)).heap.size = w.heap.size + 1 by simp] at this
    exact this
  have HW0 := hide hw0
  clear hw0
  have HS := hide hS
  have HA := hide hA
  clear hS hA
  obtain ⟨n, hn⟩ : ∃ n, n = (40 :: t).length := ⟨_, rfl⟩
  have HNN := hide hn
  rw [← hn] at hz hs
  have hn1 : 1 ≤ n := by rw [hn]; simp
  clear hn
  obtain ⟨MV, hMV⟩ : ∃ MV, MV = metP L rest := ⟨_, rfl⟩
  rw [← hMV]
  have HMV := hide hMV
  clear hMV
  go_enter Try.func12, Try.ntmps12
  go_wp2
  rw [← unhide HW0]
  go_loopw [5, 6] (fun lv iv wr => ∃ (acc l' : List Ty) (k : Nat), 1 ≤ k ∧ k ≤ n ∧ iv = .int .i64 k ∧ Hid (acc ++ l' = L) ∧ Hid (Args ((40 :: t).drop k) l' rest) ∧ Hid (Orw tyc 23 2 wr (w.heap.size + 1) lv acc) ∧ Hid (Bx2c wr w.heap.size (.int .i64 0) (.string ⟨#[]⟩)) ∧ Hid (Below w.heap.size w wr)) (fun lv iv wr => n - (intOf iv).toNat)
  case atStart => exact ⟨[], L, 1, by omega, by omega, rfl, rfl, HA, O0, HB, F0⟩
  case round =>
    obtain ⟨acc, l', k, hk1, hkn, rfl, HAC, HAR, HO, HBR, HF⟩ := hrel
    have hal : acc.length ≤ L.length := by have := congrArg List.length (unhide HAC); simp at this; omega
    by_cases hlt : k < n
    case neg =>
      obtain rfl : k = n := by omega
      have hr : (40 :: t).drop k = [] := List.drop_of_length_le (by have := unhide HNN; omega)
      have hre := ((unhide HAR).at_done (by rw [hr]; rfl)).2
      rw [hr] at hre
      have hm : MV = ([], ty0, 100) := (unhide HMV).trans (by rw [hre]; exact metP_no (by simp))
      have HM := hide hm
      obtain ⟨k0, k1, k2⟩ := (unhide HBR).cells
      clear hr hre hm
      go_wp2
      refine bodyPost_ret (ty_ret3 Try.results12 _ w.heap.size _ _ (ty_set _ _ (unhide HBR).row) _ rfl) rfl ?_
      rw [unhide HM]
      exact ⟨_, rfl, Orw.nil _ _ _ _ _, ty_bel _ _ (unhide HF) (Nat.le_refl _)⟩
    have hlt1 : (k : Int) < (n : Int) := by omega
    obtain ⟨c, hc⟩ : ∃ c, (40 :: t)[k]? = some c := ⟨_, List.getElem?_eq_getElem (by have := unhide HNN; omega)⟩
    obtain ⟨hk2, q1⟩ := (unhide HS).at k c hc
    have hdr := drop_at hc
    by_cases c41 : c = 41
    · subst c41
      have hre := (unhide HAR).at_done (by rw [hdr]; exact size_41 _)
      rw [hdr] at hre
      obtain ⟨K1, hK1⟩ : ∃ K1, K1 = k + 1 := ⟨_, rfl⟩
      have hK1' : (k : Int) + 1 = K1 := by omega
      have hK2 : K1 ≤ n := by omega
      have hK3 : (K1 : Int) ≤ n := by omega
      have hki : ¬ (k : Int) = (n : Int) := by omega
      have hki' : ((k : Int) == (n : Int)) = false := by simp; omega
      have HBS : Hid (Str (S.extract K1 n) ((40 :: t).drop (k + 1))) := by
        have := (unhide HS).sub (k + 1) n
        rw [show ((40 :: t).drop (k + 1)).take (n - (k + 1)) = (40 :: t).drop (k + 1) from List.take_of_length_le (by have := unhide HNN; simp at this ⊢; omega)] at this
        rw [hK1]
        exact this
      have hbl : ((40 :: t).drop (k + 1)).length ≤ 1000000 := by simp at hlen ⊢; have := unhide HNN; simp at this; omega
      have hLac : acc = L := by have := unhide HAC; rw [hre.1, List.append_nil] at this; exact this
      have hrest : rest = 41 :: (40 :: t).drop (k + 1) := hre.2
      clear hre HAR HAC hK1 hc hdr
      generalize (40 :: t).drop (k + 1) = b at *
      subst hLac
      obtain ⟨B, hB⟩ : ∃ B, S.extract K1 n = B := ⟨_, rfl⟩
      rw [hB] at HBS
      have hans : ansP rest = if b = [86] then (ty0, 0) else parP b := by rw [hrest]; exact if_pos rfl
      have HMV2 : Hid (MV = if (ansP rest).2 = 0 then (if 32 < wideN acc then ([], ty0, 3) else (acc, (ansP rest).1, 0)) else ([], ty0, 100)) := unhide HMV
      rw [hans] at HMV2
      clear hans hrest HMV HA
      have HWI : Hid (∀ W va vc, u5 = .slice va acc.length vc → Orw tyc 23 2 W (w.heap.size + 1) u5 acc → Calls Try.prog 22 #[u5] W fun e w' => e = .returned (.int .i64 (wideN acc)) ∧ Below W.heap.size W w') := fun W va vc e h => by
        rw [e] at h ⊢
        exact x10Wide_any W va acc.length vc acc (h.ls rkT) (by have hNN := unhide HNN; rw [List.length_cons] at hNN; omega)
      obtain ⟨va, vc, hv, _, _, _⟩ := (unhide HO).form
      have HV := hide hv
      clear hv
      by_cases hbV : b = [86]
      · have hBe : B = ⟨#[86]⟩ := by rw [(unhide HBS).eq, hbV]
        rw [if_pos hbV] at HMV2
        subst hBe
        clear hbV HBS
        have HB1 : Hid (Bx2c (wr.alloc (.cells #[.int .i64 0, .string ⟨#[]⟩] 23)) w.heap.size _ _) := (unhide HBR).keep (bA (Below.refl _ _) _)
        have F1 : Hid (Below w.heap.size w (wr.alloc (.cells #[.int .i64 0, .string ⟨#[]⟩] 23))) := bA (unhide HF) _
        have HY1 : Hid (Bx2c (wr.alloc (.cells #[.int .i64 0, .string ⟨#[]⟩] 23)) wr.heap.size _ _) := Bx2c.made _ _ _
        have HO1 : Hid (Orw tyc 23 2 (wr.alloc (.cells #[.int .i64 0, .string ⟨#[]⟩] 23)) (w.heap.size + 1) u5 acc) := (unhide HO).below (fun j hj => ((Below.refl _ _).alloc (Nat.le_refl _) _).block j ((unhide HO).lt j hj).2)
        have HQ : Hid (wr.heap.size ≠ w.heap.size) := fun e => by have := lt_of_heap (unhide HBR).row; omega
        go_wp2_with fail
        refine (unhide HWI _ va vc (unhide HV) (unhide HO1)).mono ?_
        rintro e w4 ⟨rfl, f4⟩
        have HB4 := hide ((unhide HB1).keep f4)
        have F4 := hide ((unhide F1).trans (f4.mono (unhide F1).size))
        have HY4 := hide ((unhide HY1).keep f4)
        have HO4 : Hid (Orw tyc 23 2 w4 (w.heap.size + 1) u5 acc) := (unhide HO1).below (fun j hj => f4.block j ((unhide HO1).lt j hj).2)
        clear f4
        by_cases h32 : 32 < wideN acc
        · have h32' : (32 : Int) < (wideN acc : Int) := by omega
          have hm : MV = ([], ty0, 3) := (unhide HMV2).trans (by simp [h32])
          have HM := hide hm
          obtain ⟨g0, g1, g2⟩ := (unhide HB4).cells
          clear hm
          go_wp2
          refine bodyPost_ret (ty_ret3 Try.results12 _ w.heap.size _ _ (ty_set _ _ (unhide HB4).row) _ rfl) rfl ?_
          rw [unhide HM]
          exact ⟨_, rfl, Orw.nil _ _ _ _ _, ty_bel _ _ (unhide F4) (Nat.le_refl _)⟩
        · have h32' : ¬ (32 : Int) < (wideN acc : Int) := by omega
          have h32'' : (wideN acc : Int) ≤ 32 := by omega
          have hm : MV = (acc, ty0, 0) := (unhide HMV2).trans (by simp [h32])
          have HM := hide hm
          clear hm
          have HBd : Hid (Bx2c w4.drew w.heap.size _ _) := (unhide HB4).keep (Below.refl _ _).drew
          have Fd : Hid (Below w.heap.size w w4.drew) := (unhide F4).drew
          have HOd : Hid (Orw tyc 23 2 w4.drew (w.heap.size + 1) u5 acc) := (unhide HO4).below (fun _ _ => rfl)
          obtain ⟨SS, hSS⟩ : ∃ SS : World → Prop, SS = fun W => Bx2c W wr.heap.size (.int .i64 0) (.string ⟨#[]⟩) := ⟨_, rfl⟩
          have KS : Hid (∀ W, SS W ↔ Bx2c W wr.heap.size (.int .i64 0) (.string ⟨#[]⟩)) := fun W => by rw [hSS]
          clear hSS
          go_wp2
          refine wp_region_txt SS [3] [0, 1, 2, 3, 4] (by kernel_rfl) (by kernel_rfl) ((unhide KS _).2 ((unhide HY4).keep (Below.refl _ _).drew)) ?_
          repeat (first
            | (refine Txt.reads (v := ?_) (by rfl) (by rfl) (by rfl) ?_ ?_; rotate_left; (focus ((intro W hSW; obtain ⟨p0, p1, p2⟩ := ((unhide KS W).1 hSW).cells; go_simp) <;> with_reducible rfl)); simp only [Act.put, List.setIfInBounds_toArray, List.set_cons_zero, List.set_cons_succ]))
          refine Txt.acts (by rfl) (by rfl) (by rfl) (fun K hK => ?_)
          obtain ⟨d0, d1, d2⟩ := (unhide HBd).cells
          obtain ⟨g0, g1, g2⟩ := (unhide HB4).cells
          go_simp
          refine hK.out _ _ ((unhide KS _).2 ⟨?_⟩) ?_
          · have hr := ((unhide HY4).keep (Below.refl _ _).drew).row
            exact (Below.heap_setCell _ _ _ _ (unhide HQ)).trans ((Below.heap_setCell _ _ _ _ (unhide HQ)).trans hr)
          clear hK K
          repeat (first
            | (refine Txt.reads (v := ?_) (by rfl) (by rfl) (by rfl) ?_ ?_; rotate_left; (focus ((intro W hSW; obtain ⟨p0, p1, p2⟩ := ((unhide KS W).1 hSW).cells; go_simp) <;> with_reducible rfl)); simp only [Act.put, List.setIfInBounds_toArray, List.set_cons_zero, List.set_cons_succ]))
          refine Txt.done ?_
          go_wp2
          refine bodyPost_ret (ty_ret3 Try.results12 _ w.heap.size _ _ (ty_set _ _ (unhide HBd).row) _ rfl) rfl ?_
          rw [unhide HM]
          refine ⟨u5, rfl, ?_, ty_bel _ _ (unhide Fd) (Nat.le_refl _)⟩
          refine ((unhide HOd).below (fun j hj => ?_)).base (by omega)
          have hne : ¬ j = w.heap.size := fun e => by have := ((unhide HOd).lt j hj).1; omega
          exact (Below.heap_setCell _ _ _ _ hne).trans (Below.heap_setCell _ _ _ _ hne)
      · rw [if_neg hbV] at HMV2
        have i1 : ¬ B.toList = [86] := by rw [(unhide HBS).list]; exact hbV
        have i2 : (B.toList == [86]) = false := by simpa using i1
        have i3 : (B.toList != [86]) = true := by simpa using i1
        have HP : Hid (∀ W, Calls Try.prog 10 #[.string B] W fun e w' => e = .returned (.tuple #[tyV (parP b).1, .int .i64 (parP b).2]) ∧ Below W.heap.size W w') := fun W => x10Parse_any W B b (unhide HBS) (by omega)
        have hpe := parP_err b
        generalize parP b = pp at *
        obtain ⟨⟨pk, pn⟩, pe⟩ := pp
        unfold tyV at HP
        simp only at HP hpe HMV2
        obtain ⟨T, hT⟩ : ∃ T : ByteArray, ⟨pn.toArray⟩ = T := ⟨_, rfl⟩
        rw [hT] at HP
        have HT := hide hT
        clear hT hbV HBS
        have HB1 : Hid (Bx2c (wr.alloc (.cells #[.int .i64 0, .string ⟨#[]⟩] 23)) w.heap.size _ _) := (unhide HBR).keep (bA (Below.refl _ _) _)
        have F1 : Hid (Below w.heap.size w (wr.alloc (.cells #[.int .i64 0, .string ⟨#[]⟩] 23))) := bA (unhide HF) _
        have HY1 : Hid (Bx2c (wr.alloc (.cells #[.int .i64 0, .string ⟨#[]⟩] 23)) wr.heap.size _ _) := Bx2c.made _ _ _
        have HO1 : Hid (Orw tyc 23 2 (wr.alloc (.cells #[.int .i64 0, .string ⟨#[]⟩] 23)) (w.heap.size + 1) u5 acc) := (unhide HO).below (fun j hj => ((Below.refl _ _).alloc (Nat.le_refl _) _).block j ((unhide HO).lt j hj).2)
        have HQ : Hid (wr.heap.size ≠ w.heap.size) := fun e => by have := lt_of_heap (unhide HBR).row; omega
        go_wp2_with fail
        refine (unhide HP _).mono ?_
        rintro e w2 ⟨rfl, f2⟩
        have HB2 : Hid (Bx2c (w2.alloc (.cells #[.int .i64 pk, .string T] 23)) w.heap.size _ _) := ((unhide HB1).keep f2).keep (bA (Below.refl _ _) _)
        have F2a := (unhide F1).trans (f2.mono (unhide F1).size)
        have F2 : Hid (Below w.heap.size w (w2.alloc (.cells #[.int .i64 pk, .string T] 23))) := bA F2a _
        have HY2 : Hid (Bx2c (w2.alloc (.cells #[.int .i64 pk, .string T] 23)) wr.heap.size _ _) := ((unhide HY1).keep f2).keep (bA (Below.refl _ _) _)
        have HX2 : Hid (Bx2c (w2.alloc (.cells #[.int .i64 pk, .string T] 23)) w2.heap.size _ _) := Bx2c.made _ _ _
        have O2 : Orw tyc 23 2 w2 (w.heap.size + 1) u5 acc := (unhide HO1).below (fun j hj => f2.block j ((unhide HO1).lt j hj).2)
        have HO2 : Hid (Orw tyc 23 2 (w2.alloc (.cells #[.int .i64 pk, .string T] 23)) (w.heap.size + 1) u5 acc) := O2.below (fun j hj => ((Below.refl _ _).alloc (Nat.le_refl _) _).block j (O2.lt j hj).2)
        clear f2 F2a O2 HP
        rcases hpe with rfl | rfl
        · obtain ⟨y0, y1, y2⟩ := (unhide HY2).cells
          obtain ⟨x0, x1, x2⟩ := (unhide HX2).cells
          have HOn : Hid (∀ j, u5.ownBlock = some j → j ≠ wr.heap.size) := fun j hj e => by
            have h1 := ((unhide HO).lt j hj).2
            omega
          have HB3 : Hid (Bx2c (((w2.alloc (.cells #[.int .i64 pk, .string T] 23)).setCell ⟨wr.heap.size, 0, none⟩ (.int .i64 pk)).setCell ⟨wr.heap.size, 1, none⟩ (.string T)) w.heap.size _ _) := ⟨(Below.heap_setCell _ _ _ _ (fun e => unhide HQ e.symm)).trans ((Below.heap_setCell _ _ _ _ (fun e => unhide HQ e.symm)).trans (unhide HB2).row)⟩
          have F3 : Hid (Below w.heap.size w (((w2.alloc (.cells #[.int .i64 pk, .string T] 23)).setCell ⟨wr.heap.size, 0, none⟩ (.int .i64 pk)).setCell ⟨wr.heap.size, 1, none⟩ (.string T))) := ty_bel _ _ (unhide F2) (unhide HF).size
          have HY3 : Hid (Bx2c (((w2.alloc (.cells #[.int .i64 pk, .string T] 23)).setCell ⟨wr.heap.size, 0, none⟩ (.int .i64 pk)).setCell ⟨wr.heap.size, 1, none⟩ (.string T)) wr.heap.size (.int .i64 pk) (.string T)) := ⟨ty_set _ _ (unhide HY2).row⟩
          have HO3 : Hid (Orw tyc 23 2 (((w2.alloc (.cells #[.int .i64 pk, .string T] 23)).setCell ⟨wr.heap.size, 0, none⟩ (.int .i64 pk)).setCell ⟨wr.heap.size, 1, none⟩ (.string T)) (w.heap.size + 1) u5 acc) := (unhide HO2).below (fun j hj => (Below.heap_setCell _ _ _ _ (unhide HOn j hj)).trans (Below.heap_setCell _ _ _ _ (unhide HOn j hj)))
          go_wp2_with fail
          refine (unhide HWI _ va vc (unhide HV) (unhide HO3)).mono ?_
          rintro e w4 ⟨rfl, f4⟩
          have HB4 := hide ((unhide HB3).keep f4)
          have F4 := hide ((unhide F3).trans (f4.mono (unhide F3).size))
          have HY4 := hide ((unhide HY3).keep f4)
          have HO4 : Hid (Orw tyc 23 2 w4 (w.heap.size + 1) u5 acc) := (unhide HO3).below (fun j hj => f4.block j ((unhide HO3).lt j hj).2)
          clear f4
          by_cases h32 : 32 < wideN acc
          · have h32' : (32 : Int) < (wideN acc : Int) := by omega
            have hm : MV = ([], ty0, 3) := (unhide HMV2).trans (by simp [h32])
            have HM := hide hm
            obtain ⟨g0, g1, g2⟩ := (unhide HB4).cells
            clear hm
            go_wp2
            refine bodyPost_ret (ty_ret3 Try.results12 _ w.heap.size _ _ (ty_set _ _ (unhide HB4).row) _ rfl) rfl ?_
            rw [unhide HM]
            exact ⟨_, rfl, Orw.nil _ _ _ _ _, ty_bel _ _ (unhide F4) (Nat.le_refl _)⟩
          · have h32' : ¬ (32 : Int) < (wideN acc : Int) := by omega
            have h32'' : (wideN acc : Int) ≤ 32 := by omega
            have hm : MV = (acc, ⟨pk, pn⟩, 0) := (unhide HMV2).trans (by simp [h32])
            have HM := hide hm
            clear hm
            have HBd : Hid (Bx2c w4.drew w.heap.size _ _) := (unhide HB4).keep (Below.refl _ _).drew
            have Fd : Hid (Below w.heap.size w w4.drew) := (unhide F4).drew
            have HOd : Hid (Orw tyc 23 2 w4.drew (w.heap.size + 1) u5 acc) := (unhide HO4).below (fun _ _ => rfl)
            obtain ⟨SS, hSS⟩ : ∃ SS : World → Prop, SS = fun W => Bx2c W wr.heap.size (.int .i64 pk) (.string T) := ⟨_, rfl⟩
            have KS : Hid (∀ W, SS W ↔ Bx2c W wr.heap.size (.int .i64 pk) (.string T)) := fun W => by rw [hSS]
            clear hSS
            go_wp2
            refine wp_region_txt SS [3] [0, 1, 2, 3, 4] (by kernel_rfl) (by kernel_rfl) ((unhide KS _).2 ((unhide HY4).keep (Below.refl _ _).drew)) ?_
            repeat (first
              | (refine Txt.reads (v := ?_) (by rfl) (by rfl) (by rfl) ?_ ?_; rotate_left; (focus ((intro W hSW; obtain ⟨p0, p1, p2⟩ := ((unhide KS W).1 hSW).cells; go_simp) <;> with_reducible rfl)); simp only [Act.put, List.setIfInBounds_toArray, List.set_cons_zero, List.set_cons_succ]))
            refine Txt.acts (by rfl) (by rfl) (by rfl) (fun K hK => ?_)
            obtain ⟨d0, d1, d2⟩ := (unhide HBd).cells
            obtain ⟨g0, g1, g2⟩ := (unhide HB4).cells
            go_simp
            refine hK.out _ _ ((unhide KS _).2 ⟨?_⟩) ?_
            · have hr := ((unhide HY4).keep (Below.refl _ _).drew).row
              exact (Below.heap_setCell _ _ _ _ (unhide HQ)).trans ((Below.heap_setCell _ _ _ _ (unhide HQ)).trans hr)
            clear hK K
            repeat (first
              | (refine Txt.reads (v := ?_) (by rfl) (by rfl) (by rfl) ?_ ?_; rotate_left; (focus ((intro W hSW; obtain ⟨p0, p1, p2⟩ := ((unhide KS W).1 hSW).cells; go_simp) <;> with_reducible rfl)); simp only [Act.put, List.setIfInBounds_toArray, List.set_cons_zero, List.set_cons_succ]))
            refine Txt.done ?_
            go_wp2
            refine bodyPost_ret (ty_ret3 Try.results12 _ w.heap.size _ _ (ty_set _ _ (unhide HBd).row) _ rfl) rfl ?_
            rw [unhide HM]
            refine ⟨u5, by rw [show tyV (acc, (⟨pk, pn⟩ : Ty), (0 : Int)).2.1 = .agg #[.int .i64 pk, .string T] by rw [← unhide HT]; rfl]; rfl, ?_, ty_bel _ _ (unhide Fd) (Nat.le_refl _)⟩
            refine ((unhide HOd).below (fun j hj => ?_)).base (by omega)
            have hne : ¬ j = w.heap.size := fun e => by have := ((unhide HOd).lt j hj).1; omega
            exact (Below.heap_setCell _ _ _ _ hne).trans (Below.heap_setCell _ _ _ _ hne)
        · have hm : MV = ([], ty0, 100) := (unhide HMV2).trans (by simp)
          have HM := hide hm
          obtain ⟨k0, k1, k2⟩ := (unhide HB2).cells
          clear hm
          go_wp2
          refine bodyPost_ret (ty_ret3 Try.results12 _ w.heap.size _ _ (ty_set _ _ (unhide HB2).row) _ rfl) rfl ?_
          rw [unhide HM]
          exact ⟨_, rfl, Orw.nil _ _ _ _ _, ty_bel _ _ (unhide F2) (Nat.le_refl _)⟩
    · have d1 : ¬ (c.toNat : Int) = 41 := un73 (n := 41) c41 (by decide)
      have d2 : ((c.toNat : Int) == 41) = false := by simpa using d1
      have d3 : ((c.toNat : Int) != 41) = true := by simpa using d1
      have HRS : Hid (Str (S.extract k n) ((40 :: t).drop k)) := by
        have := (unhide HS).sub k n
        rw [show ((40 :: t).drop k).take (n - k) = (40 :: t).drop k from List.take_of_length_le (by have := unhide HNN; simp at this ⊢; omega)] at this
        exact this
      have hrl : ((40 :: t).drop k).length = n - k := by have := unhide HNN; rw [List.length_drop, ← this]
      have HON : Hid (∀ W, Calls Try.prog 33 #[.string (S.extract k n), .int .i64 0] W fun e w' => e = .returned (.tuple #[tyV (oneP ((40 :: t).drop k) 0).1, .int .i64 (oneP ((40 :: t).drop k) 0).2]) ∧ Below W.heap.size W w') := fun W => x10One_any _ W _ 0 (unhide HRS) (by omega) (by omega)
      have hr0 : ((40 :: t).drop k)[0]? ≠ some 41 := by rw [hdr]; simpa using c41
      have hsz := sizeN_is ((40 :: t).drop k)
      have hty := one_type ((40 :: t).drop k) 0
      have hle := one_le ((40 :: t).drop k) 0
      have hdd : ∀ m, ((40 :: t).drop k).drop m = (40 :: t).drop (k + m) := fun m => by rw [List.drop_drop]
      have HRR := hide (unhide HAR).both
      clear hdr hc c41 HRS HAR
      generalize (40 :: t).drop k = r at *
      rcases hop : oneP r 0 with ⟨⟨tk, tn⟩, m⟩
      rw [hop] at HON hsz hty hle
      unfold tyV at HON
      simp only at HON hsz hty hle
      rcases unhide HRR with ⟨hz0, rfl, hre⟩ | ⟨hz1, l2, rfl, hA2⟩
      · have hm0 : m = 0 := by omega
        subst hm0
        have hm : MV = ([], ty0, 100) := (unhide HMV).trans (by rw [hre]; exact metP_no hr0)
        have HM := hide hm
        clear hm hre HRR hty hsz hz0 hop hdd hr0
        go_wp2_with fail
        refine (unhide HON wr).mono ?_
        rintro e w1 ⟨rfl, f1⟩
        have HB1 : Hid (Bx2c (w1.alloc (.cells #[.int .i64 tk, .string ⟨tn.toArray⟩] 23)) w.heap.size _ _) := ((unhide HBR).keep f1).keep (bA (Below.refl _ _) _)
        have F1 : Hid (Below w.heap.size w (w1.alloc (.cells #[.int .i64 tk, .string ⟨tn.toArray⟩] 23))) := bA ((unhide HF).trans (f1.mono (unhide HF).size)) _
        obtain ⟨k0, k1, k2⟩ := (unhide HB1).cells
        clear f1
        go_wp2
        refine bodyPost_ret (ty_ret3 Try.results12 _ w.heap.size _ _ (ty_set _ _ (unhide HB1).row) _ rfl) rfl ?_
        rw [unhide HM]
        exact ⟨_, rfl, Orw.nil _ _ _ _ _, ty_bel _ _ (unhide F1) (Nat.le_refl _)⟩
      · have hm1 : 0 < m := by omega
        rw [hsz] at hA2 HAC
        rw [hty hm1] at HAC
        have HA2 := hide hA2
        rw [hdd] at HA2
        have hm2 : ((m : Int) == 0) = false := by simp; omega
        have hm3 : ¬ (m : Int) = 0 := by omega
        obtain ⟨KM, hKM⟩ : ∃ KM, KM = k + m := ⟨_, rfl⟩
        have hKM2 : (k : Int) + m = KM := by omega
        rw [← hKM] at HA2
        have HAC2 : Hid ((acc ++ [⟨tk, tn⟩]) ++ l2 = L) := by rw [List.append_assoc]; exact unhide HAC
        have HKM : Hid (k < KM ∧ KM ≤ n) := by show k < KM ∧ KM ≤ n; omega
        clear hKM hA2 HRR hty hsz hz1 hop hdd hr0 HAC
        go_wp2_with fail
        refine (unhide HON wr).mono ?_
        rintro e w1 ⟨rfl, f1⟩
        have F1 := (unhide HF).trans (f1.mono (unhide HF).size)
        have O1 : Orw tyc 23 2 w1 (w.heap.size + 1) u5 acc := (unhide HO).below (fun j hj => f1.block j ((unhide HO).lt j hj).2)
        have O2 : Orw tyc 23 2 (w1.alloc (.cells #[.int .i64 tk, .string ⟨tn.toArray⟩] 23)) (w.heap.size + 1) u5 acc := O1.below (fun j hj => ((Below.refl _ _).alloc (Nat.le_refl _) _).block j (O1.lt j hj).2)
        have HO3 : Hid (Orw tyc 23 2 ((w1.alloc (.cells #[.int .i64 tk, .string ⟨tn.toArray⟩] 23)).alloc (.cells #[.int .i64 tk, .string ⟨tn.toArray⟩] 23)) (w.heap.size + 1) u5 acc) := O2.below (fun j hj => ((Below.refl _ _).alloc (Nat.le_refl _) _).block j (O2.lt j hj).2)
        have HF3 : Hid (Below w.heap.size w ((w1.alloc (.cells #[.int .i64 tk, .string ⟨tn.toArray⟩] 23)).alloc (.cells #[.int .i64 tk, .string ⟨tn.toArray⟩] 23))) := bA (bA F1 _) _
        have HB3 : Hid (Bx2c ((w1.alloc (.cells #[.int .i64 tk, .string ⟨tn.toArray⟩] 23)).alloc (.cells #[.int .i64 tk, .string ⟨tn.toArray⟩] 23)) w.heap.size _ _) := (((unhide HBR).keep f1).keep (bA (Below.refl _ _) _)).keep (bA (Below.refl _ _) _)
        have hl1 := ls_one (cs := tyc) (sz := 2) (w1.alloc (.cells #[.int .i64 tk, .string ⟨tn.toArray⟩] 23)) #[.int .i64 tk, .string ⟨tn.toArray⟩] 23 ⟨tk, tn⟩ rfl
        rw [show (w1.alloc (.cells #[.int .i64 tk, .string ⟨tn.toArray⟩] 23)).heap.size = w1.heap.size + 1 by simp] at hl1
        have HL1 := hide hl1
        have hlen2 : (acc.length + 1) * 24 ≤ 140737488355328 := by have hNN := unhide HNN; rw [List.length_cons] at hNN; omega
        have hlen3 : acc.length + 1 ≤ 140737488355328 := by omega
        have HL2 := hide hlen2
        have HL3 := hide hlen3
        have HSB : Hid (w.heap.size + 1 ≤ ((w1.alloc (.cells #[.int .i64 tk, .string ⟨tn.toArray⟩] 23)).alloc (.cells #[.int .i64 tk, .string ⟨tn.toArray⟩] 23)).heap.size) := by have := F1.size; show w.heap.size + 1 ≤ _; simp; omega
        have HYb : Hid (Bx2c (w1.alloc (.cells #[.int .i64 tk, .string ⟨tn.toArray⟩] 23)) w1.heap.size _ _) := Bx2c.made _ _ _
        obtain ⟨y0, y1, y2⟩ := (unhide HYb).cells
        clear hlen2 hlen3 O1 O2 F1 f1 hl1 HO HF HBR
        go_wp2_with (first
          | (at_builtin; refine listR_append rkT rfl _ _ rfl (w.heap.size + 1) _ _ rfl (unhide HO3) _ 1 1 [⟨tk, tn⟩] rfl (unhide HL1) (fun e => by cases e) (unhide HL2) (unhide HL3) (unhide HSB) ?_)
          | go_in)
        intro v' w3 o3 g3
        have HO4 := hide o3
        have HF4 : Hid (Below w.heap.size w w3) := (unhide HF3).grown g3 (unhide HF3).size (fun k hk => by have := ((unhide HO3).lt k hk).1; omega)
        have HB4 : Hid (Bx2c w3 w.heap.size (.int .i64 0) (.string ⟨#[]⟩)) := ⟨by
          have hg := (Below.refl (w.heap.size + 1) ((w1.alloc (.cells #[.int .i64 tk, .string ⟨tn.toArray⟩] 23)).alloc (.cells #[.int .i64 tk, .string ⟨tn.toArray⟩] 23))).grown g3 (unhide HSB) (fun k hk => ((unhide HO3).lt k hk).1)
          exact (hg.block w.heap.size (by omega)).trans (unhide HB3).row⟩
        clear o3 g3
        go_wp2
        go_roundw
        case rel => exact ⟨acc ++ [⟨tk, tn⟩], l2, KM, by have := unhide HKM; omega, (unhide HKM).2, rfl, HAC2, HA2, HO4, HB4, HF4⟩
        case measure => have := unhide HKM; simp [intOf]; omega
theorem x10Method_any (w : World) (S : ByteArray) (s : List UInt8) (hS : Str S s) (hs : s.length ≤ 1000000) (L : List Ty) (rest : List UInt8) (hA : ArgsOf s L rest) : Calls Try.prog 12 #[.string S] w fun e w' => ∃ v, e = .returned (.tuple #[v, tyV (metP L rest).2.1, .int .i64 (metP L rest).2.2]) ∧ Orw tyc 23 2 w' w.heap.size v (metP L rest).1 ∧ Below w.heap.size w w' := by
  by_cases h1 : s[0]? = some 40
  · obtain ⟨t, rfl⟩ : ∃ t, s = 40 :: t := by
      cases s with
      | nil => simp at h1
      | cons c t => simp at h1; exact ⟨t, by rw [h1]⟩
    exact x10Method_yes w S t hS hs L rest (hA.yes rfl)
  · obtain ⟨rfl, rfl⟩ := hA.no h1
    rw [metP_no (by simp)]
    refine (x10Method_no w S s hS h1).mono ?_
    rintro e w' ⟨rfl, f⟩
    exact ⟨_, rfl, Orw.nil _ _ _ _ _, f⟩
end Go.Proofs.Ytjhiflhmefhogaa
