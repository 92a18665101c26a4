/- The landed Method. -/
import Derived.Test.YtjhiflhmefhogaaKdQ
import Derived.Test.YtjhiflhmefhogaaTxA
namespace Go.Proofs.Ytjhiflhmefhogaa
open Go.RowKit
set_option linter.unusedVariables false
set_option maxRecDepth 100000

structure ArgsOf (s : List UInt8) (L : List Ty) (rest : List UInt8) : Prop where
  yes : s[0]? = some 40 → Args (s.drop 1) L rest
  no : s[0]? ≠ some 40 → L = [] ∧ rest = []
theorem ArgsOf.there (s : List UInt8) : ∃ L rest, ArgsOf s L rest := by
  by_cases h : s[0]? = some 40
  · obtain ⟨L, rest, hA⟩ := Args.some (s.drop 1).length (s.drop 1) (Nat.le_refl _)
    exact ⟨L, rest, fun _ => hA, fun hn => absurd h hn⟩
  · exact ⟨[], [], fun hy => absurd hy h, fun _ => ⟨rfl, rfl⟩⟩
theorem ArgsOf.len {s : List UInt8} {L : List Ty} {rest : List UInt8} (h : ArgsOf s L rest) : L.length ≤ s.length ∧ rest.length ≤ s.length := by
  by_cases h1 : s[0]? = some 40
  · have := (h.yes h1).len
    simp at this
    omega
  · obtain ⟨rfl, rfl⟩ := h.no h1
    simp
theorem yargs_all (w : World) (S : ByteArray) (s : List UInt8) (hS : Str S s) (hs : s.length ≤ 1000000) (L : List Ty) (rest : List UInt8) (hA : ArgsOf s L rest) : Calls Try.prog 34 #[.string S] w fun e w' => ∃ v, e = .returned (.tuple #[v, .string ⟨rest.toArray⟩]) ∧ Orw tyc 23 2 w' w.heap.size v L ∧ Below w.heap.size w w' := by
  by_cases h1 : s[0]? = some 40
  · obtain ⟨t, rfl⟩ : ∃ t, s = 40 :: t := by
      cases s with
      | nil => simp at h1
      | cons c t => simp at h1; exact ⟨t, by rw [h1]⟩
    exact yargs_any w S t hS hs L rest (hA.yes rfl)
  · obtain ⟨rfl, rfl⟩ := hA.no h1
    refine (yargs_no w S s hS h1).mono ?_
    rintro e w' ⟨rfl, rfl⟩
    exact ⟨_, rfl, Orw.nil _ _ _ _ _, Below.refl _ _⟩
theorem results_tmp_cell_tmp {fn : Func} {u p v : Tmp} {ty : TypeId} (h : fn.results = #[.tmp u, .cell p ty, .tmp v]) (tmps : Array Value) (P : Program) (w : World) :
    (results fn tmps).run P w =
      ((asAddr (tmps.getD p undef)).run P w).andThen fun a w₁ => ((loadVar ty a).run P w₁).andThen fun x w₂ => .ok (.tuple #[tmps.getD u undef, x, tmps.getD v undef]) w₂ := by
  simp only [results, h]
  simp [Sem.run_bind, Result.andThen]
theorem ty_ret3 {fn : Func} {u p v : Tmp} (h : fn.results = #[.tmp u, .cell p 23, .tmp v]) (W : World) (r : Nat) (x y : Value) (hb : W.heap[r]? = some (.cells #[x, y] 23 (0, 0))) (tmps : Array Value) (hp : tmps.getD p undef = .pointer (some ⟨r, 0, none⟩)) :
    (results fn tmps).run Try.prog W = .ok (.tuple #[tmps.getD u undef, .agg #[x, y], tmps.getD v undef]) W := by
  rw [results_tmp_cell_tmp h, hp]
  simp [asAddr, run_loadVar_row W r 23 23 _ (0, 0) _ hb Try.underlying23 rfl sizeTy]
set_option maxHeartbeats 1600000 in
theorem yMethod_any (w : World) (S : ByteArray) (s : List UInt8) (hS : Str S s) (hs : s.length ≤ 1000000) (L : List Ty) (rest : List UInt8) (hA : ArgsOf s L rest) : Calls Try.prog 11 #[.string S] w fun e w' => ∃ v, e = .returned (.tuple #[v, tyV (metP L rest).2.1, .int .i64 (metP L rest).2.2]) ∧ Orw tyc 23 2 w' w.heap.size v (metP L rest).1 ∧ Below w.heap.size w w' := by
  obtain ⟨w0, hw0⟩ : ∃ w0, w0 = w.alloc (.cells #[.int .i64 0, .string ⟨#[]⟩] 23) := ⟨_, rfl⟩
  have HB : Hid (Bx2c w0 w.heap.size (.int .i64 0) (.string ⟨#[]⟩)) := by rw [hw0]; exact Bx2c.made _ _ _
  have F0 : Hid (Below w.heap.size w w0) := by rw [hw0]; exact bA (Below.refl _ _) _
  have HW0 := hide hw0
  clear hw0
  have HG := hide (yargs_all w0 S s hS hs L rest hA)
  have hlen := hA.len
  have HN : Hid (∀ W, Calls Try.prog 35 #[.string ⟨rest.toArray⟩] W fun e w' => e = .returned (.tuple #[tyV (ansP rest).1, .int .i64 (ansP rest).2]) ∧ Below W.heap.size W w') := fun W => yans_any W _ rest ⟨rfl⟩ (by omega)
  have hae := ansP_err rest
  unfold metP
  generalize ansP rest = an at *
  obtain ⟨⟨bk, bn⟩, be⟩ := an
  unfold tyV at *
  simp only at HN hae ⊢
  clear hS hA
  obtain ⟨MV, hMV⟩ : ∃ MV, MV = (if be = 0 then (if 32 < wideN L then (([] : List Ty), ty0, (3 : Int)) else (L, ⟨bk, bn⟩, 0)) else ([], ty0, 100)) := ⟨_, rfl⟩
  rw [← hMV]
  have HMV := hide hMV
  clear hMV
  go_enter Try.func11, Try.ntmps11
  go_wp2_with fail
  rw [← unhide HW0]
  refine (unhide HG).mono ?_
  rintro e w1 ⟨v, rfl, o1, f1⟩
  have HB1 := hide ((unhide HB).keep f1)
  have F1 := hide ((unhide F0).trans (f1.mono (unhide F0).size))
  have HO1 := hide o1
  have HSZ : Hid (w.heap.size < w0.heap.size) := lt_of_heap (unhide HB).row
  clear f1 o1
  go_wp2_with fail
  refine (unhide HN w1).mono ?_
  rintro e w2 ⟨rfl, f2⟩
  obtain ⟨T, hT⟩ : ∃ T : ByteArray, ⟨bn.toArray⟩ = T := ⟨_, rfl⟩
  rw [hT]
  have HT := hide hT
  clear hT
  have HB3 : Hid (Bx2c (w2.alloc (.cells #[.int .i64 bk, .string T] 23)) w.heap.size _ _) := ((unhide HB1).keep f2).keep (bA (Below.refl _ _) _)
  have F2 := (unhide F1).trans (f2.mono (unhide F1).size)
  have F3 : Hid (Below w.heap.size w (w2.alloc (.cells #[.int .i64 bk, .string T] 23))) := bA F2 _
  have HY : Hid (Bx2c (w2.alloc (.cells #[.int .i64 bk, .string T] 23)) w2.heap.size _ _) := Bx2c.made _ _ _
  have O2 : Orw tyc 23 2 w2 w0.heap.size v L := (unhide HO1).below (fun j hj => f2.block j ((unhide HO1).lt j hj).2)
  have HO3 : Hid (Orw tyc 23 2 (w2.alloc (.cells #[.int .i64 bk, .string T] 23)) w0.heap.size v L) := O2.below (fun j hj => ((Below.refl _ _).alloc (Nat.le_refl _) _).block j (O2.lt j hj).2)
  have H12 : Hid (w1.heap.size ≤ w2.heap.size) := f2.size
  clear O2 F2 f2
  rcases hae with rfl | rfl
  · obtain ⟨va, vc, hv, hv1, hv2, hv3⟩ := (unhide HO3).form
    have HW := hide (yWide_any _ va L.length vc L (by have := unhide HO3; rw [hv] at this; exact this.ls rkT) (by omega))
    rw [hv]
    have HV := hide hv
    rw [hv] at HO3
    clear hv HV hv1 hv2 hv3
    go_wp2_with fail
    refine (unhide HW).mono ?_
    rintro e w4 ⟨rfl, f4⟩
    have HB4 := hide ((unhide HB3).keep f4)
    have F4 := hide ((unhide F3).trans (f4.mono (unhide F3).size))
    have HY4 := hide ((unhide HY).keep f4)
    have HO4 : Hid (Orw tyc 23 2 w4 w0.heap.size (.slice va L.length vc) L) := (unhide HO3).below (fun j hj => f4.block j ((unhide HO3).lt j hj).2)
    obtain ⟨k0, k1, k2⟩ := (unhide HB4).cells
    obtain ⟨j0, j1, j2⟩ := (unhide HY4).cells
    clear f4 HW
    by_cases h32 : 32 < wideN L
    · have h32' : (32 : Int) < (wideN L : Int) := by omega
      go_wp2
      refine bodyPost_ret (ty_ret3 Try.results11 _ w.heap.size _ _ (ty_set _ _ (unhide HB4).row) _ rfl) rfl ?_
      have hm : MV = ([], ty0, 3) := (unhide HMV).trans (by simp [h32])
      rw [hm]
      exact ⟨_, rfl, Orw.nil _ _ _ _ _, ty_bel _ _ (unhide F4) (Nat.le_refl _)⟩
    · have h32' : ¬ (32 : Int) < (wideN L : Int) := by omega
      have h32'' : (wideN L : Int) ≤ 32 := by omega
      have HBd : Hid (Bx2c w4.drew w.heap.size _ _) := (unhide HB4).keep (Below.refl _ _).drew
      have Fd : Hid (Below w.heap.size w w4.drew) := (unhide F4).drew
      have HOd : Hid (Orw tyc 23 2 w4.drew w0.heap.size (.slice va L.length vc) L) := (unhide HO4).below (fun _ _ => rfl)
      obtain ⟨SS, hSS⟩ : ∃ SS : World → Prop, SS = fun W => Bx2c W w2.heap.size (.int .i64 bk) (.string T) := ⟨_, rfl⟩
      have KS : Hid (∀ W, SS W ↔ Bx2c W w2.heap.size (.int .i64 bk) (.string T)) := fun W => by rw [hSS]
      have hne2 : ¬ w2.heap.size = w.heap.size := fun e => by
        have h1 := (unhide F1).size
        have h2 := lt_of_heap (unhide HB1).row
        have h3 := lt_of_heap (unhide HY4).row
        have h4 := unhide HSZ
        have h5 := unhide H12
        omega
      have HN2 := hide hne2
      clear hSS hne2
      go_wp2
      refine wp_region_txt SS [3] [0, 1, 2, 3, 4] (by kernel_rfl) (by kernel_rfl) ((unhide KS _).2 ((unhide HY4).keep (Below.refl _ _).drew)) ?_
      repeat (first
        | (refine Txt.reads (v := ?_) (by rfl) (by rfl) (by rfl) ?_ ?_; rotate_left; (focus ((intro W hSW; obtain ⟨p0, p1, p2⟩ := ((unhide KS W).1 hSW).cells; go_simp) <;> with_reducible rfl)); simp only [Act.put, List.setIfInBounds_toArray, List.set_cons_zero, List.set_cons_succ]))
      refine Txt.acts (by rfl) (by rfl) (by rfl) (fun K hK => ?_)
      obtain ⟨d0, d1, d2⟩ := (unhide HBd).cells
      go_simp
      refine hK.out _ _ ((unhide KS _).2 ⟨?_⟩) ?_
      · have hr := ((unhide HY4).keep (Below.refl _ _).drew).row
        exact (Below.heap_setCell _ _ _ _ (unhide HN2)).trans ((Below.heap_setCell _ _ _ _ (unhide HN2)).trans hr)
      clear hK K
      repeat (first
        | (refine Txt.reads (v := ?_) (by rfl) (by rfl) (by rfl) ?_ ?_; rotate_left; (focus ((intro W hSW; obtain ⟨p0, p1, p2⟩ := ((unhide KS W).1 hSW).cells; go_simp) <;> with_reducible rfl)); simp only [Act.put, List.setIfInBounds_toArray, List.set_cons_zero, List.set_cons_succ]))
      refine Txt.done ?_
      go_wp2
      refine bodyPost_ret (ty_ret3 Try.results11 _ w.heap.size _ _ (ty_set _ _ (unhide HBd).row) _ rfl) rfl ?_
      have hm : MV = (L, ⟨bk, bn⟩, 0) := (unhide HMV).trans (by simp [h32])
      rw [hm]
      refine ⟨.slice va L.length vc, by rw [show (⟨(⟨bk, bn⟩ : Ty).name.toArray⟩ : ByteArray) = T from unhide HT]; rfl, ?_, ty_bel _ _ (unhide Fd) (Nat.le_refl _)⟩
      refine ((unhide HOd).below (fun j hj => ?_)).base (unhide F0).size
      have hne : ¬ j = w.heap.size := fun e => by have := ((unhide HOd).lt j hj).1; have := unhide HSZ; omega
      exact (Below.heap_setCell _ _ _ _ hne).trans (Below.heap_setCell _ _ _ _ hne)
  · obtain ⟨k0, k1, k2⟩ := (unhide HB3).cells
    go_wp2
    refine bodyPost_ret (ty_ret3 Try.results11 _ w.heap.size _ _ (ty_set _ _ (unhide HB3).row) _ rfl) rfl ?_
    have hm : MV = ([], ty0, 100) := (unhide HMV).trans (by simp)
    rw [hm]
    exact ⟨_, rfl, Orw.nil _ _ _ _ _, ty_bel _ _ (unhide F3) (Nat.le_refl _)⟩
end Go.Proofs.Ytjhiflhmefhogaa
