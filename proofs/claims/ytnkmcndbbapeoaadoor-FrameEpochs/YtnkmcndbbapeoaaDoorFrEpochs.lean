/- The walk of FrameEpochs. -/
import Derived.Test.YtnkmcndbbapeoaaDoorFrBack
namespace Go.Proofs.YtnkmcndbbapeoaaDoor
open Go.RowKit
set_option linter.unusedVariables false

theorem last_get {rs : List Rec} {r : Rec} (h : rs[rs.length - 1]? = some r) : lastE 0 rs = r.epoch := by
  unfold lastE
  rw [List.getLast?_eq_getElem?, h]
  rfl
theorem rising_last {rs : List Rec} {r : Rec} (h : rising 0 rs) (hr : rs[rs.length - 1]? = some r) : r.epoch ≤ 4294967295 := (rising_get h hr).2.1
/-- An elder record behind. -/
theorem scan_elder {rs : List Rec} {r : Rec} (h : rising 0 rs) (hr : recOk r) (hl : r.epoch < lastE 0 rs) : allErr (rs ++ [r]) = 0 ∧ allB (rs ++ [r]) = allL rs ++ recL r ∧ scanL (allL rs ++ recL r) 0 = (rs, (allL rs).length) := by
  have e1 : allErr (rs ++ [r]) = 0 := by
    rw [allErr_append _ _ (rising_ok rs 0 h)]
    show (if writeE r = 0 then allErr [] else writeE r) = 0
    rw [if_pos (writeE_ok.2 hr)]
    rfl
  refine ⟨e1, ?_, ?_⟩
  · unfold allB
    rw [if_pos e1]
    simp [allL]
  · have hs := scan_all rs 0 (recL r) h
    have hf := first_rec r hr []
    rw [List.append_nil] at hf
    have hn : scanL (recL r) ((rs.getLast?.map Rec.epoch).getD 0) = ([], 0) := scan_no (by
      rintro ⟨_, h2⟩
      rw [hf.2] at h2
      have : lastE 0 rs ≤ r.epoch := h2
      omega)
    rw [hs, hn]
    simp

/-- In a region that draws: records appended to none. -/
theorem step_recs1 {W : World} {ops : Array Oper} {o : Oper} {a : Act} {K : Act → World → Prop} {Q : Exit → Act → World → Prop} {E : Prop} (hgd : o.guard = none) (s x : Operand)
    (ho : o.op = .call { callee := .builtin .append, args := #[s, x], argTypes := #[22, 22] }) (w0 : World) (B : Nat) (b : Nat) (off n c : Nat) (rs : List Rec)
    (hs : a.eval s = .slice (some ⟨B, 0, none⟩) 0 0) (hx : a.eval x = .slice (some ⟨b, off, none⟩) n c) (hB : W.heap[B]? = some (.cells #[] 24)) (hb : w0.heap.size ≤ B) (f : Below w0.heap.size w0 W) (hA : Rs w0 (some ⟨b, off, none⟩) n rs) (h0 : 0 < n) (hmax : n ≤ 1000)
    (h : ∀ g cap w', w'.ownsRow w0.heap.size 24 2 (.slice (some ⟨g, 0, none⟩) n cap) n (rv rs) → (∀ k, k < W.heap.size → k ≠ B → w'.heap[k]? = W.heap[k]?) → Below w0.heap.size w0 w' → K (a.put o.dst (.slice (some ⟨g, 0, none⟩) n cap)) w') :
    if Region.wanted o (yielded ops a.tmps) = true then Oper.wp Tryd.prog o a W K Q else E := by
  obtain ⟨i0, hi, hz0, hz1, hz2⟩ := info_parts infoR
  have hA' := hA.below f
  obtain ⟨b', o', e, hb'⟩ := hA'.2.resolve_left (by omega)
  have hown : W.ownsRow w0.heap.size 24 2 (.slice (some ⟨B, 0, none⟩) 0 0) 0 [] := ⟨rfl, .inr ⟨B, 0, #[], rfl, hb, hB, Nat.le_refl _, Nat.zero_le _, rfl, rfl⟩⟩
  refine step_append_lies _ hgd s x 22 ho w0.heap.size 24 i0 (.agg #[.int .i64 0, .string ⟨#[]⟩]) 2 24 Tryd.underlying22 hi hz0 hz1 hz2 rfl (by decide) _ _ _ hs hown ⟨b, off, none⟩ n c (rv rs) hx (by rw [rv_len, hA.1]) (fun j u hu => hb' _ (by rw [← e]) j u hu) (rv_one _) h0 (by unfold maxLen; omega) (by omega) f.size _ rfl ?_
  intro g cap w' ho' hg' _ _
  rw [Nat.zero_add] at ho' ⊢
  rw [List.nil_append] at ho'
  exact h g cap w' ho' (fun k hk hne => hg'.block k hk (by simp [Value.ownBlock]; exact hne)) (f.grown hg' f.size (fun k hk => by simp [Value.ownBlock] at hk; omega))
/-- .. and one record behind them. -/
theorem step_recs2 {W : World} {ops : Array Oper} {o : Oper} {a : Act} {K : Act → World → Prop} {Q : Exit → Act → World → Prop} {E : Prop} (hgd : o.guard = none) (s x : Operand)
    (ho : o.op = .call { callee := .builtin .append, args := #[s, x], argTypes := #[22, 22] }) (w0 : World) (g n c B : Nat) (rs : List Rec) (r : Rec)
    (hs : a.eval s = .slice (some ⟨g, 0, none⟩) n c) (hx : a.eval x = .slice (some ⟨B, 0, none⟩) 1 1) (hown : W.ownsRow w0.heap.size 24 2 (.slice (some ⟨g, 0, none⟩) n c) n (rv rs)) (hB : W.heap[B]? = some (.cells #[.int .i64 r.epoch, .string ⟨r.data.toArray⟩] 24)) (f : Below w0.heap.size w0 W) (hmax : n ≤ 1000)
    (h : ∀ g cap w', w'.ownsRow w0.heap.size 24 2 (.slice (some ⟨g, 0, none⟩) (n + 1) cap) (n + 1) (rv (rs ++ [r])) → Below w0.heap.size w0 w' → K (a.put o.dst (.slice (some ⟨g, 0, none⟩) (n + 1) cap)) w') :
    if Region.wanted o (yielded ops a.tmps) = true then Oper.wp Tryd.prog o a W K Q else E := by
  obtain ⟨i0, hi, hz0, hz1, hz2⟩ := info_parts infoR
  refine step_append_lies _ hgd s x 22 ho w0.heap.size 24 i0 (.agg #[.int .i64 0, .string ⟨#[]⟩]) 2 24 Tryd.underlying22 hi hz0 hz1 hz2 rfl (by decide) _ _ _ hs hown ⟨B, 0, none⟩ 1 1 (rv [r]) hx (by rw [rv_len]; rfl) (World.news_of_block hB) (rv_one _) (by omega) (by unfold maxLen; omega) (by omega) f.size _ rfl ?_
  intro g' cap w' ho' hg' _ _
  rw [← rv_append] at ho'
  exact h g' cap w' ho' (f.grown hg' f.size (fun k hk => (hown.lt k hk).1))

set_option maxHeartbeats 800000 in
set_option maxRecDepth 100000 in
theorem epochs_walk {T : World → Prop} (F : Frames T) (w : World) (a : Option Addr) (n cap : Nat) (rs : List Rec) (r : Rec) (hT : T w) (hA : RArg w a n cap rs) (hr : recFit r) :
    Calls Tryd.prog 7 #[.slice a n cap, recV r] w fun e w' => e = .returned (.bool true) ∧ Below w.heap.size w w' := by
  have HT := hide hT
  have HA := hide hA
  have HFIT := hide hr
  have f0 : Below w.heap.size w (w.alloc (.cells #[.int .i64 r.epoch, .string ⟨r.data.toArray⟩] 24)) := (Below.refl _ _).alloc (Nat.le_refl _) _
  have hx0 := heap_alloc_last w (.cells #[.int .i64 r.epoch, .string ⟨r.data.toArray⟩] 24)
  have H0 := hide (gWorks3 F hT f0)
  have HX0 := hide hx0
  have hmost := hA.most
  have hln := hA.ok.1
  have hd : ((⟨r.data.toArray⟩ : ByteArray)).size = r.data.length := by simp [ByteArray.size]
  unfold recV
  clear hT hr f0 hx0 hA
  go_enter Tryd.func7, Tryd.ntmps7
  go_wp2_with fail
  refine (unhide H0).mono ?_
  rintro e w1 ⟨rfl, f1, b1⟩
  have x1 : w1.heap[w.heap.size]? = some (.cells #[.int .i64 r.epoch, .string ⟨r.data.toArray⟩] 24) := (b1.block _ (lt_of_heap (unhide HX0))).trans (unhide HX0)
  have x0 : w1.cell? ⟨w.heap.size, 0, none⟩ = some (.int .i64 r.epoch) := by rw [cell_of_row _ _ _ _ _ _ x1]; rfl
  have x0' : w1.cell? ⟨w.heap.size, 1, none⟩ = some (.string ⟨r.data.toArray⟩) := by rw [cell_of_row _ _ _ _ _ _ x1]; rfl
  have HX1 := hide x1
  have F1 := hide f1
  have H1 : Hid (∀ j, Calls Tryd.prog 22 #[.slice a n cap] (w1.drewN j) fun e w' => e = .returned (.bool (smallB rs)) ∧ w' = w1.drewN j) := fun j => small_any _ a n cap rs ((unhide HA).below (below_drewN (unhide F1) j))
  have HQ : Hid (smallB rs = true → rising 0 rs ∧ (allL rs).length ≤ 8000) := fun h => of_decide_eq_true h
  have HSC : Hid (rising 0 rs → recOk r → r.epoch < lastE 0 rs → allErr (rs ++ [r]) = 0 ∧ allB (rs ++ [r]) = allL rs ++ recL r ∧ scanL (allL rs ++ recL r) 0 = (rs, (allL rs).length)) := fun a b c => scan_elder a b c
  have HOK : Hid (0 ≤ r.epoch → r.epoch ≤ 4294967295 → r.data.length ≤ 4096 → recOk r) := fun a b c => ⟨a, b, c⟩
  have H9 : Hid (∀ W, Below w.heap.size w W → Calls Tryd.prog 13 #[.agg #[.int .i64 r.epoch, .string ⟨r.data.toArray⟩]] W fun e w' => e = .returned (.int .i64 ((writeL r).length : Int)) ∧ Below w.heap.size w w' ∧ Below W.heap.size W w') := fun W f => gSize F (unhide HT) f (unhide HFIT)
  have hrv := rv_single r
  generalize hep : r.epoch = ep at *
  generalize hst : (⟨r.data.toArray⟩ : ByteArray) = st at *
  generalize hdl : r.data.length = dl at *
  generalize smallB rs = q at *
  clear f1 b1 x1 H0 HX0
  cases q with
  | false =>
    go_wp2_with fail
    go_quiet (first | (go_at_call 22; refine Calls.quiet_of_same (unhide H1 _)))
    go_wp2
    go_ret
    exact ⟨rfl, below_drewN (unhide F1) _⟩
  | true =>
    obtain ⟨hup, hsz⟩ := unhide HQ rfl
    by_cases hn0 : n = 0
    · subst hn0
      go_wp2_with fail
      go_quiet (first | (go_at_call 22; refine Calls.quiet_of_same (unhide H1 _)))
      go_wp2
      go_ret
      exact ⟨rfl, below_drewN (unhide F1) _⟩
    · obtain ⟨N, hN⟩ : ∃ N, n = N + 1 := ⟨n - 1, by omega⟩
      have hN1 : (n : Int) - 1 = (N : Int) := by omega
      have hN2 : (N : Int) < (n : Int) := by omega
      have hN3 : IntKind.i64.wrap (N : Int) = (N : Int) := by rw [IntKind.wrap_i64]; omega
      have hN4 : ((n : Int) == 0) = false := by rw [beq_eq_false_iff_ne]; omega
      have hN5 : 0 < n := by omega
      obtain ⟨b, o, rl, rfl, hrl, _, q0, _⟩ := ((unhide HA).below (unhide F1)).get (k := N) (by omega)
      have hle : rl.epoch ≤ 4294967295 := rising_last hup (by rw [hln, hN, show N + 1 - 1 = N by omega]; exact hrl)
      have hlast : lastE 0 rs = rl.epoch := last_get (by rw [hln, hN, show N + 1 - 1 = N by omega]; exact hrl)
      rw [hlast] at HSC
      generalize rl.epoch = le at *
      have HUP := hide hup
      have h12 := allL_len12 rs
      clear hrl hup hlast hN
      by_cases h1 : ep < 0
      · have g1 : decide (ep < 0) = true := by simpa using h1
        clear HUP HSC HOK HQ H9 hrv hle
        go_wp2_with fail
        go_quiet (first | (go_at_call 22; refine Calls.quiet_of_same (unhide H1 _)))
        go_wp2
        go_ret
        exact ⟨rfl, below_drewN (unhide F1) _⟩
      · have g1 : decide (ep < 0) = false := by simpa using h1
        by_cases h2 : le ≤ ep
        · have g2 : decide (le ≤ ep) = true := by simpa using h2
          go_wp2_with fail
          go_quiet (first | (go_at_call 22; refine Calls.quiet_of_same (unhide H1 _)))
          go_wp2
          go_ret
          exact ⟨rfl, below_drewN (unhide F1) _⟩
        · have g2 : decide (le ≤ ep) = false := by simpa using h2
          by_cases h3 : 4096 < dl
          · have g3 : decide ((4096 : Int) < (dl : Int)) = true := by simp; omega
            go_wp2_with fail
            go_quiet (first | (go_at_call 22; refine Calls.quiet_of_same (unhide H1 _)))
            go_wp2
            go_ret
            exact ⟨rfl, below_drewN (unhide F1) _⟩
          · have g3 : decide ((4096 : Int) < (dl : Int)) = false := by simp; omega
            have hok := unhide HOK (by omega) (by omega) (by omega)
            obtain ⟨s1, s2, s3⟩ := unhide HSC (unhide HUP) hok (by omega)
            have hrl := rec_len r
            have hwl := writeL_ok (writeE_ok.2 hok)
            rw [hwl] at H9
            clear HSC HOK HQ
            go_wp2_with fail
            go_quiet (first | (go_at_call 22; refine Calls.quiet_of_same (unhide H1 _)))
            have F2 := hide (below_drewN (unhide F1) nq)
            have HX2 : Hid ((w1.drewN nq).heap[w.heap.size]? = some (.cells #[.int .i64 ep, .string st] 24)) := unhide HX1
            have y0 : (w1.drewN nq).cell? ⟨w.heap.size, 0, none⟩ = some (.int .i64 ep) := x0
            have y1 : (w1.drewN nq).cell? ⟨w.heap.size, 1, none⟩ = some (.string st) := x0'
            clear q0 x0 x0' H1 HX1 F1
            generalize w1.drewN nq = w2 at *
            have KY : Hid (∀ W, Below w2.heap.size w2 W → W.cell? ⟨w.heap.size, 0, none⟩ = some (.int .i64 ep) ∧ W.cell? ⟨w.heap.size, 1, none⟩ = some (.string st)) := fun W f => by
              have hW := (f.block _ (lt_of_heap (unhide HX2))).trans (unhide HX2)
              exact ⟨by rw [cell_of_row _ _ _ _ _ _ hW]; rfl, by rw [cell_of_row _ _ _ _ _ _ hW]; rfl⟩
            go_upto_region 5 with fail
            have hR2 := ((unhide HA).below (unhide F2)).ok
            have hn1000 : n ≤ 1000 := by omega
            obtain ⟨L, hL⟩ : ∃ L, (allL rs).length + (recL r).length = L := ⟨_, rfl⟩
            have HALL : Hid (∀ W g c, Below w2.heap.size w2 W → Rs W (some ⟨g, 0, none⟩) (n + 1) (rs ++ [r]) → Calls Tryd.prog 8 #[.slice (some ⟨g, 0, none⟩) (n + 1) c] W fun e w' => ∃ a1 c1, e = .returned (.tuple #[.slice a1 L c1, .int .i64 0]) ∧ Arg w' a1 L c1 (allL rs ++ recL r) ∧ Below w.heap.size w w' ∧ Below w2.heap.size w2 w') := fun W g c f h => by
              have f' := (unhide F2).trans (f.mono (unhide F2).size)
              have H := gAll F (unhide HT) f' h (fun x hx => by
                rcases List.mem_append.1 hx with h1 | h1
                · exact (unhide HA).fit x h1
                · rw [List.mem_singleton.1 h1]; exact unhide HFIT) (cap := c) (by omega)
              rw [s1, s2, List.length_append, hL] at H
              refine H.mono ?_
              rintro e w' ⟨a1, c1, rfl, A1, f1, b1⟩
              exact ⟨a1, c1, rfl, A1, f1, f.trans (b1.mono f.size)⟩
            go_region_held_law (fun W => W.cell? ⟨w.heap.size, 0, none⟩ = some (.int .i64 ep) ∧ W.cell? ⟨w.heap.size, 1, none⟩ = some (.string st)) (go_keep)
              (first
                | (have ox := o4; clear ox; refine step_recs2 rfl _ _ rfl w2 _ n _ _ rs r rfl rfl (by first | exact o4 | exact own2_below o4 ((Below.refl _ _).alloc (Nat.le_refl _) _)) (by rw [hep, hst]; first | exact heap_alloc_last _ _ | exact (k4 _ (by first | (simp; done) | (simp; omega)) (by first | (simp; done) | (simp; omega))).trans (heap_alloc_last _ _) | (refine (k4 _ (by first | (simp; done) | (simp; omega)) (by first | (simp; done) | (simp; omega))).trans ?_; have t := heap_alloc_last (w2.drew.alloc (Obj.cells #[] 24)) (Obj.cells #[.int .i64 ep, .string st] 24); rw [World.size_alloc] at t; exact t) | exact (k4 _ (by first | (simp; done) | (simp; omega)) (by first | (simp; done) | (simp; omega))).trans ((Below.heap_alloc _ _ _ (by first | (simp; done) | (simp; omega))).trans (heap_alloc_last _ _))) (by first | exact f4 | exact f4.alloc f4.size _) hn1000 ?_; intro g5 c5 w5 o5 f5; have r50 := (unhide KY w5 f5).1; have r51 := (unhide KY w5 f5).2)
                | (have ox := o5; clear ox; go_at_call 8; refine (unhide HALL _ _ _ f5 (rs_of_own o5)).mono ?_; rintro e w6 ⟨a6, c6, rfl, A6, f6, b6⟩; have r60 := (unhide KY w6 b6).1; have r61 := (unhide KY w6 b6).2)
                | (refine step_recs1 rfl _ _ rfl w2 _ b o n cap rs rfl rfl (by first | exact heap_alloc_last _ _ | exact (Below.heap_alloc _ _ _ (by first | (simp; done) | (simp; omega))).trans (heap_alloc_last _ _) | (have t := heap_alloc_last (w2.drew.alloc (Obj.cells #[.int .i64 ep, .string st] 24)) (Obj.cells #[] 24); rw [World.size_alloc] at t; exact t)) (by first | (simp; done) | (simp; omega)) (by repeat (first | exact Below.refl _ _ | refine Below.drew ?_ | refine Below.alloc ?_ (by first | (simp; done) | (simp; omega)) _)) hR2 (by omega) hn1000 ?_; intro g4 c4 w4 o4 k4 f4; have r40 := (unhide KY w4 f4).1; have r41 := (unhide KY w4 f4).2))
            all_goals
              have X6 := hide ((b6.block _ (lt_of_heap (unhide HX2))).trans (unhide HX2))
              have H7 := gScan F (unhide HT) f6 A6 (by omega)
              rw [s3] at H7
              have H7 := hide H7
              clear A6 f6 b6 r60 r61 r50 r51 o5 f5 r40 r41 o4 k4 f4 HALL KY
              go_wp2_with fail
              refine (unhide H7).mono ?_
              rintro e w7 ⟨a7, c7, rfl, R7, hl7, f7, b7⟩
              have X7 := hide ((b7.block _ (lt_of_heap (unhide X6))).trans (unhide X6))
              have H8 := SameRecords_same w7 a7 (some ⟨b, o, none⟩) rs.length c7 cap rs R7 (by rw [hln]; exact ((unhide HA).below f7).ok) (by omega)
              rw [hln] at H8
              have H8 := hide H8
              have F7 := hide f7
              clear R7 hl7 f7 b7 H7 X6
              rw [hln]
              go_wp2_with fail
              refine (unhide H8).mono ?_
              rintro e w8 ⟨rfl, f8⟩
              have x8 := (f8.block _ (lt_of_heap (unhide X7))).trans (unhide X7)
              have z0 : w8.cell? ⟨w.heap.size, 0, none⟩ = some (.int .i64 ep) := by rw [cell_of_row _ _ _ _ _ _ x8]; rfl
              have z1 : w8.cell? ⟨w.heap.size, 1, none⟩ = some (.string st) := by rw [cell_of_row _ _ _ _ _ _ x8]; rfl
              have H10 := hide (unhide H9 w8 ((unhide F7).trans (f8.mono (unhide F7).size)))
              have hfin : (L : Int) - ((recL r).length : Int) = ((allL rs).length : Int) := by omega
              clear f8 x8 H8 F7 X7
              generalize (recL r).length = rl9 at *
              generalize (allL rs).length = al9 at *
              go_wp2_with fail
              refine (unhide H10).mono ?_
              rintro e w9 ⟨rfl, f9, _⟩
              have F9 := hide f9
              clear f9 H10 z0 z1
              go_wp2
              go_ret
              exact ⟨ret_bool (beq_iff_eq.2 (by omega)), unhide F9⟩

end Go.Proofs.YtnkmcndbbapeoaaDoor
