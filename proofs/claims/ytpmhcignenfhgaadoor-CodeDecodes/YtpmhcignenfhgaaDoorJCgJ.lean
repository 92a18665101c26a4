/- The chapter's examples work. -/
import Derived.Test.YtpmhcignenfhgaaDoorJCgJp
import Derived.Test.YtpmhcignenfhgaaDoorJCgI
import Derived.Test.YtpmhcignenfhgaaDoorJCgH

namespace Go.Proofs.YtpmhcignenfhgaaDoor
open Go.RowKit
set_option linter.unusedVariables false
set_option maxRecDepth 100000

theorem bs_lit (w : World) (X : Array Value) (bs : List UInt8) (hX : X.toList = bs.map fun b => .int .u8 (b.toNat : Int)) (n : Nat) (hn : n = bs.length) (hs : n ≤ 1000000) : Arg (w.alloc (.cells X 5)) (some ⟨w.heap.size, 0, none⟩) n n bs := by
  have hrow := heap_alloc_last w (.cells X 5)
  refine arg_of_own hn.symm ⟨by simp [hn, bv], .inr ⟨w.heap.size, n, X, rfl, Nat.le_refl _, hrow, Nat.le_refl _, by unfold maxLen; omega, ?_, ?_⟩⟩
  · have := congrArg List.length hX
    simp at this
    omega
  · rw [List.take_of_length_le (by have := congrArg List.length hX; simp at this ⊢; omega), hX]
    rfl
theorem rows1 {rs : List InR} {x : Ins} (h : rs.map InR.x = [x]) : ∃ r, rs = [r] ∧ r.x = x := by
  obtain ⟨r, hr, h1⟩ := List.map_eq_singleton_iff.1 h
  exact ⟨r, hr, h1⟩
/-- Two instructions of a law's own, without cases. -/
theorem ex_lit (w : World) : Ls 5 inc (w.alloc (.cells #[.int .i64 0, .int .i64 4, .int .i64 0, .int .i64 0, .slice none 0 0, .int .i64 1, .int .i64 172, .int .i64 0, .int .i64 0, .slice none 0 0] 38)) (some ⟨w.heap.size, 0, none⟩) 2 [⟨⟨0, 4, 0, 0, []⟩, ⟨none, 0, 0⟩⟩, ⟨⟨1, 172, 0, 0, []⟩, ⟨none, 0, 0⟩⟩] := by
  have hrow := heap_alloc_last w (.cells #[.int .i64 0, .int .i64 4, .int .i64 0, .int .i64 0, .slice none 0 0, .int .i64 1, .int .i64 172, .int .i64 0, .int .i64 0, .slice none 0 0] 38)
  have ho : Orw inc 38 5 (w.alloc (.cells #[.int .i64 0, .int .i64 4, .int .i64 0, .int .i64 0, .slice none 0 0, .int .i64 1, .int .i64 172, .int .i64 0, .int .i64 0, .slice none 0 0] 38)) w.heap.size (.slice (some ⟨w.heap.size, 0, none⟩) 2 2) [⟨⟨0, 4, 0, 0, []⟩, ⟨none, 0, 0⟩⟩, ⟨⟨1, 172, 0, 0, []⟩, ⟨none, 0, 0⟩⟩] := ⟨rfl, .inr ⟨_, 2, _, rfl, Nat.le_refl _, hrow, by simp, by unfold maxLen; omega, rfl, rfl⟩⟩
  exact ho.ls rkN9
theorem InsOk.arg {w : World} {base : Nat} {r : InR} (h : InsOk w base r) : InArg w r := by
  obtain ⟨f1, f2, f3, f4, f5, f6⟩ := h.fit
  refine ⟨h.ls.1, fun c hc => ?_, ?_, ?_, ?_⟩
  · obtain ⟨g1, g2⟩ := f5 c hc
    unfold Rg
    omega
  all_goals unfold Rg; omega
theorem InsOk.few {w : World} {base : Nat} {rs : List InR} (h : ∀ r ∈ rs, InsOk w base r) : sizesR rs ≤ rs.length * 2064 := by
  induction rs with
  | nil => exact Nat.zero_le _
  | cons r rs ih =>
    have h1 := ih fun r' hr' => h r' (List.mem_cons_of_mem _ hr')
    have h2 := h r (List.mem_cons_self ..)
    have h3 := h2.ls.1.1
    have h4 := h2.fit.2.2.2.2.2
    unfold sizesR at *
    simp only [List.map_cons, List.sum_cons, List.length_cons]
    omega
set_option maxHeartbeats 4000000 in
theorem works9_any (w : World) (hT : Tab9 w) (hS : Tab9s w) :
    Calls Tryd.prog 14 #[] w fun e w' => e = .returned (.bool true) ∧ Below w.heap.size w w' := by
  have f0 : Below w.heap.size w (w.alloc (.cells #[.int .u8 4, .int .u8 172] 5)) := bA (Below.refl _ _) _
  have HD1 := hide (hDecode_any _ _ 2 2 [4, 172] (bs_lit w #[.int .u8 4, .int .u8 172] [4, 172] rfl 2 rfl (by omega)) (hT.below f0))
  have HT := hide (And.intro hT hS)
  have F0 := hide f0
  clear f0 hT hS
  go_enter Tryd.func14, Tryd.ntmps14
  go_wp2_with fail
  refine (unhide HD1).mono ?_
  rintro e w1 ⟨⟨sa, sn, sc⟩, rs, er, rfl, o1, e1, b1, hc1⟩
  have hr1 : er = 0 ∧ rs.map InR.x = ex1 := by
    rcases hc1 with ⟨h, _, h1⟩ | ⟨_, _, h⟩ | ⟨_, _, _, h⟩
    · rw [code_ex1] at h1
      injection h1 with h1
      exact ⟨h, h1.symm⟩
    · simp at h
    · rw [code_ex1] at h; cases h
  obtain ⟨rfl, hx1⟩ := hr1
  have F1 : Below w.heap.size w w1 := (unhide F0).trans (b1.mono (unhide F0).size)
  have f2 : Below w.heap.size w (w1.alloc (.cells #[.int .u8 167, .int .u8 0, .int .u8 0] 5)) := bA F1 _
  have HD2 := hide (hDecode_any _ _ 3 3 [167, 0, 0] (bs_lit w1 #[.int .u8 167, .int .u8 0, .int .u8 0] [167, 0, 0] rfl 3 rfl (by omega)) ((unhide HT).1.below f2))
  have X1 := hide (And.intro o1 (And.intro e1 (And.intro hx1 (And.intro F1 f2))))
  unfold Sl.v at X1 ⊢
  clear o1 e1 b1 hc1 hx1 F1 f2 HD1 F0
  go_wp2_with fail
  refine (unhide HD2).mono ?_
  rintro e w2 ⟨⟨ta, tn, tc⟩, qs, er, rfl, o2, e2, b2, hc2⟩
  have hr2 : er = 0 ∧ qs.map InR.x = ex2 := by
    rcases hc2 with ⟨h, _, h1⟩ | ⟨_, _, h⟩ | ⟨_, _, _, h⟩
    · rw [code_ex2] at h1
      injection h1 with h1
      exact ⟨h, h1.symm⟩
    · simp at h
    · rw [code_ex2] at h; cases h
  obtain ⟨rfl, hx2⟩ := hr2
  obtain ⟨o1, e1, hx1, F1, f2⟩ := unhide X1
  have bb : Below w1.heap.size w1 w2 := (bA (Below.refl _ _) _ : Below w1.heap.size w1 _).trans (b2.mono (by simp))
  have o1' : Orw inc 38 5 w2 _ (.slice sa sn sc) rs := o1.below fun k hk => bb.block k (o1.lt k hk).2
  have e1' : ∀ r ∈ rs, InsOk w2 _ r := fun r hr => (e1 r hr).keep fun k Z hk => bb.block k (lt_of_heap hk)
  have F2 : Below w.heap.size w w2 := f2.trans (b2.mono f2.size)
  have hl1 : rs.length = 2 := by have := congrArg List.length hx1; simpa [ex1] using this
  have HE := hide (hEncode_any w2 sa sn sc rs (o1'.ls rkN9) (fun r hr => (e1' r hr).arg) (by have := InsOk.few e1'; omega) ((unhide HT).1.below F2))
  have X2 := hide (And.intro o1' (And.intro e1' (And.intro hx1 (And.intro F2 (And.intro o2 (And.intro e2 hx2))))))
  unfold Sl.v at X2 ⊢
  clear o1 e1 hx1 F1 f2 o2 e2 b2 hc2 hx2 bb o1' e1' F2 HD2 X1 hl1
  go_wp2_with fail
  refine (unhide HE).mono ?_
  rintro e w3 ⟨v, bs, er, rfl, o3, f3, hc3⟩
  obtain ⟨o1, e1, hx1, F2, o2, e2, hx2⟩ := unhide X2
  have hr3 : er = 0 ∧ bs = [4, 172] := by
    rw [hx1, all_ex1] at hc3
    rcases hc3 with ⟨h, h1, _⟩ | ⟨_, _, h⟩ | ⟨_, _, h, _⟩
    · exact ⟨h, h1⟩
    · exact absurd code_ex1 h
    · simp at h
  obtain ⟨rfl, rfl⟩ := hr3
  have hsn : sn = 2 := by
    obtain ⟨a', c', e', _⟩ := o1.form
    injection e' with _ e2 _
    have := congrArg List.length hx1
    simp [ex1] at this
    omega
  have htn : tn = 1 := by
    obtain ⟨a', c', e', _⟩ := o2.form
    injection e' with _ e2 _
    have := congrArg List.length hx2
    simp [ex2] at this
    omega
  subst hsn htn
  obtain ⟨q, rfl, hq⟩ := rows1 hx2
  have B3 : Below w2.heap.size w2 w3 := f3
  have F3 : Below w.heap.size w w3 := F2.trans (f3.mono F2.size)
  obtain ⟨g, og, hga, hg⟩ := Ls.row (o2.ls rkN9) (w' := w2) (by omega)
  subst hga
  have hg0 := hg (Below.refl _ _) 0 q rfl
  have HQC : Hid (∀ W, Below w2.heap.size w2 W → W.cell? ⟨g, og + 1, none⟩ = some (.int .i64 167) ∧ W.cell? ⟨g, og + 2, none⟩ = some (.int .i64 0)) := fun W f => by
    have h1 := hg f 0 q rfl 1 _ rfl
    have h2 := hg f 0 q rfl 2 _ rfl
    rw [hq] at h1 h2
    simpa using And.intro h1 h2
  have b4 : Below w2.heap.size w2 (w3.alloc (.cells #[.int .i64 0, .int .i64 4, .int .i64 0, .int .i64 0, .slice none 0 0, .int .i64 1, .int .i64 172, .int .i64 0, .int .i64 0, .slice none 0 0] 38)) := bA B3 _
  have HSI := hide (SameInstrs_same (w3.alloc (.cells #[.int .i64 0, .int .i64 4, .int .i64 0, .int .i64 0, .slice none 0 0, .int .i64 1, .int .i64 172, .int .i64 0, .int .i64 0, .slice none 0 0] 38)) sa (some ⟨w3.heap.size, 0, none⟩) 2 sc 2 rs _ ((o1.ls rkN9).below b4) (ex_lit w3) (by rw [hx1]; rfl) (fun r hr => (e1 r hr).ls.1.below b4) (fun r hr => by simp at hr; rcases hr with rfl | rfl <;> exact ⟨rfl, .inl rfl⟩) (by omega) (fun r hr => by have := (e1 r hr).ls.2; omega))
  obtain ⟨va, vc, hv, hvn, hvl, hvm⟩ : ∃ a c, v = .slice a 2 c ∧ (a = none → (2 : Nat) = 0 ∧ c = 0) ∧ 2 ≤ c ∧ c ≤ 9223372036854775807 := by
    rcases o3.2 with ⟨hv, hn⟩ | ⟨g, cap, cur, hv, _, _, h1, h2, _⟩
    · simp at hn
    · exact ⟨_, cap, hv, (fun e => by cases e), h1, by unfold maxLen at h2; exact h2⟩
  subst hv
  have HO3 := hide o3
  have HF3 := hide (And.intro B3 F3)
  clear o1 e1 hx1 F2 o2 e2 hx2 o3 f3 hc3 hg hg0 B3 F3 b4 HE X2 hvn hvl hvm
  go_wp2_with fail
  refine (unhide HSI).mono ?_
  rintro e w4 ⟨rfl, f4⟩
  obtain ⟨B3, F3⟩ := unhide HF3
  have B4 : Below w3.heap.size w3 w4 := (bA (Below.refl _ _) _ : Below w3.heap.size w3 _).trans (f4.mono (by simp))
  have F4 : Below w.heap.size w w4 := F3.trans (B4.mono F3.size)
  have HPL := hide (hPlain_any w4 0 4 0 0 ⟨none, 0, 0⟩ [] ⟨rfl, .inl rfl⟩ (fun _ => ⟨rfl, rfl⟩) (by simp) ((unhide HT).2.below F4))
  have HX4 := hide (And.intro B3 (And.intro B4 F4))
  clear B3 F3 B4 F4 f4 HSI HF3
  unfold Sl.v at HPL
  simp only at HPL
  go_wp2_with fail
  refine (unhide HPL).mono ?_
  rintro e w5 ⟨⟨xa, xn, xc⟩, rfl, _, f5⟩
  obtain ⟨B3, B4, F4⟩ := unhide HX4
  have hp1 : (plainOA 4 0).1 = 17 := by decide +kernel
  have hp2 : (plainOA 4 0).2 = 1 := by decide +kernel
  rw [hp1, hp2]
  have B5 : Below w3.heap.size w3 w5 := B4.trans (f5.mono B4.size)
  have B5' : Below w2.heap.size w2 w5 := B3.trans (B5.mono B3.size)
  have F5 : Below w.heap.size w w5 := F4.trans (f5.mono F4.size)
  obtain ⟨m1, m2⟩ := unhide HQC w5 B5'
  have b6 : Below w5.heap.size w5 (w5.alloc (.cells #[.int .u8 4, .int .u8 172] 5)) := bA (Below.refl _ _) _
  have o5 := own_below9 (own_below9 (unhide HO3) B5) b6
  have HSB := hide (SameBytes_same (w5.alloc (.cells #[.int .u8 4, .int .u8 172] 5)) va (some ⟨w5.heap.size, 0, none⟩) [4, 172] 2 vc 2 (arg_of_own rfl o5).bs (bs_lit w5 #[.int .u8 4, .int .u8 172] [4, 172] rfl 2 rfl (by omega)).bs)
  have HX5 := hide (And.intro F5 b6)
  clear B3 B4 F4 B5 B5' F5 f5 b6 o5 hp1 hp2 HPL HX4 HO3 HQC
  unfold Sl.v
  have JF : ∀ W, (Instr.field 38 (.agg #[.int .i64 0, .int .i64 17, .int .i64 1, .int .i64 0, .slice xa xn xc]) 2).run Tryd.prog W = .ok (.int .i64 1) W := fun W => by kernel_rfl
  go_wp2_with fail
  refine (unhide HSB).mono ?_
  rintro e w6 ⟨rfl, hw6⟩
  subst hw6
  have HF := hide ((unhide HX5).1.trans ((unhide HX5).2.mono (unhide HX5).1.size))
  clear HSB HX5
  go_wp2
  go_ret
  exact ⟨rfl, unhide HF⟩
end Go.Proofs.YtpmhcignenfhgaaDoor
