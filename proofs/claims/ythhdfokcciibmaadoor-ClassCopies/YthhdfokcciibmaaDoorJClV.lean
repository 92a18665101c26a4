/- The walk of ClassCopies. -/
import Derived.Test.YthhdfokcciibmaaDoorJClU
import Derived.Test.YthhdfokcciibmaaDoorJClL
import Derived.Test.YthhdfokcciibmaaDoorJClW
import Derived.Test.YthhdfokcciibmaaDoorJCkO
import Derived.Deep.RegionHeld3
import Derived.Deep.Cut

namespace Go.Proofs.YthhdfokcciibmaaDoor
open Go.RowKit
set_option linter.unusedVariables false
set_option maxRecDepth 100000

theorem belowA {w0 W : World} (h : Below w0.heap.size w0 W) (o : Obj) : Below w0.heap.size w0 (W.alloc o) := h.alloc h.size o
theorem blk_on {W w1 : World} (f : Below W.heap.size W w1) {k : Nat} {o : Obj} (h : W.heap[k]? = some o) : w1.heap[k]? = some o := (f.block k (lt_of_heap h)).trans h
theorem blk_al {W : World} {k : Nat} {o : Obj} (h : W.heap[k]? = some o) (o' : Obj) : (W.alloc o').heap[k]? = some o := (Below.heap_alloc _ _ _ (lt_of_heap h)).trans h
theorem blk_new2 (w : World) (o o' : Obj) : ((w.alloc o).alloc o').heap[w.heap.size + 1]? = some o' := by
  have := heap_alloc_new (w.alloc o) o'
  simpa using this
theorem belT {w0 W W' : World} (f : Below W.heap.size W W') (h : Below w0.heap.size w0 W) : Below w0.heap.size w0 W' := h.trans (f.mono h.size)
set_option maxHeartbeats 6000000 in
theorem copies_tab (P : PrintOk) (w : World) (hT : Tab8 w) (r : ClR) (hC : CIn w r) :
    Calls Tryd.prog 4 #[r.v] w fun e w' => e = .returned (.bool true) ∧ Below w.heap.size w w' := by
  obtain ⟨cc, p1, f1, m1, mr⟩ := r
  obtain ⟨pl, nm, sp, fl, ml⟩ := cc
  obtain ⟨p1a, p1n, p1c⟩ := p1
  obtain ⟨f1a, f1n, f1c⟩ := f1
  obtain ⟨m1a, m1n, m1c⟩ := m1
  obtain ⟨w0, e0, f0, K0⟩ := one_local w #[.slice p1a p1n p1c, .string ⟨nm.toArray⟩, .string ⟨sp.toArray⟩, .slice f1a f1n f1c, .slice m1a m1n m1c] 26
  have hC0 := hC.below f0
  have HW0 : Hid (Calls Tryd.prog 6 #[] w0 fun e w' => e = .returned (.bool true) ∧ Below w0.heap.size w0 w') := works8_tab P w0 (hT.below f0)
  have HL0 : Hid (∀ W, Below w0.heap.size w0 W → Calls Tryd.prog 7 #[(⟨⟨pl, nm, sp, fl, ml⟩, ⟨p1a, p1n, p1c⟩, ⟨f1a, f1n, f1c⟩, ⟨m1a, m1n, m1c⟩, mr⟩ : ClR).v] W fun e w' => ∃ b, e = .returned (.bool b) ∧ Below w0.heap.size w0 w') := fun W f => (light8_any W _ (hC0.below f)).mono (by
    rintro e w' ⟨rfl, f'⟩
    exact ⟨_, rfl, f.trans (f'.mono f.size)⟩)
  have HCP : Hid (∀ W, Below w0.heap.size w0 W → Calls Tryd.prog 8 #[(⟨⟨pl, nm, sp, fl, ml⟩, ⟨p1a, p1n, p1c⟩, ⟨f1a, f1n, f1c⟩, ⟨m1a, m1n, m1c⟩, mr⟩ : ClR).v] W fun e w' => ∃ r' : ClR, r'.c = ⟨pl, nm, sp, fl, ml⟩ ∧ e = .returned r'.v ∧ ClOwn w' W.heap.size r' ∧ Below W.heap.size W w') := fun W f => cCopy_any W _ (hC0.below f)
  have HSC : Hid (∀ W B (x : ClR), Below w0.heap.size w0 W → x.c = ⟨pl, nm, sp, fl, ml⟩ → ClOwn W B x → Calls Tryd.prog 9 #[x.v, (⟨⟨pl, nm, sp, fl, ml⟩, ⟨p1a, p1n, p1c⟩, ⟨f1a, f1n, f1c⟩, ⟨m1a, m1n, m1c⟩, mr⟩ : ClR).v] W fun e w' => e = .returned (.bool true) ∧ Below w0.heap.size w0 w') := fun W B x f hx ho => (SameClass_same W x _ (ClOwn.cin hC0 hx ho) (hC0.below f) hx).mono (by
    rintro e w' ⟨rfl, f'⟩
    exact ⟨rfl, f.trans (f'.mono f.size)⟩)
  have HEA : Hid (CIn w0 ⟨⟨pl, nm, sp, fl, ml⟩, ⟨p1a, p1n, p1c⟩, ⟨f1a, f1n, f1c⟩, ⟨m1a, m1n, m1c⟩, mr⟩) := hC0
  unfold ClR.v Sl.v at HL0 HCP HSC ⊢
  simp only at HL0 HCP HSC ⊢
  have KC : Hid (∀ W, Below w0.heap.size w0 W → W.cell? ⟨w.heap.size, 0, none⟩ = some (.slice p1a p1n p1c) ∧ W.cell? ⟨w.heap.size, 1, none⟩ = some (.string ⟨nm.toArray⟩) ∧ W.cell? ⟨w.heap.size, 2, none⟩ = some (.string ⟨sp.toArray⟩) ∧ W.cell? ⟨w.heap.size, 3, none⟩ = some (.slice f1a f1n f1c) ∧ W.cell? ⟨w.heap.size, 4, none⟩ = some (.slice m1a m1n m1c)) := fun W f => ⟨K0 W f 0 _ rfl, K0 W f 1 _ rfl, K0 W f 2 _ rfl, K0 W f 3 _ rfl, K0 W f 4 _ rfl⟩
  have F0 := hide f0
  clear hC hC0 hT
  clear K0 f0
  go_enter Tryd.func4, Tryd.ntmps4
  go_wp2_with fail
  refine (unhide HW0).mono ?_
  rintro e w1 ⟨rfl, B1⟩
  obtain ⟨q0, q1, q2, q3, q4⟩ := unhide KC _ B1
  have HB1 := hide B1
  clear B1 e0
  go_wp2_with fail
  refine (unhide HL0 _ (unhide HB1)).mono ?_
  rintro e w2 ⟨b, rfl, B2⟩
  clear q0 q1 q2 q3 q4 HB1
  have HB2 := hide B2
  clear B2
  cases b with
  | false =>
    go_wp2
    go_ret
    exact ⟨rfl, (unhide F0).trans ((unhide HB2).mono (unhide F0).size)⟩
  | true =>
    go_wp2_with fail
    go_cut [3, 4] from 5 (fun v3 v4 wr => ∃ p3 p4 S1 S2 w1 d x, v3 = .pointer (some ⟨p3, 0, none⟩) ∧ v4 = .pointer (some ⟨p4, 0, none⟩) ∧ Cpd w0 ⟨pl, nm, sp, fl, ml⟩ p3 p4 S1 S2 w1 d x wr)
    case first =>
      have B2 := unhide HB2
      have hb2 := B2.size
      have MK0 : True := trivial
      go_region_held3 (fun W => W.cell? ⟨w.heap.size, 0, none⟩ = some (.slice p1a p1n p1c) ∧ W.cell? ⟨w.heap.size, 1, none⟩ = some (.string ⟨nm.toArray⟩) ∧ W.cell? ⟨w.heap.size, 2, none⟩ = some (.string ⟨sp.toArray⟩) ∧ W.cell? ⟨w.heap.size, 3, none⟩ = some (.slice f1a f1n f1c) ∧ W.cell? ⟨w.heap.size, 4, none⟩ = some (.slice m1a m1n m1c))
        (exact unhide KC _ (by repeat (first | with_reducible assumption | with_reducible refine Below.drew ?_ | with_reducible refine belowA ?_ _ | with_reducible refine Below.setCell ?_ (by simp only; omega) _)))
        (first
          | (go_at_call 8; clear MK0; refine Calls.mono (unhide HCP _ (by repeat (first | with_reducible assumption | with_reducible refine Below.drew ?_ | with_reducible refine belowA ?_ _ | with_reducible refine Below.setCell ?_ (by simp only; omega) _))) ?_; rintro e w3 ⟨⟨dc, ⟨dpa, dpn, dpc⟩, ⟨dfa, dfn, dfc⟩, ⟨dma, dmn, dmc⟩, dmr⟩, hdc, rfl, od, fd⟩; simp only at hdc; subst hdc; have B3 : Below w0.heap.size w0 w3 := belT fd (by repeat (first | with_reducible assumption | with_reducible refine Below.drew ?_ | with_reducible refine belowA ?_ _ | with_reducible refine Below.setCell ?_ (by simp only; omega) _)); have hb3 := B3.size; have HD1 := hide (And.intro od fd); have hz3 := fd.size; (try simp at hz3); (try (have ga0 : w3.heap[w2.heap.size]? = some (.cells #[.slice none 0 0, .string ⟨#[]⟩, .string ⟨#[]⟩, .slice none 0 0, .slice none 0 0] 26) := (by first | exact blk_on fd (heap_alloc_new w2 _) | exact blk_on fd (blk_al (heap_alloc_new w2 _) _)))); (try (have ga1 : w3.heap[w2.heap.size + 1]? = some (.cells #[.slice none 0 0, .string ⟨#[]⟩, .string ⟨#[]⟩, .slice none 0 0, .slice none 0 0] 26) := (by exact blk_on fd (blk_new2 w2 _ _)))); clear od fd; (try (have na00 : ¬ w2.heap.size = w3.heap.size := (by omega))); (try (have na00x : ¬ w3.heap.size = w2.heap.size := (by omega))); (try (have na01 : ¬ w2.heap.size = w3.heap.size + 1 := (by omega))); (try (have na01x : ¬ w3.heap.size + 1 = w2.heap.size := (by omega))); (try (have na10 : ¬ w2.heap.size + 1 = w3.heap.size := (by omega))); (try (have na10x : ¬ w3.heap.size = w2.heap.size + 1 := (by omega))); (try (have na11 : ¬ w2.heap.size + 1 = w3.heap.size + 1 := (by omega))); (try (have na11x : ¬ w3.heap.size + 1 = w2.heap.size + 1 := (by omega))); skip)
          | (go_at_call 8; refine Calls.mono (unhide HCP _ (by repeat (first | with_reducible assumption | with_reducible refine Below.drew ?_ | with_reducible refine belowA ?_ _ | with_reducible refine Below.setCell ?_ (by simp only; omega) _))) ?_; rintro e w4 ⟨⟨xc, ⟨xpa, xpn, xpc⟩, ⟨xfa, xfn, xfc⟩, ⟨xma, xmn, xmc⟩, xmr⟩, hxc, rfl, ox, fx⟩; simp only at hxc; subst hxc; have B4 : Below w0.heap.size w0 w4 := belT fx (by repeat (first | with_reducible assumption | with_reducible refine Below.drew ?_ | with_reducible refine belowA ?_ _ | with_reducible refine Below.setCell ?_ (by simp only; omega) _)); have hb4 := B4.size; have HX1 := hide (And.intro ox fx); have hz4 := fx.size; (try simp at hz4); (try (have gc0 : w4.heap[w2.heap.size]? = some (.cells #[.slice none 0 0, .string ⟨#[]⟩, .string ⟨#[]⟩, .slice none 0 0, .slice none 0 0] 26) := (by first | exact blk_on fx ga0 | exact blk_on fx (blk_al ga0 _) | exact blk_on fx (blk_al (blk_al ga0 _) _)))); (try (have gc1 : w4.heap[w2.heap.size + 1]? = some (.cells #[.slice none 0 0, .string ⟨#[]⟩, .string ⟨#[]⟩, .slice none 0 0, .slice none 0 0] 26) := (by first | exact blk_on fx ga1 | exact blk_on fx (blk_al ga1 _) | exact blk_on fx (blk_al (blk_al ga1 _) _)))); (try (have gc2 : w4.heap[w3.heap.size]? = some (.cells #[.slice none 0 0, .string ⟨#[]⟩, .string ⟨#[]⟩, .slice none 0 0, .slice none 0 0] 26) := (by first | exact blk_on fx (heap_alloc_new w3 _) | exact blk_on fx (blk_al (heap_alloc_new w3 _) _)))); (try (have gc3 : w4.heap[w3.heap.size + 1]? = some (.cells #[.slice none 0 0, .string ⟨#[]⟩, .string ⟨#[]⟩, .slice none 0 0, .slice none 0 0] 26) := (by exact blk_on fx (blk_new2 w3 _ _)))); (try (have c0f := bx_thaw gc0)); (try (have c00 : w4.cell? ⟨w2.heap.size, 0, none⟩ = some (.slice none 0 0) := bx_cell gc0 0 _ rfl)); (try (have c01 : w4.cell? ⟨w2.heap.size, 1, none⟩ = some (.string ⟨#[]⟩) := bx_cell gc0 1 _ rfl)); (try (have c02 : w4.cell? ⟨w2.heap.size, 2, none⟩ = some (.string ⟨#[]⟩) := bx_cell gc0 2 _ rfl)); (try (have c03 : w4.cell? ⟨w2.heap.size, 3, none⟩ = some (.slice none 0 0) := bx_cell gc0 3 _ rfl)); (try (have c04 : w4.cell? ⟨w2.heap.size, 4, none⟩ = some (.slice none 0 0) := bx_cell gc0 4 _ rfl)); (try (have c1f := bx_thaw gc1)); (try (have c10 : w4.cell? ⟨w2.heap.size + 1, 0, none⟩ = some (.slice none 0 0) := bx_cell gc1 0 _ rfl)); (try (have c11 : w4.cell? ⟨w2.heap.size + 1, 1, none⟩ = some (.string ⟨#[]⟩) := bx_cell gc1 1 _ rfl)); (try (have c12 : w4.cell? ⟨w2.heap.size + 1, 2, none⟩ = some (.string ⟨#[]⟩) := bx_cell gc1 2 _ rfl)); (try (have c13 : w4.cell? ⟨w2.heap.size + 1, 3, none⟩ = some (.slice none 0 0) := bx_cell gc1 3 _ rfl)); (try (have c14 : w4.cell? ⟨w2.heap.size + 1, 4, none⟩ = some (.slice none 0 0) := bx_cell gc1 4 _ rfl)); (try (have c2f := bx_thaw gc2)); (try (have c20 : w4.cell? ⟨w3.heap.size, 0, none⟩ = some (.slice none 0 0) := bx_cell gc2 0 _ rfl)); (try (have c21 : w4.cell? ⟨w3.heap.size, 1, none⟩ = some (.string ⟨#[]⟩) := bx_cell gc2 1 _ rfl)); (try (have c22 : w4.cell? ⟨w3.heap.size, 2, none⟩ = some (.string ⟨#[]⟩) := bx_cell gc2 2 _ rfl)); (try (have c23 : w4.cell? ⟨w3.heap.size, 3, none⟩ = some (.slice none 0 0) := bx_cell gc2 3 _ rfl)); (try (have c24 : w4.cell? ⟨w3.heap.size, 4, none⟩ = some (.slice none 0 0) := bx_cell gc2 4 _ rfl)); (try (have c3f := bx_thaw gc3)); (try (have c30 : w4.cell? ⟨w3.heap.size + 1, 0, none⟩ = some (.slice none 0 0) := bx_cell gc3 0 _ rfl)); (try (have c31 : w4.cell? ⟨w3.heap.size + 1, 1, none⟩ = some (.string ⟨#[]⟩) := bx_cell gc3 1 _ rfl)); (try (have c32 : w4.cell? ⟨w3.heap.size + 1, 2, none⟩ = some (.string ⟨#[]⟩) := bx_cell gc3 2 _ rfl)); (try (have c33 : w4.cell? ⟨w3.heap.size + 1, 3, none⟩ = some (.slice none 0 0) := bx_cell gc3 3 _ rfl)); (try (have c34 : w4.cell? ⟨w3.heap.size + 1, 4, none⟩ = some (.slice none 0 0) := bx_cell gc3 4 _ rfl)); (try (have v0f : ∀ X q, (w4.alloc X).frozen? ⟨w2.heap.size, q, none⟩ = false := fun X q => bx_thaw (blk_al gc0 X) q)); (try (have v00 : ∀ X, (w4.alloc X).cell? ⟨w2.heap.size, 0, none⟩ = some (.slice none 0 0) := fun X => bx_cell (blk_al gc0 X) 0 _ rfl)); (try (have v01 : ∀ X, (w4.alloc X).cell? ⟨w2.heap.size, 1, none⟩ = some (.string ⟨#[]⟩) := fun X => bx_cell (blk_al gc0 X) 1 _ rfl)); (try (have v02 : ∀ X, (w4.alloc X).cell? ⟨w2.heap.size, 2, none⟩ = some (.string ⟨#[]⟩) := fun X => bx_cell (blk_al gc0 X) 2 _ rfl)); (try (have v03 : ∀ X, (w4.alloc X).cell? ⟨w2.heap.size, 3, none⟩ = some (.slice none 0 0) := fun X => bx_cell (blk_al gc0 X) 3 _ rfl)); (try (have v04 : ∀ X, (w4.alloc X).cell? ⟨w2.heap.size, 4, none⟩ = some (.slice none 0 0) := fun X => bx_cell (blk_al gc0 X) 4 _ rfl)); (try (have v1f : ∀ X q, (w4.alloc X).frozen? ⟨w2.heap.size + 1, q, none⟩ = false := fun X q => bx_thaw (blk_al gc1 X) q)); (try (have v10 : ∀ X, (w4.alloc X).cell? ⟨w2.heap.size + 1, 0, none⟩ = some (.slice none 0 0) := fun X => bx_cell (blk_al gc1 X) 0 _ rfl)); (try (have v11 : ∀ X, (w4.alloc X).cell? ⟨w2.heap.size + 1, 1, none⟩ = some (.string ⟨#[]⟩) := fun X => bx_cell (blk_al gc1 X) 1 _ rfl)); (try (have v12 : ∀ X, (w4.alloc X).cell? ⟨w2.heap.size + 1, 2, none⟩ = some (.string ⟨#[]⟩) := fun X => bx_cell (blk_al gc1 X) 2 _ rfl)); (try (have v13 : ∀ X, (w4.alloc X).cell? ⟨w2.heap.size + 1, 3, none⟩ = some (.slice none 0 0) := fun X => bx_cell (blk_al gc1 X) 3 _ rfl)); (try (have v14 : ∀ X, (w4.alloc X).cell? ⟨w2.heap.size + 1, 4, none⟩ = some (.slice none 0 0) := fun X => bx_cell (blk_al gc1 X) 4 _ rfl)); (try (have v2f : ∀ X q, (w4.alloc X).frozen? ⟨w3.heap.size, q, none⟩ = false := fun X q => bx_thaw (blk_al gc2 X) q)); (try (have v20 : ∀ X, (w4.alloc X).cell? ⟨w3.heap.size, 0, none⟩ = some (.slice none 0 0) := fun X => bx_cell (blk_al gc2 X) 0 _ rfl)); (try (have v21 : ∀ X, (w4.alloc X).cell? ⟨w3.heap.size, 1, none⟩ = some (.string ⟨#[]⟩) := fun X => bx_cell (blk_al gc2 X) 1 _ rfl)); (try (have v22 : ∀ X, (w4.alloc X).cell? ⟨w3.heap.size, 2, none⟩ = some (.string ⟨#[]⟩) := fun X => bx_cell (blk_al gc2 X) 2 _ rfl)); (try (have v23 : ∀ X, (w4.alloc X).cell? ⟨w3.heap.size, 3, none⟩ = some (.slice none 0 0) := fun X => bx_cell (blk_al gc2 X) 3 _ rfl)); (try (have v24 : ∀ X, (w4.alloc X).cell? ⟨w3.heap.size, 4, none⟩ = some (.slice none 0 0) := fun X => bx_cell (blk_al gc2 X) 4 _ rfl)); (try (have v3f : ∀ X q, (w4.alloc X).frozen? ⟨w3.heap.size + 1, q, none⟩ = false := fun X q => bx_thaw (blk_al gc3 X) q)); (try (have v30 : ∀ X, (w4.alloc X).cell? ⟨w3.heap.size + 1, 0, none⟩ = some (.slice none 0 0) := fun X => bx_cell (blk_al gc3 X) 0 _ rfl)); (try (have v31 : ∀ X, (w4.alloc X).cell? ⟨w3.heap.size + 1, 1, none⟩ = some (.string ⟨#[]⟩) := fun X => bx_cell (blk_al gc3 X) 1 _ rfl)); (try (have v32 : ∀ X, (w4.alloc X).cell? ⟨w3.heap.size + 1, 2, none⟩ = some (.string ⟨#[]⟩) := fun X => bx_cell (blk_al gc3 X) 2 _ rfl)); (try (have v33 : ∀ X, (w4.alloc X).cell? ⟨w3.heap.size + 1, 3, none⟩ = some (.slice none 0 0) := fun X => bx_cell (blk_al gc3 X) 3 _ rfl)); (try (have v34 : ∀ X, (w4.alloc X).cell? ⟨w3.heap.size + 1, 4, none⟩ = some (.slice none 0 0) := fun X => bx_cell (blk_al gc3 X) 4 _ rfl)); clear ox fx; (try (have nb00 : ¬ w2.heap.size = w4.heap.size := (by omega))); (try (have nb00x : ¬ w4.heap.size = w2.heap.size := (by omega))); (try (have nb01 : ¬ w2.heap.size = w4.heap.size + 1 := (by omega))); (try (have nb01x : ¬ w4.heap.size + 1 = w2.heap.size := (by omega))); (try (have nb10 : ¬ w2.heap.size + 1 = w4.heap.size := (by omega))); (try (have nb10x : ¬ w4.heap.size = w2.heap.size + 1 := (by omega))); (try (have nb11 : ¬ w2.heap.size + 1 = w4.heap.size + 1 := (by omega))); (try (have nb11x : ¬ w4.heap.size + 1 = w2.heap.size + 1 := (by omega))); (try (have nc00 : ¬ w3.heap.size = w4.heap.size := (by omega))); (try (have nc00x : ¬ w4.heap.size = w3.heap.size := (by omega))); (try (have nc01 : ¬ w3.heap.size = w4.heap.size + 1 := (by omega))); (try (have nc01x : ¬ w4.heap.size + 1 = w3.heap.size := (by omega))); (try (have nc10 : ¬ w3.heap.size + 1 = w4.heap.size := (by omega))); (try (have nc10x : ¬ w4.heap.size = w3.heap.size + 1 := (by omega))); (try (have nc11 : ¬ w3.heap.size + 1 = w4.heap.size + 1 := (by omega))); (try (have nc11x : ¬ w4.heap.size + 1 = w3.heap.size + 1 := (by omega))); skip))
      all_goals
        go_wp2
        go_meet
        case rel =>
          refine ⟨_, _, _, _, _, ⟨⟨pl, nm, sp, fl, ml⟩, ⟨dpa, dpn, dpc⟩, ⟨dfa, dfn, dfc⟩, ⟨dma, dmn, dmc⟩, dmr⟩, ⟨⟨pl, nm, sp, fl, ml⟩, ⟨xpa, xpn, xpc⟩, ⟨xfa, xfn, xfc⟩, ⟨xma, xmn, xmc⟩, xmr⟩, rfl, rfl, cpd_of rfl rfl ?_ (unhide HD1) ?_ (unhide HX1) ?_ ?_ ?_ ?_ ?_ ?_ ?_ ?_ ?_⟩
          · repeat (first | with_reducible assumption | with_reducible refine Below.drew ?_ | with_reducible refine belowA ?_ _ | with_reducible refine Below.setCell ?_ (by simp only; omega) _)
          · first | with_reducible exact Below.refl _ _ | with_reducible exact (Below.refl _ _).alloc (Nat.le_refl _) _ | with_reducible exact ((Below.refl _ _).alloc (Nat.le_refl _) _).alloc (by simp) _
          · intro k h3 h4 hk
            repeat (first | with_reducible rfl | with_reducible refine Eq.trans (Below.heap_setCell _ _ _ _ h3) ?_ | with_reducible refine Eq.trans (Below.heap_setCell _ _ _ _ h4) ?_ | with_reducible refine Eq.trans (Below.heap_alloc _ _ _ (by first | omega | (simp <;> omega))) ?_)
          · repeat (first | with_reducible assumption | with_reducible refine Below.drew ?_ | with_reducible refine belowA ?_ _ | with_reducible refine Below.setCell ?_ (by simp only; omega) _)
          · first | (simp; done) | (simp <;> omega)
          · show _ = some (Obj.cells #[.slice dpa dpn dpc, .string ⟨nm.toArray⟩, .string ⟨sp.toArray⟩, .slice dfa dfn dfc, .slice dma dmn dmc] 26)
            repeat (first | with_reducible exact heap_alloc_new _ _ | with_reducible exact blk_new2 _ _ _ | with_reducible exact gc0 | with_reducible exact gc1 | with_reducible exact gc2 | with_reducible exact gc3 | with_reducible refine bx_set5 _ _ _ _ _ (?_ : _ = some (Obj.cells #[.slice none 0 0, .string ⟨#[]⟩, .string ⟨#[]⟩, .slice none 0 0, .slice none 0 0] 26)) | with_reducible refine Eq.trans (Below.heap_setCell _ _ _ _ (by first | omega | (simp <;> omega))) ?_ | with_reducible refine blk_al ?_ _)
          · show _ = some (Obj.cells #[.slice xpa xpn xpc, .string ⟨nm.toArray⟩, .string ⟨sp.toArray⟩, .slice xfa xfn xfc, .slice xma xmn xmc] 26)
            repeat (first | with_reducible exact heap_alloc_new _ _ | with_reducible exact blk_new2 _ _ _ | with_reducible exact gc0 | with_reducible exact gc1 | with_reducible exact gc2 | with_reducible exact gc3 | with_reducible refine bx_set5 _ _ _ _ _ (?_ : _ = some (Obj.cells #[.slice none 0 0, .string ⟨#[]⟩, .string ⟨#[]⟩, .slice none 0 0, .slice none 0 0] 26)) | with_reducible refine Eq.trans (Below.heap_setCell _ _ _ _ (by first | omega | (simp <;> omega))) ?_ | with_reducible refine blk_al ?_ _)
          · first | omega | (simp <;> omega)
          · first | omega | (simp <;> omega)
          · first | omega | (simp <;> omega)
          · first | omega | (simp <;> omega)
    case rest =>
      obtain ⟨p3, p4, S1, S2, w1, d, x, rfl, rfl, hcp⟩ := hcut
      obtain ⟨dc, ⟨dpa, dpn, dpc⟩, ⟨dfa, dfn, dfc⟩, ⟨dma, dmn, dmc⟩, dmr⟩ := d
      obtain ⟨xc, ⟨xpa, xpn, xpc⟩, ⟨xfa, xfn, xfc⟩, ⟨xma, xmn, xmc⟩, xmr⟩ := x
      have hdc := hcp.dc
      have hxc := hcp.xc
      simp only at hdc hxc
      subst hdc
      subst hxc
      have hodp : Orw ec 42 5 w1 S1 (.slice dpa dpn dpc) pl := hcp.od.pool
      have hodf : Orw fdc 44 3 w1 S1 (.slice dfa dfn dfc) fl := hcp.od.fields
      have hodm : Orw mdc 36 8 w1 S1 (.slice dma dmn dmc) dmr := hcp.od.methods
      have HEACH : Hid (∀ y ∈ dmr, MdOwn w1 S1 y) := hcp.od.each
      have HSZ := hide hcp.sz
      have HSAME := hide hcp.same
      have KD : Hid (∀ W, Mut S1 S2 wc W → W.cell? ⟨p3, 0, none⟩ = some (.slice dpa dpn dpc) ∧ W.cell? ⟨p3, 3, none⟩ = some (.slice dfa dfn dfc) ∧ W.cell? ⟨p3, 4, none⟩ = some (.slice dma dmn dmc)) := fun W m => by
        have := m.out hcp.b3 hcp.o3
        exact ⟨bx_cell this 0 _ rfl, bx_cell this 3 _ rfl, bx_cell this 4 _ rfl⟩
      have RP := hide (fun h => hodp.rowCells rkE (w3 := wc) hcp.sz hcp.same h)
      have RF := hide (fun h => hodf.rowCells rkF (w3 := wc) hcp.sz hcp.same h)
      have RM := hide (fun h => hodm.rowCells rkM (w3 := wc) hcp.sz hcp.same h)
      have HM0 : Hid (Mut S1 S2 wc wc) := Mut.refl _ _ _
      have HCPD := hide hcp
      have hS12 := hcp.s2
      have hS1w : S1 ≤ wc.heap.size := Nat.le_trans hcp.s12 hcp.s2
      have hdml := hodm.len
      have mst1 := hodp.most
      have mst2 := hodf.most
      have mst3 := hodm.most
      clear hcp hodp hodf hodm
      go_wp2
      go_loopw [5] (fun i wr => ∃ k : Nat, k ≤ dpn ∧ i = .int .i64 k ∧ Mut S1 S2 wc wr) (fun i _ => dpn - (intOf i).toNat)
      case atStart => exact ⟨0, by omega, rfl, unhide HM0⟩
      case round =>
        obtain ⟨k5, hkk5, rfl, hT⟩ := hrel
        obtain ⟨k0, k3, k4⟩ := unhide KD _ hT
        by_cases hltk5 : k5 < dpn
        · have hlt1 : (k5 : Int) < (dpn : Int) := by omega
          have hk0 : (0 : Int) ≤ (k5 : Int) := by omega
          obtain ⟨gk5, curk5, hrk5, _⟩ := unhide RP (by omega)
          obtain rfl := hrk5.at_
          obtain ⟨⟨u, hu⟩, hz⟩ := hT.cell hrk5.lo hrk5.hi hrk5.blk (o := k5 * 5 + 2) (by have := hrk5.room; omega)
          have HN := hide (hT.set (o := k5 * 5 + 2) hrk5.lo hrk5.hi hrk5.blk (.inl ⟨by decide, by decide⟩) (.int .i64 77))

          clear hT hrk5
          go_wp2
          go_roundw
          case rel => exact ⟨k5 + 1, by omega, by go_num, unhide HN⟩
          case measure => simp [intOf]; omega
        · obtain rfl : k5 = dpn := by omega
          have HTk5 := hide hT
          clear hT hltk5 hkk5
          go_wp2
          clear k0 k3 k4
          go_loopw [6] (fun i wr => ∃ k : Nat, k ≤ dfn ∧ i = .int .i64 k ∧ Mut S1 S2 wc wr) (fun i _ => dfn - (intOf i).toNat)
          case atStart => exact ⟨0, by omega, rfl, unhide HTk5⟩
          case round =>
            obtain ⟨k6, hkk6, rfl, hT⟩ := hrel
            obtain ⟨k0, k3, k4⟩ := unhide KD _ hT
            by_cases hltk6 : k6 < dfn
            · have hlt1 : (k6 : Int) < (dfn : Int) := by omega
              have hk0 : (0 : Int) ≤ (k6 : Int) := by omega
              obtain ⟨gk6, curk6, hrk6, _⟩ := unhide RF (by omega)
              obtain rfl := hrk6.at_
              obtain ⟨⟨u, hu⟩, hz⟩ := hT.cell hrk6.lo hrk6.hi hrk6.blk (o := k6 * 3 + 1) (by have := hrk6.room; omega)
              have HN := hide (hT.set (o := k6 * 3 + 1) hrk6.lo hrk6.hi hrk6.blk (.inl ⟨by decide, by decide⟩) (.string ⟨#[111, 116, 104, 101, 114]⟩))

              clear hT hrk6
              go_wp2
              go_roundw
              case rel => exact ⟨k6 + 1, by omega, by go_num, unhide HN⟩
              case measure => simp [intOf]; omega
            · obtain rfl : k6 = dfn := by omega
              have HTk6 := hide hT
              clear hT hltk6 hkk6
              go_wp2
              clear k0 k3 k4
              go_loopw [7] (fun i wr => ∃ k : Nat, k ≤ dmn ∧ i = .int .i64 k ∧ Mut S1 S2 wc wr) (fun i _ => dmn - (intOf i).toNat)
              case atStart => exact ⟨0, by omega, rfl, unhide HTk6⟩
              case round =>
                obtain ⟨k7, hk7, rfl, hT⟩ := hrel
                obtain ⟨k0, k3, k4⟩ := unhide KD _ hT
                by_cases hlt7 : k7 < dmn
                · have hlt17 : (k7 : Int) < (dmn : Int) := by omega
                  have hk07 : (0 : Int) ≤ (k7 : Int) := by omega
                  obtain ⟨gm, curm, hrm, hcm⟩ := unhide RM (by omega)
                  obtain rfl := hrm.at_
                  obtain ⟨x, hx⟩ : ∃ x, dmr[k7]? = some x := ⟨_, List.getElem?_eq_getElem (by omega)⟩
                  have hxo := unhide HEACH x (List.mem_of_getElem? hx)
                  have hxc := hcm k7 x hx
                  obtain ⟨xm, ⟨ba, bn, bc⟩, ⟨ha, hn, hc⟩, ⟨ma, mn, mc⟩, xr⟩ := x
                  have KM : Hid (∀ W, Mut S1 S2 wc W → W.cell? ⟨p3, 4, none⟩ = some (.slice (some ⟨gm, 0, none⟩) dmn dmc) ∧ W.cell? ⟨gm, k7 * 8 + 5, none⟩ = some (.slice ba bn bc) ∧ W.cell? ⟨gm, k7 * 8 + 6, none⟩ = some (.slice ha hn hc) ∧ W.cell? ⟨gm, k7 * 8 + 7, none⟩ = some (.slice ma mn mc)) := fun W m => ⟨(unhide KD W m).2.2, (m.method hrm.lo hrm.hi hrm.blk _ (by omega)).trans (hxc 5 _ rfl), (m.method hrm.lo hrm.hi hrm.blk _ (by omega)).trans (hxc 6 _ rfl), (m.method hrm.lo hrm.hi hrm.blk _ (by omega)).trans (hxc 7 _ rfl)⟩
                  have hob : Orw byc 5 1 w1 S1 (.slice ba bn bc) xm.code.bytes := hxo.bs
                  have hoh : Orw hdc 46 4 w1 S1 (.slice ha hn hc) xm.code.hs := hxo.hs
                  have hom : Orw mpc 49 3 w1 S1 (.slice ma mn mc) xr := hxo.maps
                  have HEM : Hid (∀ y ∈ xr, MpOwn w1 S1 y) := hxo.each
                  have RB := hide (fun h => hob.rowCells rkB (w3 := wc) (unhide HSZ) (unhide HSAME) h)
                  have RH := hide (fun h => hoh.rowCells rkH (w3 := wc) (unhide HSZ) (unhide HSAME) h)
                  have RX := hide (fun h => hom.rowCells rkP (w3 := wc) (unhide HSZ) (unhide HSAME) h)
                  have mst4 := hob.most
                  have mst5 := hoh.most
                  have mst6 := hom.most
                  have hxrl := hom.len
                  obtain ⟨⟨u, hu⟩, hz⟩ := hT.cell hrm.lo hrm.hi hrm.blk (o := k7 * 8 + 1) (by have := hrm.room; omega)
                  have HN7 := hide (hT.set (o := k7 * 8 + 1) hrm.lo hrm.hi hrm.blk (.inr ⟨rfl, by omega⟩) (.string ⟨#[111, 116, 104, 101, 114]⟩))
                  clear hT hrm hcm hx hxo hxc hob hoh hom
                  go_wp2
                  clear hu hz k0 k3 k4
                  go_loopw [8] (fun i wr => ∃ k : Nat, k ≤ bn ∧ i = .int .i64 k ∧ Mut S1 S2 wc wr) (fun i _ => bn - (intOf i).toNat)
                  case atStart => exact ⟨0, by omega, rfl, unhide HN7⟩
                  case round =>
                    obtain ⟨k8, hkk8, rfl, hT⟩ := hrel
                    obtain ⟨k4, c5, c6, c7⟩ := unhide KM _ hT
                    by_cases hltk8 : k8 < bn
                    · have hlt1 : (k8 : Int) < (bn : Int) := by omega
                      have hk0 : (0 : Int) ≤ (k8 : Int) := by omega
                      obtain ⟨gk8, curk8, hrk8, _⟩ := unhide RB (by omega)
                      obtain rfl := hrk8.at_
                      obtain ⟨⟨u, hu⟩, hz⟩ := hT.cell hrk8.lo hrk8.hi hrk8.blk (o := k8) (by have := hrk8.room; omega)
                      have HN := hide (hT.set (o := k8) hrk8.lo hrk8.hi hrk8.blk (.inl ⟨by decide, by decide⟩) (.int .u8 77))

                      clear hT hrk8
                      go_wp2
                      go_roundw
                      case rel => exact ⟨k8 + 1, by omega, by go_num, unhide HN⟩
                      case measure => simp [intOf]; omega
                    · obtain rfl : k8 = bn := by omega
                      have HTk8 := hide hT
                      clear hT hltk8 hkk8
                      go_wp2
                      clear k4 c5 c6 c7
                      go_loopw [9] (fun i wr => ∃ k : Nat, k ≤ hn ∧ i = .int .i64 k ∧ Mut S1 S2 wc wr) (fun i _ => hn - (intOf i).toNat)
                      case atStart => exact ⟨0, by omega, rfl, unhide HTk8⟩
                      case round =>
                        obtain ⟨k9, hkk9, rfl, hT⟩ := hrel
                        obtain ⟨k4, c5, c6, c7⟩ := unhide KM _ hT
                        by_cases hltk9 : k9 < hn
                        · have hlt1 : (k9 : Int) < (hn : Int) := by omega
                          have hk0 : (0 : Int) ≤ (k9 : Int) := by omega
                          obtain ⟨gk9, curk9, hrk9, _⟩ := unhide RH (by omega)
                          obtain rfl := hrk9.at_
                          obtain ⟨⟨u, hu⟩, hz⟩ := hT.cell hrk9.lo hrk9.hi hrk9.blk (o := k9 * 4 + 2) (by have := hrk9.room; omega)
                          have HN := hide (hT.set (o := k9 * 4 + 2) hrk9.lo hrk9.hi hrk9.blk (.inl ⟨by decide, by decide⟩) (.int .i64 77))

                          clear hT hrk9
                          go_wp2
                          go_roundw
                          case rel => exact ⟨k9 + 1, by omega, by go_num, unhide HN⟩
                          case measure => simp [intOf]; omega
                        · obtain rfl : k9 = hn := by omega
                          have HTk9 := hide hT
                          clear hT hltk9 hkk9
                          go_wp2
                          clear k4 c5 c6 c7
                          go_loopw [10] (fun i wr => ∃ k : Nat, k ≤ mn ∧ i = .int .i64 k ∧ Mut S1 S2 wc wr) (fun i _ => mn - (intOf i).toNat)
                          case atStart => exact ⟨0, by omega, rfl, unhide HTk9⟩
                          case round =>
                            obtain ⟨k10, hk10, rfl, hT⟩ := hrel
                            obtain ⟨k4, c5, c6, c7⟩ := unhide KM _ hT
                            by_cases hlt10 : k10 < mn
                            · have hlt110 : (k10 : Int) < (mn : Int) := by omega
                              have hk010 : (0 : Int) ≤ (k10 : Int) := by omega
                              obtain ⟨gp, curp, hrp, hcp⟩ := unhide RX (by omega)
                              obtain rfl := hrp.at_
                              obtain ⟨y, hy⟩ : ∃ y, xr[k10]? = some y := ⟨_, List.getElem?_eq_getElem (by omega)⟩
                              have hyo := unhide HEM y (List.mem_of_getElem? hy)
                              have hyc := hcp k10 y hy
                              obtain ⟨ym, ⟨la, ln, lc⟩, ⟨sa, sn, sc⟩⟩ := y
                              have d0 : wr.cell? ⟨gp, k10 * 3, none⟩ = some (.int .i64 ym.at_) := (hT.map hrp.lo hrp.hi hrp.blk _).trans hyc.zero
                              have d1 : wr.cell? ⟨gp, k10 * 3 + 1, none⟩ = some (.slice la ln lc) := (hT.map hrp.lo hrp.hi hrp.blk _).trans (hyc 1 _ rfl)
                              have d2 : wr.cell? ⟨gp, k10 * 3 + 2, none⟩ = some (.slice sa sn sc) := (hT.map hrp.lo hrp.hi hrp.blk _).trans (hyc 2 _ rfl)
                              have hol : Orw tyc 51 2 w1 S1 (.slice la ln lc) ym.loc := hyo.loc
                              have hos : Orw tyc 51 2 w1 S1 (.slice sa sn sc) ym.stk := hyo.stk
                              have RL := hide (fun h => hol.rowCells rkT (w3 := wc) (unhide HSZ) (unhide HSAME) h)
                              have RS := hide (fun h => hos.rowCells rkT (w3 := wc) (unhide HSZ) (unhide HSAME) h)
                              have mst7 := hol.most
                              have mst8 := hos.most
                              have hszr : S2 ≤ wr.heap.size := by have := hT.low.size; omega
                              have HMQ := hide (hT.on hS1w ((Below.refl _ _).alloc (Nat.le_refl _) (.cells #[.int .i64 ym.at_, .slice la ln lc, .slice sa sn sc] 49)))
                              have HBQ := hide (heap_alloc_new wr (.cells #[.int .i64 ym.at_, .slice la ln lc, .slice sa sn sc] 49))
                              clear hT hrp hcp hy hyo hyc hol hos
                              go_wp2
                              clear d0 d1 d2 k4 c5 c6 c7
                              generalize wr.alloc (.cells #[.int .i64 ym.at_, .slice la ln lc, .slice sa sn sc] 49) = wq at *
                              generalize wr.heap.size = pb at *
                              go_loopw [12] (fun i wr => ∃ k : Nat, k ≤ ln ∧ i = .int .i64 k ∧ Mut S1 S2 wc wr ∧ wr.heap[pb]? = some (.cells #[.int .i64 ym.at_, .slice la ln lc, .slice sa sn sc] 49)) (fun i _ => ln - (intOf i).toNat)
                              case atStart => exact ⟨0, by omega, rfl, unhide HMQ, unhide HBQ⟩
                              case round =>
                                obtain ⟨k12, hkk12, rfl, hT, hbx⟩ := hrel
                                have c1 := bx_cell hbx 1 _ rfl
                                have c2 := bx_cell hbx 2 _ rfl
                                simp at c1 c2
                                by_cases hltk12 : k12 < ln
                                · have hlt1 : (k12 : Int) < (ln : Int) := by omega
                                  have hk0 : (0 : Int) ≤ (k12 : Int) := by omega
                                  obtain ⟨gk12, curk12, hrk12, _⟩ := unhide RL (by omega)
                                  obtain rfl := hrk12.at_
                                  obtain ⟨⟨u, hu⟩, hz⟩ := hT.cell hrk12.lo hrk12.hi hrk12.blk (o := k12 * 2) (by have := hrk12.room; omega)
                                  have HN := hide (hT.set (o := k12 * 2) hrk12.lo hrk12.hi hrk12.blk (.inl ⟨by decide, by decide⟩) (.int .i64 77))
                                  have HBN := hide ((Below.heap_setCell wr ⟨gk12, k12 * 2, none⟩ (.int .i64 77) pb (by have := hrk12.hi; simp only; omega)).trans hbx)
                                  clear hT hrk12
                                  go_wp2
                                  go_roundw
                                  case rel => exact ⟨k12 + 1, by omega, by go_num, unhide HN, unhide HBN⟩
                                  case measure => simp [intOf]; omega
                                · obtain rfl : k12 = ln := by omega
                                  have HTk12 := hide hT
                                  clear hT hltk12 hkk12
                                  have HBk12 := hide hbx
                                  clear hbx
                                  go_wp2
                                  clear c1 c2
                                  go_loopw [13] (fun i wr => ∃ k : Nat, k ≤ sn ∧ i = .int .i64 k ∧ Mut S1 S2 wc wr ∧ wr.heap[pb]? = some (.cells #[.int .i64 ym.at_, .slice la k12 lc, .slice sa sn sc] 49)) (fun i _ => sn - (intOf i).toNat)
                                  case atStart => exact ⟨0, by omega, rfl, unhide HTk12, unhide HBk12⟩
                                  case round =>
                                    obtain ⟨k13, hkk13, rfl, hT, hbx⟩ := hrel
                                    have c1 := bx_cell hbx 1 _ rfl
                                    have c2 := bx_cell hbx 2 _ rfl
                                    simp at c1 c2
                                    by_cases hltk13 : k13 < sn
                                    · have hlt1 : (k13 : Int) < (sn : Int) := by omega
                                      have hk0 : (0 : Int) ≤ (k13 : Int) := by omega
                                      obtain ⟨gk13, curk13, hrk13, _⟩ := unhide RS (by omega)
                                      obtain rfl := hrk13.at_
                                      obtain ⟨⟨u, hu⟩, hz⟩ := hT.cell hrk13.lo hrk13.hi hrk13.blk (o := k13 * 2) (by have := hrk13.room; omega)
                                      have HN := hide (hT.set (o := k13 * 2) hrk13.lo hrk13.hi hrk13.blk (.inl ⟨by decide, by decide⟩) (.int .i64 77))
                                      have HBN := hide ((Below.heap_setCell wr ⟨gk13, k13 * 2, none⟩ (.int .i64 77) pb (by have := hrk13.hi; simp only; omega)).trans hbx)
                                      clear hT hrk13
                                      go_wp2
                                      go_roundw
                                      case rel => exact ⟨k13 + 1, by omega, by go_num, unhide HN, unhide HBN⟩
                                      case measure => simp [intOf]; omega
                                    · obtain rfl : k13 = sn := by omega
                                      have HTk13 := hide hT
                                      clear hT hltk13 hkk13
                                      clear hbx
                                      go_wp2
                                      go_roundw
                                      case rel => exact ⟨k10 + 1, by omega, by go_num, unhide HTk13⟩
                                      case measure => simp [intOf]; omega
                            · obtain rfl : k10 = mn := by omega
                              have HTk10 := hide hT
                              clear hT
                              go_wp2
                              go_roundw
                              case rel => exact ⟨k7 + 1, by omega, by go_num, unhide HTk10⟩
                              case measure => simp [intOf]; omega
                · obtain rfl : k7 = dmn := by omega
                  obtain ⟨Bel, ox⟩ := (unhide HCPD).end_ hT
                  obtain ⟨q0, q1, q2, q3, q4⟩ := unhide KC _ Bel
                  have hb4 := hT.out (unhide HCPD).b4 (unhide HCPD).o4
                  have r0 := bx_cell hb4 0 _ rfl
                  have r1 := bx_cell hb4 1 _ rfl
                  have r2 := bx_cell hb4 2 _ rfl
                  have r3 := bx_cell hb4 3 _ rfl
                  have r4 := bx_cell hb4 4 _ rfl
                  simp [Sl.v] at r0 r1 r2 r3 r4
                  have HFIN := hide (unhide HSC wr S2 _ Bel rfl ox)
                  simp only at HFIN
                  clear hT Bel ox hb4
                  go_wp2_with fail
                  refine (unhide HFIN).mono ?_
                  rintro e w9 ⟨rfl, B9⟩
                  have HB9 := hide ((unhide F0).trans (B9.mono (unhide F0).size))
                  clear B9 q0 q1 q2 q3 q4 r0 r1 r2 r3 r4
                  go_wp2
                  go_ret
                  exact ⟨rfl, unhide HB9⟩
end Go.Proofs.YthhdfokcciibmaaDoor
