/- Layer 11: what the constant tells. -/
import Derived.Test.YthenefjoidckkaaGreatDoorJS5
import Derived.Test.YthenefjoidckkaaGreatDoorJC
import Derived.BigRegion

namespace Go.Proofs.YthenefjoidckkaaGreatDoor
open Go.RowKit
set_option linter.unusedVariables false
set_option maxRecDepth 100000

/-- The pool of a work. -/
structure Pok (C : Wcx) : Prop where
  es : Es C.w0 C.pl.a C.pl.n C.p.en
  pn : C.pl.n ≤ 140737488351232
  fit : (∀ x ∈ C.p.en, x.text.length ≤ 140737488355328) ∧ ∀ x ∈ C.p.en, EntFit x
  A : -9223372036854775808 ≤ C.p.A ∧ C.p.A ≤ 9223372036854775807
theorem Wk.owner {C : Wcx} {x : Wst} {l s h a : Sl} {W : World} (k : Wk C x l s h a W) (t : Ty) : Wk C { x with ow := t } l s h a ((W.setCell ⟨C.X, 12, none⟩ (.int .i64 t.kind)).setCell ⟨C.X, 13, none⟩ (.string ⟨t.name.toArray⟩)) := by
  have b1 := heap_setCell_same W C.X 12 _ _ (.int .i64 t.kind) k.blk
  have b2 := heap_setCell_same _ C.X 13 _ _ (.string ⟨t.name.toArray⟩) b1
  have rr : ∀ {v : Value} {u : List Ty}, Orw tyc 52 2 W C.w0.heap.size v u → Orw tyc 52 2 ((W.setCell ⟨C.X, 12, none⟩ (.int .i64 t.kind)).setCell ⟨C.X, 13, none⟩ (.string ⟨t.name.toArray⟩)) C.w0.heap.size v u := fun {v u} o => o.below fun j hj => (heap_setCell_other _ _ _ _ (row_ne o k.blk (by decide) hj)).trans (heap_setCell_other _ _ _ _ (row_ne o k.blk (by decide) hj))
  exact ⟨b2, rr k.ol, rr k.os, rr k.oh, rr k.oa, k.sl, k.sh, k.sa, k.lh, k.la, k.ha, (k.bel.setCell (p := ⟨C.X, 12, none⟩) k.hX _).setCell (p := ⟨C.X, 13, none⟩) k.hX _, k.hX⟩
theorem Wk.told {C : Wcx} {x : Wst} {l s h a : Sl} {W : World} (k : Wk C x l s h a W) (t : Ty) : Wk C { x with to_ := t } l s h a ((W.setCell ⟨C.X, 15, none⟩ (.int .i64 t.kind)).setCell ⟨C.X, 16, none⟩ (.string ⟨t.name.toArray⟩)) := by
  have b1 := heap_setCell_same W C.X 15 _ _ (.int .i64 t.kind) k.blk
  have b2 := heap_setCell_same _ C.X 16 _ _ (.string ⟨t.name.toArray⟩) b1
  have rr : ∀ {v : Value} {u : List Ty}, Orw tyc 52 2 W C.w0.heap.size v u → Orw tyc 52 2 ((W.setCell ⟨C.X, 15, none⟩ (.int .i64 t.kind)).setCell ⟨C.X, 16, none⟩ (.string ⟨t.name.toArray⟩)) C.w0.heap.size v u := fun {v u} o => o.below fun j hj => (heap_setCell_other _ _ _ _ (row_ne o k.blk (by decide) hj)).trans (heap_setCell_other _ _ _ _ (row_ne o k.blk (by decide) hj))
  exact ⟨b2, rr k.ol, rr k.os, rr k.oh, rr k.oa, k.sl, k.sh, k.sa, k.lh, k.la, k.ha, (k.bel.setCell (p := ⟨C.X, 15, none⟩) k.hX _).setCell (p := ⟨C.X, 16, none⟩) k.hX _, k.hX⟩
theorem WK.owner {C : Wcx} {x : Wst} {W : World} (k : WK C x W) (t : Ty) (ht : nmOk t) : WK C { x with ow := t } ((W.setCell ⟨C.X, 12, none⟩ (.int .i64 t.kind)).setCell ⟨C.X, 13, none⟩ (.string ⟨t.name.toArray⟩)) := by
  obtain ⟨ok, l, s, h, a, k⟩ := k
  exact ⟨⟨ok.st, ok.lo, ok.ha, ht, ok.ar, ok.to_⟩, l, s, h, a, k.owner t⟩
theorem WK.told {C : Wcx} {x : Wst} {W : World} (k : WK C x W) (t : Ty) (ht : nmOk t) : WK C { x with to_ := t } ((W.setCell ⟨C.X, 15, none⟩ (.int .i64 t.kind)).setCell ⟨C.X, 16, none⟩ (.string ⟨t.name.toArray⟩)) := by
  obtain ⟨ok, l, s, h, a, k⟩ := k
  exact ⟨⟨ok.st, ok.lo, ok.ha, ok.ow, ok.ar, ht⟩, l, s, h, a, k.told t⟩
/-- The arguments are another row. -/
theorem Wk.args {C : Wcx} {x : Wst} {l s h a : Sl} {W : World} (k : Wk C x l s h a W) (a' : Sl) (u : List Ty) (o : Orw tyc 52 2 W C.w0.heap.size a'.v u) (d : Dis s a' ∧ Dis l a' ∧ Dis h a') : Wk C { x with ar := u } l s h a' (W.setCell ⟨C.X, 14, none⟩ a'.v) := by
  have b1 := heap_setCell_same W C.X 14 _ _ a'.v k.blk
  exact ⟨b1, k.rowX k.ol 14 _, k.rowX k.os 14 _, k.rowX k.oh 14 _, k.rowX o 14 _, k.sl, k.sh, d.1, k.lh, d.2.1, d.2.2, k.bel.setCell (p := ⟨C.X, 14, none⟩) k.hX _, k.hX⟩
theorem WK.thaw {C : Wcx} {x : Wst} {W : World} (k : WK C x W) : (∀ q, W.frozen? ⟨C.X, q, none⟩ = false) ∧ ∃ v, W.cell? ⟨C.X, 14, none⟩ = some v := by
  obtain ⟨_, _, _, _, _, k⟩ := k
  exact ⟨k.cells.2.2.2.2.2.2, _, bx_cell k.blk 14 _ rfl⟩
theorem WK.pool {C : Wcx} {x : Wst} {W : World} (k : WK C x W) (hP : Pok C) : W.cell? ⟨C.X, 1, none⟩ = some (.slice C.pl.a C.pl.n C.pl.c) ∧ Es W C.pl.a C.pl.n C.p.en := by
  obtain ⟨_, _, _, _, _, k⟩ := k
  exact ⟨bx_cell k.blk 1 _ rfl, hP.es.below k.bel⟩
/-- A block that is none of its own. -/
theorem WK.off {C : Wcx} {x : Wst} {W W' : World} (k : WK C x W) {r : Nat} (hr : ∀ j, j ≠ r → W'.heap[j]? = W.heap[j]?) {Z : Array Value} {T : TypeId} (hb : W.heap[r]? = some (.cells Z T (0, 0))) (hT : T ≠ 52) (hX : r ≠ C.X) (hbel : Below C.w0.heap.size C.w0 W') : WK C x W' := by
  obtain ⟨ok, l, s, h, a, k⟩ := k
  have rr : ∀ {v : Value} {u : List Ty}, Orw tyc 52 2 W C.w0.heap.size v u → Orw tyc 52 2 W' C.w0.heap.size v u := fun {v u} o => o.below fun j hj => hr j (row_ne o hb (Ne.symm hT) hj)
  exact ⟨ok, l, s, h, a, ⟨(hr _ (Ne.symm hX)).trans k.blk, rr k.ol, rr k.os, rr k.oh, rr k.oa, k.sl, k.sh, k.sa, k.lh, k.la, k.ha, hbel, k.hX⟩⟩
theorem KeepsW.off {C : Wcx} {V W W' : World} (h : KeepsW C V W) {r : Nat} (hr : ∀ j, j ≠ r → W'.heap[j]? = W.heap[j]?) (hV : V.heap.size ≤ r) (hz : W.heap.size ≤ W'.heap.size) : KeepsW C V W' := ⟨Nat.le_trans h.1 hz, fun k Z t fr hk h1 h2 => (hr k (fun e => by have := lt_of_heap hk; omega)).trans (h.2 k Z t fr hk h1 h2)⟩
theorem five_other {W : World} {A j : Nat} (c0 c1 c2 c3 c4 : Value) (h : j ≠ A) : (((((W.setCell ⟨A, 0, none⟩ c0).setCell ⟨A, 1, none⟩ c1).setCell ⟨A, 2, none⟩ c2).setCell ⟨A, 3, none⟩ c3).setCell ⟨A, 4, none⟩ c4).heap[j]? = W.heap[j]? := by
  rw [heap_setCell_other _ _ _ _ h, heap_setCell_other _ _ _ _ h, heap_setCell_other _ _ _ _ h, heap_setCell_other _ _ _ _ h, heap_setCell_other _ _ _ _ h]
theorem WK.bel {C : Wcx} {x : Wst} {W : World} (k : WK C x W) : Below C.w0.heap.size C.w0 W ∧ C.w0.heap.size ≤ C.X ∧ C.X < W.heap.size := by
  obtain ⟨_, _, _, _, _, k⟩ := k
  exact ⟨k.bel, k.hX, lt_of_heap k.blk⟩
def con_post (C : Wcx) (x : Wst) (W : World) (tag : Int) (e : Ending) (w' : World) : Prop := e = .returned (.tuple #[cstV (constP C.p.en C.p.A).1, .bool (decide ((constP C.p.en C.p.A).2 = 0) && decide ((constP C.p.en C.p.A).1.tag = tag))]) ∧ WK C { x with ow := refT (constP C.p.en C.p.A).1.cls } w' ∧ KeepsW C W w'
set_option maxHeartbeats 4000000 in
theorem w11constant_any (C : Wcx) (x : Wst) (W : World) (k : WK C x W) (hP : Pok C) (tag : Int) :
    Calls Tryz.prog 118 #[.pointer (some ⟨C.X, 0, none⟩), .int .i64 tag] W fun e w' => con_post C x W tag e w' := by
  obtain ⟨w0, hw0⟩ : ∃ w0, w0 = W.alloc (.cells #[.int .i64 0, .int .i64 0, .string ⟨#[]⟩, .string ⟨#[]⟩, .string ⟨#[]⟩] 120) := ⟨_, rfl⟩
  have f0 : Below W.heap.size W w0 := by rw [hw0]; exact bA (Below.refl _ _) _
  have hz0 : w0.heap.size = W.heap.size + 1 := by rw [hw0]; simp
  have hb0 : w0.heap[W.heap.size]? = some (.cells #[.int .i64 0, .int .i64 0, .string ⟨#[]⟩, .string ⟨#[]⟩, .string ⟨#[]⟩] 120 (0, 0)) := by rw [hw0]; exact heap_alloc_last _ _
  have k0 := k.below f0
  obtain ⟨c1, hes⟩ := k0.pool hP
  have c6 := k0.c56.2
  obtain ⟨hcl, _⟩ := const_len C.p.en C.p.A
  have HPe : Hid (∀ W', Below w0.heap.size w0 W' → Calls Tryz.prog 135 #[.slice C.pl.a C.pl.n C.pl.c, .int .i64 C.p.A] W' fun e w' => e = .returned (.tuple #[cstV (constP C.p.en C.p.A).1, .int .i64 (constP C.p.en C.p.A).2]) ∧ Below W'.heap.size W' w') := fun W' f => kConst_any W' C.pl.a C.pl.n C.pl.c C.p.en (hes.below f) C.p.A hP.A hP.pn hP.fit
  unfold con_post
  generalize constP C.p.en C.p.A = E at *
  obtain ⟨⟨ct, cn, cc, cm, cy⟩, ee⟩ := E
  unfold cstV at *
  simp only at HPe hcl ⊢
  have HA : Hid (∀ W', Below w0.heap.size w0 W' → Calls Tryz.prog 135 #[.slice C.pl.a C.pl.n C.pl.c, .int .i64 C.p.A] W' fun e w' => e = .returned (.tuple #[.agg #[.int .i64 ct, .int .i64 cn, .string ⟨cc.toArray⟩, .string ⟨cm.toArray⟩, .string ⟨cy.toArray⟩], .int .i64 ee]) ∧ Below w0.heap.size w0 w') := fun W' f => (unhide HPe W' f).mono fun e w' h => ⟨h.1, f.trans (h.2.mono f.size)⟩
  have HB : Hid (∀ W', Below w0.heap.size w0 W' → W'.heap[w0.heap.size]? = some (.cells #[.int .i64 0, .int .i64 0, .string ⟨#[]⟩, .string ⟨#[]⟩, .string ⟨#[]⟩] 120 (0, 0)) → Calls Tryz.prog 135 #[.slice C.pl.a C.pl.n C.pl.c, .int .i64 C.p.A] W' fun e w' => e = .returned (.tuple #[.agg #[.int .i64 ct, .int .i64 cn, .string ⟨cc.toArray⟩, .string ⟨cm.toArray⟩, .string ⟨cy.toArray⟩], .int .i64 ee]) ∧ Below w0.heap.size w0 w' ∧ w'.heap[w0.heap.size]? = some (.cells #[.int .i64 0, .int .i64 0, .string ⟨#[]⟩, .string ⟨#[]⟩, .string ⟨#[]⟩] 120 (0, 0))) := fun W' f hb => (unhide HPe W' f).mono fun e w' h => ⟨h.1, f.trans (h.2.mono f.size), (h.2.block _ (lt_of_heap hb)).trans hb⟩
  have al : ∀ {p : Addr} {v : Value} (Z : Obj), w0.cell? p = some v → (w0.alloc Z).cell? p = some v := fun {p v} Z h => ((bA (Below.refl _ _) Z : Below w0.heap.size w0 _).cell (World.block_lt_of_cell? w0 _ h)).trans h
  have c1' := fun Z => al Z c1
  have c6' := fun Z => al Z c6
  have nX : ¬ C.X = w0.heap.size := by have := World.block_lt_of_cell? w0 _ c1; simp only at this; omega
  have HW0 := hide hw0
  have HK0 := hide k0
  have X0 := hide (And.intro f0 (And.intro hz0 hb0))
  have HKW := hide k
  clear HPe k k0 hes hw0 f0 hz0 hb0
  clear al
  go_enter Tryz.func118, Tryz.ntmps118
  go_wp2_with fail
  rw [← unhide HW0]
  go_cut [6, 7] from 8 (fun v6 v7 wr => ∃ r, v6 = .pointer (some ⟨r, 0, none⟩) ∧ v7 = .int .i64 ee ∧ Below w0.heap.size w0 wr ∧ w0.heap.size ≤ r ∧ wr.heap[r]? = some (.cells #[.int .i64 ct, .int .i64 cn, .string ⟨cc.toArray⟩, .string ⟨cm.toArray⟩, .string ⟨cy.toArray⟩] 120 (0, 0)))
  case first =>
    go_region_with
      (first
      | (go_at_call 135; refine Calls.mono (unhide HB _ (by repeat (first | exact Below.refl _ _ | refine Below.drew ?_ | refine bA ?_ _)) (by exact heap_alloc_last _ _)) ?_; rintro e w2 ⟨rfl, f2, b2⟩; have z2 : ∀ q, w2.frozen? ⟨w0.heap.size, q, none⟩ = false := fun q => bx_thaw b2 q; obtain ⟨z10, z11, z12, z13, z14⟩ := cstC (x := cst0) b2; have HB2 := hide b2; have F2 := hide f2; clear b2 f2)
      | (go_at_call 135; refine Calls.mono (unhide HA _ (by repeat (first | exact Below.refl _ _ | refine Below.drew ?_ | refine bA ?_ _))) ?_; rintro e w2 ⟨rfl, f2⟩; have F2 := hide f2; clear f2))
    all_goals
      go_wp2
      go_meet
      case rel =>
        first
        | exact ⟨w2.heap.size, rfl, rfl, bA (unhide F2) _, (unhide F2).size, heap_alloc_last _ _⟩
        | exact ⟨w0.heap.size, rfl, rfl, five_bel _ _ _ _ _ (unhide F2) (Nat.le_refl _), Nat.le_refl _, five_set _ _ _ _ _ (unhide HB2)⟩
  case rest =>
    obtain ⟨r, rfl, rfl, fc, hr0, bc⟩ := hcut
    obtain ⟨f0, hz0, hb0⟩ := unhide X0
    have kc := (unhide HK0).below fc
    have bz := (fc.block _ (lt_of_heap hb0)).trans hb0
    obtain ⟨q0, q1, q2, q3, q4⟩ := cstC (x := ⟨ct, cn, cc, cm, cy⟩) bc
    have HR := hide (p11ref_any wc ⟨cc.toArray⟩)
    have rX : r ≠ C.X := by have := (unhide HK0).bel; omega
    have RX : W.heap.size ≠ C.X := by have := (unhide HKW).bel; omega
    have rR : r ≠ W.heap.size := by omega
    have fWc : Below W.heap.size W wc := f0.trans (fc.mono (by omega))
    have H1 := hide (And.intro kc (And.intro bz (And.intro bc fWc)))
    simp only at q0 q1 q2 q3 q4
    clear fc kc bz bc fWc f0 hz0 hb0 X0 HA HB HK0 c1 c6 c1' c6'
    go_wp2_with fail
    refine (unhide HR).mono ?_
    rintro e w2 ⟨rfl, f2⟩
    obtain ⟨kc, bz, bc, fWc⟩ := unhide H1
    have k2 := kc.below f2
    have bz2 := (f2.block _ (lt_of_heap bz)).trans bz
    have bc2 := (f2.block _ (lt_of_heap bc)).trans bc
    have fW2 := fWc.trans (f2.mono fWc.size)
    obtain ⟨_, _, d0, d1, _, _⟩ := k2.cel
    obtain ⟨tX, _⟩ := k2.thaw
    have k3 := k2.owner (refT cc) (by unfold nmOk refT; simp only; omega)
    unfold refT at k3
    simp only at k3
    have bz3 : ((w2.setCell ⟨C.X, 12, none⟩ (.int .i64 4)).setCell ⟨C.X, 13, none⟩ (.string ⟨cc.toArray⟩)).heap[W.heap.size]? = _ := ((heap_setCell_other _ _ _ _ RX).trans (heap_setCell_other _ _ _ _ RX)).trans bz2
    have bc3 : ((w2.setCell ⟨C.X, 12, none⟩ (.int .i64 4)).setCell ⟨C.X, 13, none⟩ (.string ⟨cc.toArray⟩)).heap[r]? = _ := ((heap_setCell_other _ _ _ _ rX).trans (heap_setCell_other _ _ _ _ rX)).trans bc2
    have kp3 : KeepsW C W ((w2.setCell ⟨C.X, 12, none⟩ (.int .i64 4)).setCell ⟨C.X, 13, none⟩ (.string ⟨cc.toArray⟩)) := ((KeepsW.below fW2).trans (KeepsW.setX C _ _ _)).trans (KeepsW.setX C _ _ _)
    have H3 := hide (And.intro k3 (And.intro bz3 (And.intro bc3 kp3)))
    clear f2 HR H1 kc bz bc fWc k2 bz2 bc2 fW2 k3 bz3 bc3 kp3 q0 q1 q2 q3 q4
    go_wp2
    generalize (w2.setCell ⟨C.X, 12, none⟩ (.int .i64 4)).setCell ⟨C.X, 13, none⟩ (.string ⟨cc.toArray⟩) = w3 at *
    clear d0 d1 tX
    obtain ⟨k3, bz3, bc3, kp3⟩ := unhide H3
    obtain ⟨q0, q1, q2, q3, q4⟩ := cstC (x := ⟨ct, cn, cc, cm, cy⟩) bc3
    obtain ⟨y0, y1, y2, y3, y4⟩ := cstC (x := cst0) bz3
    have ty : ∀ q, w3.frozen? ⟨W.heap.size, q, none⟩ = false := fun q => bx_thaw bz3 q
    simp only at q0 q1 q2 q3 q4
    clear k3 bz3 bc3 kp3
    have rR' : ¬ W.heap.size = r := fun e => rR e.symm
    by_cases h0 : ee = 0
    · subst h0
      go_region
      go_wp2
      obtain ⟨k3, bz3, bc3, kp3⟩ := unhide H3
      have hb := (unhide HKW).bel
      refine bodyPost_ret (kcst_results Tryz.results118 _ W.heap.size _ rfl (by exact five_set _ _ _ _ _ bz3) _ rfl) rfl ⟨?_, ?_, ?_⟩
      · rfl
      · exact (k3.off (r := W.heap.size) (fun j hj => five_other _ _ _ _ _ hj) bz3 (by decide) RX (five_bel _ _ _ _ _ k3.bel.1 hb.1.size)).below (Below.refl _ _).drew
      · exact (kp3.off (r := W.heap.size) (fun j hj => five_other (.int .i64 ct) (.int .i64 cn) (.string ⟨cc.toArray⟩) (.string ⟨cm.toArray⟩) (.string ⟨cy.toArray⟩) hj) (Nat.le_refl _) (by simp)).trans (KeepsW.below (Below.refl _ _).drew)
    · have b0 : (ee == 0) = false := by simpa using h0
      go_region
      go_wp2
      obtain ⟨k3, bz3, bc3, kp3⟩ := unhide H3
      have hb := (unhide HKW).bel
      refine bodyPost_ret (kcst_results Tryz.results118 _ W.heap.size _ rfl (by exact five_set _ _ _ _ _ bz3) _ rfl) rfl ⟨?_, ?_, ?_⟩
      · rw [decide_eq_false h0]; rfl
      · exact (k3.off (r := W.heap.size) (fun j hj => five_other _ _ _ _ _ hj) bz3 (by decide) RX (five_bel _ _ _ _ _ k3.bel.1 hb.1.size)).below (Below.refl _ _).drew
      · exact (kp3.off (r := W.heap.size) (fun j hj => five_other (.int .i64 ct) (.int .i64 cn) (.string ⟨cc.toArray⟩) (.string ⟨cm.toArray⟩) (.string ⟨cy.toArray⟩) hj) (Nat.le_refl _) (by simp)).trans (KeepsW.below (Below.refl _ _).drew)
end Go.Proofs.YthenefjoidckkaaGreatDoor
