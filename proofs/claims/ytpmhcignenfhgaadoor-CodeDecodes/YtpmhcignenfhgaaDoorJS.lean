/- Joined: CfG CfH. -/
import Derived.Test.YtpmhcignenfhgaaDoorJR
import Derived.Test.YtpmhcignenfhgaaDoorJQ
import Derived.Test.YtpmhcignenfhgaaDoorJP
import Derived.Deep.RegionWith

/- The landed code: an instruction read. -/
namespace Go.Proofs.YtpmhcignenfhgaaDoor
open Go.RowKit
set_option linter.unusedVariables false
set_option maxRecDepth 100000

def inc0 : Array Value := #[.int .i64 0, .int .i64 0, .int .i64 0, .int .i64 0, .slice none 0 0]
/-- Behind the Op. -/
def Op9 (C : Cr9) (i : Nat) (wg : Bool) (w : World) (R p : Nat) (W : World) : Prop :=
  ∃ op i1 wr1, G9 (gR C.bs i 1 false) wg op i1 wr1 ∧ i ≤ i1 ∧ (0 ≤ op ∧ op < 4294967296) ∧ (wr1 = false → i1 = i + 1) ∧ Rd9 C i1 (i : Int) wr1 W ∧ FX9 C w W ∧ W.heap[R]? = some (.cells inc0 38 (0, 0)) ∧ W.heap[p]? = some (.cells #[.int .i64 (i : Int), .int .i64 op, .int .i64 0, .int .i64 0, .slice none 0 0] 38 (0, 0)) ∧ R < p
theorem cells9_other (g : Nat) : ∀ (vs : List Value) (o : Nat) (w : World) (k : Nat), k ≠ g → (w.setCells g o vs).heap[k]? = w.heap[k]?
  | [], _, _, _, _ => rfl
  | u :: us, o, w, k, h => (cells9_other g us (o + 1) _ k h).trans (Below.heap_setCell _ _ _ _ h)
theorem cells9_below {B b : Nat} : ∀ (vs : List Value) (o : Nat) {w0 w : World}, Below B w0 w → B ≤ b → Below B w0 (w.setCells b o vs)
  | [], _, _, _, h, _ => h
  | v :: r, o, _, _, h, hb => cells9_below r (o + 1) (h.setCell (p := ⟨b, o, none⟩) hb v) hb
theorem cells9_in {R : Nat} {T : TypeId} : ∀ (vs A P : List Value) (W : World), W.heap[R]? = some (.cells (A ++ P).toArray T (0, 0)) → P.length = vs.length → (W.setCells R A.length vs).heap[R]? = some (.cells (A ++ vs).toArray T (0, 0))
  | [], A, P, W, h, hl => by
    obtain rfl := List.eq_nil_of_length_eq_zero hl
    exact h
  | v :: vs, A, [], W, h, hl => by simp at hl
  | v :: vs, A, p :: P, W, h, hl => by
    have h1 := heap_setCell_same W R A.length _ _ v h
    have e1 : (A ++ p :: P).toArray.setIfInBounds A.length v = ((A ++ [v]) ++ P).toArray := by
      apply Array.ext'
      simp
    rw [e1] at h1
    have h2 := cells9_in vs (A ++ [v]) P _ h1 (by simpa using hl)
    rw [List.length_append, List.length_cons, List.length_nil, List.append_assoc] at h2
    exact h2
theorem Rd9.setc {C : Cr9} {i : Nat} {bg : Int} {wr : Bool} {W : World} (h : Rd9 C i bg wr W) {R : Nat} {Z : Array Value} {T : TypeId} (hR : W.heap[R]? = some (.cells Z T (0, 0))) (hT : ¬ (T = 74 ∨ T = 95 ∨ T = 5)) (o : Nat) (vs : List Value) : Rd9 C i bg wr (W.setCells R o vs) :=
  h.keep fun k Z' T' hk hT' => cells9_other R vs o W k fun e => by
    subst e
    rw [hR] at hk
    injection hk with hk
    injection hk with _ hk
    subst hk
    exact hT hT'
theorem FX9.setc {C : Cr9} {w W : World} (f : FX9 C w W) {R : Nat} (hR : w.heap.size ≤ R) (hB : C.B ≤ w.heap.size) (o : Nat) (vs : List Value) : FX9 C w (W.setCells R o vs) :=
  ⟨cells9_below vs o f.below (Nat.le_trans hB hR), fun k hk hn => (cells9_other R vs o W k (by omega)).trans (f.other k hk hn)⟩
theorem op9_last {C : Cr9} {i : Nat} {wg : Bool} {w w2 W w3 : World} {R : Nat} {n : Int} {i' : Nat} {wr' : Bool} (hB : C.B ≤ w.heap.size) (h2 : Rd9 C i (i : Int) wg w2 ∧ w2.heap[R]? = some (.cells inc0 38 (0, 0)) ∧ FX9 C w w2) (hW : Below w2.heap.size w2 W)
    (g : (G9 (gR C.bs i 1 false) wg n i' wr' ∧ i ≤ i' ∧ (0 ≤ n ∧ n < 4294967296) ∧ (wr' = false → i' = i + 1) ∧ Rd9 C i' (i : Int) wr' w3) ∧ FX9 C W w3) : Op9 C i wg w R w3.heap.size (w3.alloc (.cells #[.int .i64 (i : Int), .int .i64 n, .int .i64 0, .int .i64 0, .slice none 0 0] 38)) := by
  obtain ⟨⟨g1, g2, g3, g4, r3⟩, f3⟩ := g
  have hr := (h2.1.below hW).blks f3 ((hW.block _ (lt_of_heap h2.2.1)).trans h2.2.1) (by decide) (by decide)
  have b4 : Below w3.heap.size w3 (w3.alloc (.cells #[.int .i64 (i : Int), .int .i64 n, .int .i64 0, .int .i64 0, .slice none 0 0] 38)) := bA (Below.refl _ _) _
  exact ⟨n, i', wr', g1, g2, g3, g4, r3.below b4, ((h2.2.2.on hW hB).trans f3).on b4 hB, (b4.block _ (lt_of_heap hr)).trans hr, heap_alloc_last _ _, lt_of_heap hr⟩
theorem op9_mid {C : Cr9} {i : Nat} {wg : Bool} {w w2 W w3 : World} {R : Nat} {n : Int} {i' : Nat} {wr' : Bool} (hB : C.B ≤ w.heap.size) (h2 : Rd9 C i (i : Int) wg w2 ∧ w2.heap[R]? = some (.cells inc0 38 (0, 0)) ∧ FX9 C w w2) (hW : Below w2.heap.size w2 W)
    (g : (G9 (gR C.bs i 1 false) wg n i' wr' ∧ i ≤ i' ∧ (0 ≤ n ∧ n < 4294967296) ∧ (wr' = false → i' = i + 1) ∧ Rd9 C i' (i : Int) wr' w3) ∧ FX9 C W w3) (hp : w3.heap[w2.heap.size]? = some (.cells inc0 38 (0, 0))) : Op9 C i wg w R w2.heap.size (w3.setCells w2.heap.size 0 [.int .i64 (i : Int), .int .i64 n, .int .i64 0, .int .i64 0, .slice none 0 0]) := by
  obtain ⟨⟨g1, g2, g3, g4, r3⟩, f3⟩ := g
  have hr := (h2.1.below hW).blks f3 ((hW.block _ (lt_of_heap h2.2.1)).trans h2.2.1) (by decide) (by decide)
  have hlt := lt_of_heap h2.2.1
  exact ⟨n, i', wr', g1, g2, g3, g4, r3.setc hp (by decide) _ _, ((h2.2.2.on hW hB).trans f3).setc h2.2.2.size hB _ _, (cells9_other _ _ _ _ _ (by omega)).trans hr, cells9_in _ [] [.int .i64 0, .int .i64 0, .int .i64 0, .int .i64 0, .slice none 0 0] w3 hp rfl, hlt⟩
def ins9_post (C : Cr9) (i : Nat) (wg : Bool) (w : World) (e : Ending) (w' : World) : Prop :=
  ∃ (x : Ins) (s : Sl) (i' : Nat) (wr' : Bool), e = .returned (.agg #[.int .i64 x.at_, .int .i64 x.op, .int .i64 x.a, .int .i64 x.b, s.v]) ∧ Orw cac 51 2 w' w.heap.size s.v x.cs ∧ InsFit x ∧ G9 (insR C.bs i) wg x i' wr' ∧ i ≤ i' ∧ (wr' = false → i < i') ∧ Rd9 C i' (i : Int) wr' w' ∧ FX9 C w w'
theorem Tab9.fx {C : Cr9} {w w' : World} (h : Tab9 w) (f : FX9 C w w') (hB : 2 ≤ C.B) : Tab9 w' := by
  obtain ⟨t, fr, h⟩ := h
  exact ⟨t, fr, (f.below.block 1 (by omega)).trans h⟩
/-- While an instruction is read: the answer's place R, the instruction's p. -/
structure I9 (C : Cr9) (i : Nat) (w : World) (R p : Nat) (cs : Array Value) (j : Nat) (wr : Bool) (W : World) : Prop where
  rd : Rd9 C j (i : Int) wr W
  fx : FX9 C w W
  hR : W.heap[R]? = some (.cells inc0 38 (0, 0))
  hp : W.heap[p]? = some (.cells cs 38 (0, 0))
  ne : R ≠ p
  hRw : w.heap.size ≤ R
  hpw : w.heap.size ≤ p
  hB : C.B ≤ w.heap.size
theorem I9.call {C : Cr9} {i : Nat} {w : World} {R p : Nat} {cs : Array Value} {j j' : Nat} {wr wr' : Bool} {W W' : World} (h : I9 C i w R p cs j wr W) (r : Rd9 C j' (i : Int) wr' W') (f : FX9 C W W') : I9 C i w R p cs j' wr' W' :=
  ⟨r, h.fx.trans f, h.rd.blks f h.hR (by decide) (by decide), h.rd.blks f h.hp (by decide) (by decide), h.ne, h.hRw, h.hpw, h.hB⟩
theorem I9.below {C : Cr9} {i : Nat} {w : World} {R p : Nat} {cs : Array Value} {j : Nat} {wr : Bool} {W W' : World} (h : I9 C i w R p cs j wr W) (f : Below W.heap.size W W') : I9 C i w R p cs j wr W' :=
  ⟨h.rd.below f, h.fx.on f h.hB, (f.block _ (lt_of_heap h.hR)).trans h.hR, (f.block _ (lt_of_heap h.hp)).trans h.hp, h.ne, h.hRw, h.hpw, h.hB⟩
theorem I9.set {C : Cr9} {i : Nat} {w : World} {R p : Nat} {cs : Array Value} {j : Nat} {wr : Bool} {W : World} (h : I9 C i w R p cs j wr W) (q : Nat) (v : Value) : I9 C i w R p (cs.setIfInBounds q v) j wr (W.setCell ⟨p, q, none⟩ v) :=
  ⟨h.rd.setc h.hp (by decide) q [v], h.fx.setc h.hpw h.hB q [v], (Below.heap_setCell _ _ _ _ h.ne).trans h.hR, heap_setCell_same W p q _ _ v h.hp, h.ne, h.hRw, h.hpw, h.hB⟩
theorem I9.fin {C : Cr9} {i : Nat} {w : World} {R p : Nat} {cs : Array Value} {j : Nat} {wr : Bool} {W : World} (h : I9 C i w R p cs j wr W) (vs : List Value) (hl : vs.length = 5) : (W.setCells R 0 vs).heap[R]? = some (.cells vs.toArray 38 (0, 0)) ∧ Rd9 C j (i : Int) wr (W.setCells R 0 vs) ∧ FX9 C w (W.setCells R 0 vs) :=
  ⟨cells9_in vs [] [.int .i64 0, .int .i64 0, .int .i64 0, .int .i64 0, .slice none 0 0] W h.hR hl.symm, h.rd.setc h.hR (by decide) _ _, h.fx.setc h.hRw h.hB _ _⟩
theorem I9.orw {C : Cr9} {i : Nat} {w : World} {R p : Nat} {cs : Array Value} {j : Nat} {wr : Bool} {W : World} (h : I9 C i w R p cs j wr W) {α : Type} {c2 : α → List Value} {e : TypeId} {sz base : Nat} {v : Value} {l : List α} (o : Orw c2 e sz W base v l) (he : e ≠ 38) (vs : List Value) : Orw c2 e sz (W.setCells R 0 vs) base v l :=
  o.below fun k hk => cells9_other _ _ _ _ _ fun ek => by
    obtain ⟨X, fr, hX, _⟩ := orw_blk0 o hk
    rw [ek, h.hR] at hX
    injection hX with hX
    injection hX with _ hX
    exact he hX.symm
/-- The cells of a form's four, in a block of their own. -/
def o4 (O : Nat) (os : Array Value) (W : World) : Prop := W.heap[O]? = some (.cells os 71 (0, 0))
theorem o4.call {C : Cr9} {j : Nat} {bg : Int} {wr : Bool} {O : Nat} {os : Array Value} {W W' : World} (h : o4 O os W) (r : Rd9 C j bg wr W) (f : FX9 C W W') : o4 O os W' := r.blks f h (by decide) (by decide)
theorem o4.set {O p : Nat} {os cs : Array Value} {W : World} (h : o4 O os W) (hp : W.heap[p]? = some (.cells cs 38 (0, 0))) (q : Nat) (v : Value) : o4 O os (W.setCell ⟨p, q, none⟩ v) := (Below.heap_setCell _ _ _ _ (fun e => by
  simp only at e
  rw [o4, e, hp] at h
  injection h with h
  injection h with _ h
  cases h)).trans h
theorem o4.cells {O : Nat} {v0 v1 v2 v3 : Value} {W : World} (h : o4 O #[v0, v1, v2, v3] W) : W.cell? ⟨O, 0, none⟩ = some v0 ∧ W.cell? ⟨O, 1, none⟩ = some v1 ∧ W.cell? ⟨O, 2, none⟩ = some v2 ∧ W.cell? ⟨O, 3, none⟩ = some v3 := ⟨bx_cell h 0 _ rfl, bx_cell h 1 _ rfl, bx_cell h 2 _ rfl, bx_cell h 3 _ rfl⟩
theorem I9.cells {C : Cr9} {i : Nat} {w : World} {R p : Nat} {v0 v1 v2 v3 v4 : Value} {j : Nat} {wr : Bool} {W : World} (h : I9 C i w R p #[v0, v1, v2, v3, v4] j wr W) : (W.cell? ⟨p, 0, none⟩ = some v0 ∧ W.cell? ⟨p, 1, none⟩ = some v1 ∧ W.cell? ⟨p, 2, none⟩ = some v2 ∧ W.cell? ⟨p, 3, none⟩ = some v3 ∧ W.cell? ⟨p, 4, none⟩ = some v4) ∧ (∀ j, W.frozen? ⟨p, j, none⟩ = false) ∧ (W.cell? ⟨R, 0, none⟩ = some (.int .i64 0) ∧ W.cell? ⟨R, 1, none⟩ = some (.int .i64 0) ∧ W.cell? ⟨R, 2, none⟩ = some (.int .i64 0) ∧ W.cell? ⟨R, 3, none⟩ = some (.int .i64 0) ∧ W.cell? ⟨R, 4, none⟩ = some (.slice none 0 0)) ∧ (∀ j, W.frozen? ⟨R, j, none⟩ = false) :=
  ⟨⟨bx_cell h.hp 0 _ rfl, bx_cell h.hp 1 _ rfl, bx_cell h.hp 2 _ rfl, bx_cell h.hp 3 _ rfl, bx_cell h.hp 4 _ rfl⟩, fun j => bx_thaw h.hp j, ⟨bx_cell h.hR 0 _ rfl, bx_cell h.hR 1 _ rfl, bx_cell h.hR 2 _ rfl, bx_cell h.hR 3 _ rfl, bx_cell h.hR 4 _ rfl⟩, fun j => bx_thaw h.hR j⟩
set_option maxHeartbeats 40000000 in
theorem h9instr_any (C : Cr9) (i : Nat) (bg : Int) (wg : Bool) (w : World) (h : Rd9 C i bg wg w) (hT : Tab9 w) (h2B : 2 ≤ C.B) :
    Calls Tryd.prog 38 #[.pointer (some ⟨C.X, 0, none⟩)] w (ins9_post C i wg w) := by
  have hB := h.hB
  have HT := hide hT
  have hbg0 : (0 : Int) ≤ (i : Int) ∧ (i : Int) ≤ 140737488351232 := by have := h.hi; have := h.len; omega
  clear hT
  obtain ⟨w0, hw0, hr0, f0⟩ : ∃ w0, w0 = w.alloc (.cells inc0 38) ∧ w0.heap[w.heap.size]? = some (.cells inc0 38 (0, 0)) ∧ Below w.heap.size w w0 := ⟨_, rfl, heap_alloc_last _ _, bA (Below.refl _ _) _⟩
  have R0 := h.below f0
  have HA := hide (h9At_any C i bg wg w0 R0)
  obtain ⟨c0, c1, c2, c3⟩ := R0.cells
  have HW0 := hide hw0
  have H0 := hide (And.intro R0 (And.intro hr0 ((FX9.refl C w).on f0 hB)))
  unfold inc0 at HW0
  have e0 := (unhide HW0).symm
  clear h R0 hw0 hr0 f0
  go_enter Tryd.func38, Tryd.ntmps38
  go_wp2_with fail
  refine (unhide HA).mono ?_
  rintro e w1 ⟨rfl, f1⟩
  have R1 := (unhide H0).1.below f1
  have H1 := hide (And.intro R1 (And.intro ((f1.block _ (lt_of_heap (unhide H0).2.1)).trans (unhide H0).2.1) ((unhide H0).2.2.on f1 hB)))
  have d3 := R1.cells.2.2.2
  have d1 := R1.cells.2.1
  clear e0 c0 c1 c2 c3 f1 R1 H0 HA
  go_wp2
  obtain ⟨R2, f2⟩ := (unhide H1).1.begin (i : Int)
  have hr2 := (unhide H1).1.blks f2 (unhide H1).2.1 (by decide) (by decide)
  have F2 := (unhide H1).2.2.trans f2
  clear d1 d3
  generalize w1.setCell ⟨C.X, 41, none⟩ (.int .i64 (i : Int)) = w2 at *
  have HN : Hid (∀ W, Below w2.heap.size w2 W → Calls Tryd.prog 50 #[.pointer (some ⟨C.X, 0, none⟩)] W fun e w' => ∃ n i' wr', e = .returned (.int .i64 n) ∧ (G9 (gR C.bs i 1 false) wg n i' wr' ∧ i ≤ i' ∧ (0 ≤ n ∧ n < 4294967296) ∧ (wr' = false → i' = i + 1) ∧ Rd9 C i' (i : Int) wr' w') ∧ FX9 C W w' ∧ w'.cell? ⟨C.X, 41, none⟩ = some (.int .i64 (i : Int)) ∧ ∀ X, (w'.alloc X).cell? ⟨C.X, 41, none⟩ = some (.int .i64 (i : Int))) := fun W fW => (h9u1_any C i (i : Int) wg W (R2.below fW)).mono (by
    rintro e w' ⟨n, i', wr', rfl, g1, g2, g3, g4, g5, r, f⟩
    exact ⟨n, i', wr', rfl, ⟨g1, g2, ⟨g4 rfl, g3.2⟩, g5, r⟩, f, r.cells.2.1, fun X => (r.below (bA (Below.refl _ _) X)).cells.2.1⟩)
  have d1 := R2.cells.2.1
  have d2 : ∀ X, (w2.alloc X).cell? ⟨C.X, 41, none⟩ = some (.int .i64 (i : Int)) := fun X => (R2.below (bA (Below.refl _ _) X)).cells.2.1
  have d3 : ∀ X, (w2.drew.alloc X).cell? ⟨C.X, 41, none⟩ = some (.int .i64 (i : Int)) := fun X => (R2.below (bA (Below.drew (Below.refl _ _)) X)).cells.2.1
  have H2 := hide (And.intro R2 (And.intro hr2 F2))
  have HKP : Hid (∀ W W', FX9 C W W' → Below w2.heap.size w2 W → W.heap[w2.heap.size]? = some (.cells inc0 38 (0, 0)) → W'.heap[w2.heap.size]? = some (.cells inc0 38 (0, 0))) := fun W W' f1 f2 hW => (R2.below f2).blks f1 hW (by decide) (by decide)
  have HKC : Hid (∀ W' : World, W'.heap[w2.heap.size]? = some (.cells inc0 38 (0, 0)) → W'.cell? ⟨w2.heap.size, 0, none⟩ = some (.int .i64 0) ∧ W'.cell? ⟨w2.heap.size, 1, none⟩ = some (.int .i64 0) ∧ W'.cell? ⟨w2.heap.size, 2, none⟩ = some (.int .i64 0) ∧ W'.cell? ⟨w2.heap.size, 3, none⟩ = some (.int .i64 0) ∧ W'.cell? ⟨w2.heap.size, 4, none⟩ = some (.slice none 0 0) ∧ ∀ j, W'.frozen? ⟨w2.heap.size, j, none⟩ = false) := fun W' hb => by
    exact ⟨bx_cell hb 0 _ rfl, bx_cell hb 1 _ rfl, bx_cell hb 2 _ rfl, bx_cell hb 3 _ rfl, bx_cell hb 4 _ rfl, fun j => bx_thaw hb j⟩
  clear R2 f2 hr2 F2 H1
  go_cut [3] from 4 (fun v3 wr => ∃ p, v3 = .pointer (some ⟨p, 0, none⟩) ∧ Op9 C i wg w w.heap.size p wr)
  case first =>
    go_region_with
      (go_at_call 50; refine Calls.mono (unhide HN _ (by repeat (first | exact Below.refl _ _ | refine Below.drew ?_ | refine bA ?_ _))) ?_; rintro e w3 ⟨n, i', wr', rfl, g3, f3, x1, x2⟩; (try (have yb : w3.heap[w2.heap.size]? = some (.cells inc0 38 (0, 0)) := (by first | (refine unhide HKP _ _ f3 ?_ (heap_alloc_last w2 _); exact bA (Below.refl _ _) _) | (refine unhide HKP _ _ f3 ?_ (heap_alloc_last w2 _); exact Below.drew (bA (Below.refl _ _) _)) | (refine unhide HKP _ _ f3 ?_ (heap_alloc_last w2.drew _); exact bA (Below.drew (Below.refl _ _)) _)); obtain ⟨y0, y1, y2, y3, y4, y5⟩ := unhide HKC _ yb; have YB := hide yb; clear yb)); have G3 := hide (And.intro g3 f3); clear g3 f3)
    all_goals
      go_wp2
      go_meet
      case rel =>
        first
          | (have yb := unhide YB; exact ⟨_, rfl, op9_mid hB (unhide H2) (by repeat (first | exact Below.refl _ _ | refine Below.drew ?_ | refine bA ?_ _)) (unhide G3) yb⟩)
          | exact ⟨_, rfl, op9_last hB (unhide H2) (by repeat (first | exact Below.refl _ _ | refine Below.drew ?_ | refine bA ?_ _)) (unhide G3)⟩
  case rest =>
    obtain ⟨p, rfl, op, i1, wr1, g1, le1, fop, he1, R3, F3, hr3, hp3, hlt3⟩ := hcut
    have HF0 := hide (h9formOf_any wc op ((unhide HT).fx F3 h2B))
    have hf9 := formP_le op
    have HG1 := hide (And.intro g1 (And.intro le1 he1))
    obtain ⟨f, hf⟩ : ∃ f, f = formP op := ⟨_, rfl⟩
    rw [← hf] at HF0 hf9
    have HFE := hide hf
    have S3 : Hid (I9 C i w w.heap.size p #[.int .i64 (i : Int), .int .i64 op, .int .i64 0, .int .i64 0, .slice none 0 0] i1 wr1 wc) := ⟨R3, F3, hr3, hp3, by omega, Nat.le_refl _, by omega, hB⟩
    clear g1 le1 he1 R3 F3 hr3 hp3 hlt3 hf d1 d2 d3 H2 HN HKP HKC
    obtain ⟨⟨p0, p1, p2, p3, p4⟩, z1, _⟩ := (unhide S3).cells
    have hbg : (0 : Int) ≤ (i : Int) ∧ (i : Int) ≤ 140737488351232 := hbg0
    obtain rfl | rfl | rfl | rfl | rfl | rfl | rfl | rfl | rfl | rfl : f = 0 ∨ f = 1 ∨ f = 2 ∨ f = 3 ∨ f = 4 ∨ f = 5 ∨ f = 6 ∨ f = 7 ∨ f = 8 ∨ f = 9 := by omega
    · as_aux_lemma =>
      have HFo : Hid (Calls Tryd.prog 35 #[.int .i64 op] wc fun e w' => e = .returned (.int .i64 0) ∧ Below wc.heap.size wc w') := HF0
      go_wp2_with fail
      refine (unhide HFo).mono ?_
      rintro e w3 ⟨rfl, f3⟩
      have S4 := hide ((unhide S3).below f3)
      have HRF := hide (h9refuse_any C i1 (i : Int) wr1 w3 (unhide S4).rd true)
      clear f3 HFo HF0 p0 p1 p2 p3 p4 z1
      go_wp2_with fail
      refine (unhide HRF).mono ?_
      rintro e w4 ⟨rfl, r4, f4⟩
      rw [Bool.or_true] at r4
      have S5 := hide ((unhide S4).call r4 f4)
      have o0 : w4.cell? ⟨C.X, 1, none⟩ = some (.nilFunc) := bx_cell r4.blk 1 _ rfl
      have o1 : w4.cell? ⟨C.X, 2, none⟩ = some (.nilFunc) := bx_cell r4.blk 2 _ rfl
      have o2 : w4.cell? ⟨C.X, 3, none⟩ = some (.nilFunc) := bx_cell r4.blk 3 _ rfl
      have o3 : w4.cell? ⟨C.X, 4, none⟩ = some (.nilFunc) := bx_cell r4.blk 4 _ rfl
      clear r4 f4 HRF
      obtain ⟨w5, e5, hb5, f5⟩ : ∃ w5, (w4.alloc (.cells #[.nilFunc, .nilFunc, .nilFunc, .nilFunc] 71)).setRow w4.heap.size #[.nilFunc, .nilFunc, .nilFunc, .nilFunc] = w5 ∧ o4 w4.heap.size #[.nilFunc, .nilFunc, .nilFunc, .nilFunc] w5 ∧ Below w4.heap.size w4 w5 := ⟨_, rfl, setRow_heap _ _ _ _ _ _ (heap_alloc_last _ _), below_setRow (bA (Below.refl _ _) _) (Nat.le_refl _) _⟩
      have S6 : Hid (I9 C i w w.heap.size p #[.int .i64 (i : Int), .int .i64 op, .int .i64 0, .int .i64 0, .slice none 0 0] i1 true w5) := (unhide S5).below f5
      have hrow : (w4.alloc (.cells #[.nilFunc, .nilFunc, .nilFunc, .nilFunc] 71)).heap[w4.heap.size]? = some (.cells #[.nilFunc, .nilFunc, .nilFunc, .nilFunc] 71 (0, 0)) := heap_alloc_last _ _
      have HROW := hide hrow
      have hpO : ¬ p = w4.heap.size := by have := lt_of_heap (unhide S5).hp; omega
      have hOp : ¬ w4.heap.size = p := fun e => hpO e.symm
      have hRO : ¬ w.heap.size = w4.heap.size := by have := lt_of_heap (unhide S5).hR; omega
      have hRp : ¬ w.heap.size = p := (unhide S5).ne
      have hpR : ¬ p = w.heap.size := fun e => hRp e.symm
      have HO5 := hide hb5
      obtain ⟨k0, k1, k2, k3⟩ := hb5.cells
      obtain ⟨⟨p0, p1, p2, p3, p4⟩, z1, ⟨r0, r1, r2, r3, r4⟩, z2⟩ := (unhide S6).cells
      clear hb5 f5 hrow
      have jn0 : ∀ W, (binOp .neq 1 (.nilFunc) .nilFunc).run Tryd.prog W = .ok (.bool false) W := fun W => by kernel_rfl
      have jn1 : ∀ W, (binOp .neq 67 (.nilFunc) .nilFunc).run Tryd.prog W = .ok (.bool false) W := fun W => by kernel_rfl
      have jn2 : ∀ W, (binOp .neq 67 (.nilFunc) .nilFunc).run Tryd.prog W = .ok (.bool false) W := fun W => by kernel_rfl
      have jn3 : ∀ W, (binOp .neq 69 (.nilFunc) .nilFunc).run Tryd.prog W = .ok (.bool false) W := fun W => by kernel_rfl
      go_wp2_with (refine wpList_store_row rfl 71 _ _ rfl w4.heap.size #[.nilFunc, .nilFunc, .nilFunc, .nilFunc] rfl rfl 71 #[.nilFunc, .nilFunc, .nilFunc, .nilFunc] (unhide HROW) (by kernel_rfl) rfl (by simp [Value.oneCell']) ?_)
      obtain ⟨hrow, hrd, hfx⟩ := (unhide S6).fin [.int .i64 (i : Int), .int .i64 op, .int .i64 (0), .int .i64 (0), .slice none 0 0] rfl
      have hc : G9 (insK C.bs i 0 op i1) wr1 ⟨i, op, 0, 0, []⟩ i1 true := ⟨fun _ => rfl, fun _ => .inr ⟨rfl, rfl⟩⟩
      have hg : G9 (insR C.bs i) wg ⟨i, op, 0, 0, []⟩ i1 true := by
        rw [insR_K]
        refine (unhide HG1).1.bind ?_
        show G9 (insK C.bs i (formP op) op i1) wr1 _ _ _
        rw [← unhide HFE]
        exact hc
      have hl1 : i1 ≤ i1 := Nat.le_refl _
      have hlt : true = false → i < i1 := fun e => by
        have : wr1 = false := by
          cases hwr : wr1 with
          | false => rfl
          | true => rw [hc.1 hwr] at e; cases e
        have := (unhide HG1).2.2 this
        omega
      have hfit : InsFit ⟨i, op, 0, 0, []⟩ := ⟨by simp only; omega, by simp only; omega, by simp only; omega, by simp only; omega, (fun c hc => by cases hc), by simp⟩
      refine bodyPost_ret (v := .agg #[.int .i64 (i : Int), .int .i64 op, .int .i64 (0), .int .i64 (0), .slice none 0 0]) (results_cell_row Tryd.results38 _ _ w.heap.size 38 _ (0, 0) _ rfl hrow Tryd.underlying38 rfl (by kernel_rfl)) rfl ?_
      exact ⟨⟨i, op, 0, 0, []⟩, ⟨none, 0, 0⟩, i1, true, rfl, Orw.nil _ _ _ _ _, hfit, hg, by have := (unhide HG1).2.1; omega, hlt, hrd, hfx⟩
    · as_aux_lemma =>
      have HFo : Hid (Calls Tryd.prog 35 #[.int .i64 op] wc fun e w' => e = .returned (.int .i64 1) ∧ Below wc.heap.size wc w') := HF0
      go_wp2_with fail
      refine (unhide HFo).mono ?_
      rintro e w3 ⟨rfl, f3⟩
      have S4 := hide ((unhide S3).below f3)
      have HRF := hide (h9refuse_any C i1 (i : Int) wr1 w3 (unhide S4).rd false)
      clear f3 HFo HF0 p0 p1 p2 p3 p4 z1
      go_wp2_with fail
      refine (unhide HRF).mono ?_
      rintro e w4 ⟨rfl, r4, f4⟩
      rw [Bool.or_false] at r4
      have S5 := hide ((unhide S4).call r4 f4)
      have o0 : w4.cell? ⟨C.X, 5, none⟩ = some (.nilFunc) := bx_cell r4.blk 5 _ rfl
      have o1 : w4.cell? ⟨C.X, 6, none⟩ = some (.nilFunc) := bx_cell r4.blk 6 _ rfl
      have o2 : w4.cell? ⟨C.X, 7, none⟩ = some (.nilFunc) := bx_cell r4.blk 7 _ rfl
      have o3 : w4.cell? ⟨C.X, 8, none⟩ = some (.nilFunc) := bx_cell r4.blk 8 _ rfl
      clear r4 f4 HRF
      obtain ⟨w5, e5, hb5, f5⟩ : ∃ w5, (w4.alloc (.cells #[.nilFunc, .nilFunc, .nilFunc, .nilFunc] 71)).setRow w4.heap.size #[.nilFunc, .nilFunc, .nilFunc, .nilFunc] = w5 ∧ o4 w4.heap.size #[.nilFunc, .nilFunc, .nilFunc, .nilFunc] w5 ∧ Below w4.heap.size w4 w5 := ⟨_, rfl, setRow_heap _ _ _ _ _ _ (heap_alloc_last _ _), below_setRow (bA (Below.refl _ _) _) (Nat.le_refl _) _⟩
      have S6 : Hid (I9 C i w w.heap.size p #[.int .i64 (i : Int), .int .i64 op, .int .i64 0, .int .i64 0, .slice none 0 0] i1 wr1 w5) := (unhide S5).below f5
      have hrow : (w4.alloc (.cells #[.nilFunc, .nilFunc, .nilFunc, .nilFunc] 71)).heap[w4.heap.size]? = some (.cells #[.nilFunc, .nilFunc, .nilFunc, .nilFunc] 71 (0, 0)) := heap_alloc_last _ _
      have HROW := hide hrow
      have hpO : ¬ p = w4.heap.size := by have := lt_of_heap (unhide S5).hp; omega
      have hOp : ¬ w4.heap.size = p := fun e => hpO e.symm
      have hRO : ¬ w.heap.size = w4.heap.size := by have := lt_of_heap (unhide S5).hR; omega
      have hRp : ¬ w.heap.size = p := (unhide S5).ne
      have hpR : ¬ p = w.heap.size := fun e => hRp e.symm
      have HO5 := hide hb5
      obtain ⟨k0, k1, k2, k3⟩ := hb5.cells
      obtain ⟨⟨p0, p1, p2, p3, p4⟩, z1, ⟨r0, r1, r2, r3, r4⟩, z2⟩ := (unhide S6).cells
      clear hb5 f5 hrow
      have jn0 : ∀ W, (binOp .neq 1 (.nilFunc) .nilFunc).run Tryd.prog W = .ok (.bool false) W := fun W => by kernel_rfl
      have jn1 : ∀ W, (binOp .neq 67 (.nilFunc) .nilFunc).run Tryd.prog W = .ok (.bool false) W := fun W => by kernel_rfl
      have jn2 : ∀ W, (binOp .neq 67 (.nilFunc) .nilFunc).run Tryd.prog W = .ok (.bool false) W := fun W => by kernel_rfl
      have jn3 : ∀ W, (binOp .neq 69 (.nilFunc) .nilFunc).run Tryd.prog W = .ok (.bool false) W := fun W => by kernel_rfl
      go_wp2_with (refine wpList_store_row rfl 71 _ _ rfl w4.heap.size #[.nilFunc, .nilFunc, .nilFunc, .nilFunc] rfl rfl 71 #[.nilFunc, .nilFunc, .nilFunc, .nilFunc] (unhide HROW) (by kernel_rfl) rfl (by simp [Value.oneCell']) ?_)
      obtain ⟨hrow, hrd, hfx⟩ := (unhide S6).fin [.int .i64 (i : Int), .int .i64 op, .int .i64 (0), .int .i64 (0), .slice none 0 0] rfl
      have hc : G9 (insK C.bs i 1 op i1) wr1 ⟨i, op, 0, 0, []⟩ i1 wr1 := G9.pure _ _ _
      have hg : G9 (insR C.bs i) wg ⟨i, op, 0, 0, []⟩ i1 wr1 := by
        rw [insR_K]
        refine (unhide HG1).1.bind ?_
        show G9 (insK C.bs i (formP op) op i1) wr1 _ _ _
        rw [← unhide HFE]
        exact hc
      have hl1 : i1 ≤ i1 := Nat.le_refl _
      have hlt : wr1 = false → i < i1 := fun e => by
        have : wr1 = false := by
          cases hwr : wr1 with
          | false => rfl
          | true => rw [hc.1 hwr] at e; cases e
        have := (unhide HG1).2.2 this
        omega
      have hfit : InsFit ⟨i, op, 0, 0, []⟩ := ⟨by simp only; omega, by simp only; omega, by simp only; omega, by simp only; omega, (fun c hc => by cases hc), by simp⟩
      refine bodyPost_ret (v := .agg #[.int .i64 (i : Int), .int .i64 op, .int .i64 (0), .int .i64 (0), .slice none 0 0]) (results_cell_row Tryd.results38 _ _ w.heap.size 38 _ (0, 0) _ rfl hrow Tryd.underlying38 rfl (by kernel_rfl)) rfl ?_
      exact ⟨⟨i, op, 0, 0, []⟩, ⟨none, 0, 0⟩, i1, wr1, rfl, Orw.nil _ _ _ _ _, hfit, hg, by have := (unhide HG1).2.1; omega, hlt, hrd, hfx⟩
    · as_aux_lemma =>
      have HFo : Hid (Calls Tryd.prog 35 #[.int .i64 op] wc fun e w' => e = .returned (.int .i64 2) ∧ Below wc.heap.size wc w') := HF0
      go_wp2_with fail
      refine (unhide HFo).mono ?_
      rintro e w3 ⟨rfl, f3⟩
      have S4 := hide ((unhide S3).below f3)
      have HRF := hide (h9refuse_any C i1 (i : Int) wr1 w3 (unhide S4).rd false)
      clear f3 HFo HF0 p0 p1 p2 p3 p4 z1
      go_wp2_with fail
      refine (unhide HRF).mono ?_
      rintro e w4 ⟨rfl, r4, f4⟩
      rw [Bool.or_false] at r4
      have S5 := hide ((unhide S4).call r4 f4)
      have o0 : w4.cell? ⟨C.X, 9, none⟩ = some (.nilFunc) := bx_cell r4.blk 9 _ rfl
      have o1 : w4.cell? ⟨C.X, 10, none⟩ = some (.func (.func 48) #[.pointer (some ⟨C.X, 0, none⟩)] #[]) := bx_cell r4.blk 10 _ rfl
      have o2 : w4.cell? ⟨C.X, 11, none⟩ = some (.nilFunc) := bx_cell r4.blk 11 _ rfl
      have o3 : w4.cell? ⟨C.X, 12, none⟩ = some (.nilFunc) := bx_cell r4.blk 12 _ rfl
      clear r4 f4 HRF
      obtain ⟨w5, e5, hb5, f5⟩ : ∃ w5, (w4.alloc (.cells #[.nilFunc, .nilFunc, .nilFunc, .nilFunc] 71)).setRow w4.heap.size #[.nilFunc, .func (.func 48) #[.pointer (some ⟨C.X, 0, none⟩)] #[], .nilFunc, .nilFunc] = w5 ∧ o4 w4.heap.size #[.nilFunc, .func (.func 48) #[.pointer (some ⟨C.X, 0, none⟩)] #[], .nilFunc, .nilFunc] w5 ∧ Below w4.heap.size w4 w5 := ⟨_, rfl, setRow_heap _ _ _ _ _ _ (heap_alloc_last _ _), below_setRow (bA (Below.refl _ _) _) (Nat.le_refl _) _⟩
      have S6 : Hid (I9 C i w w.heap.size p #[.int .i64 (i : Int), .int .i64 op, .int .i64 0, .int .i64 0, .slice none 0 0] i1 wr1 w5) := (unhide S5).below f5
      have hrow : (w4.alloc (.cells #[.nilFunc, .nilFunc, .nilFunc, .nilFunc] 71)).heap[w4.heap.size]? = some (.cells #[.nilFunc, .nilFunc, .nilFunc, .nilFunc] 71 (0, 0)) := heap_alloc_last _ _
      have HROW := hide hrow
      have hpO : ¬ p = w4.heap.size := by have := lt_of_heap (unhide S5).hp; omega
      have hOp : ¬ w4.heap.size = p := fun e => hpO e.symm
      have hRO : ¬ w.heap.size = w4.heap.size := by have := lt_of_heap (unhide S5).hR; omega
      have hRp : ¬ w.heap.size = p := (unhide S5).ne
      have hpR : ¬ p = w.heap.size := fun e => hRp e.symm
      have HO5 := hide hb5
      obtain ⟨k0, k1, k2, k3⟩ := hb5.cells
      obtain ⟨⟨p0, p1, p2, p3, p4⟩, z1, ⟨r0, r1, r2, r3, r4⟩, z2⟩ := (unhide S6).cells
      clear hb5 f5 hrow
      have jn0 : ∀ W, (binOp .neq 1 (.nilFunc) .nilFunc).run Tryd.prog W = .ok (.bool false) W := fun W => by kernel_rfl
      have jn1 : ∀ W, (binOp .neq 67 (.func (.func 48) #[.pointer (some ⟨C.X, 0, none⟩)] #[]) .nilFunc).run Tryd.prog W = .ok (.bool true) W := fun W => by kernel_rfl
      have jn2 : ∀ W, (binOp .neq 67 (.nilFunc) .nilFunc).run Tryd.prog W = .ok (.bool false) W := fun W => by kernel_rfl
      have jn3 : ∀ W, (binOp .neq 69 (.nilFunc) .nilFunc).run Tryd.prog W = .ok (.bool false) W := fun W => by kernel_rfl
      go_wp2_with (refine wpList_store_row rfl 71 _ _ rfl w4.heap.size #[.nilFunc, .func (.func 48) #[.pointer (some ⟨C.X, 0, none⟩)] #[], .nilFunc, .nilFunc] rfl rfl 71 #[.nilFunc, .nilFunc, .nilFunc, .nilFunc] (unhide HROW) (by kernel_rfl) rfl (by simp [Value.oneCell']) ?_)
      have HC7 := hide (h9s1_any C i1 (i : Int) wr1 w5 (unhide S6).rd)
      refine (unhide HC7).mono ?_
      rintro e w7a ⟨n7, j7, wr7, rfl, g7, le7, fi7, fs7, hx7, rd7, fx7⟩
      have T7 := hide ((unhide S6).call rd7 fx7)
      have OT7 := hide ((unhide HO5).call (unhide S6).rd fx7)
      have S7 := hide ((unhide T7).set 2 (.int .i64 n7))
      have HO7 := hide ((unhide OT7).set (unhide T7).hp 2 (.int .i64 n7))
      have GG7 := hide (And.intro g7 le7)
      clear k0 k1 k2 k3 p0 p1 p2 p3 p4 z1 r0 r1 r2 r3 r4 z2 g7 le7 rd7 fx7 HC7
      obtain ⟨⟨p0, p1, p2, p3, p4⟩, z1, ⟨r0, r1, r2, r3, r4⟩, z2⟩ := (unhide T7).cells
      obtain ⟨k0, k1, k2, k3⟩ := (unhide OT7).cells
      obtain ⟨⟨pp0, pp1, pp2, pp3, pp4⟩, zz1, ⟨rr0, rr1, rr2, rr3, rr4⟩, zz2⟩ := (unhide S7).cells
      obtain ⟨kk0, kk1, kk2, kk3⟩ := (unhide HO7).cells
      go_wp2_with fail
      obtain ⟨hrow, hrd, hfx⟩ := (unhide S7).fin [.int .i64 (i : Int), .int .i64 op, .int .i64 (n7), .int .i64 (0), .slice none 0 0] rfl
      have hc : G9 (insK C.bs i 2 op i1) wr1 ⟨i, op, n7, 0, []⟩ j7 wr7 := (unhide GG7).1.bind (G9.pure _ _ _)
      have hg : G9 (insR C.bs i) wg ⟨i, op, n7, 0, []⟩ j7 wr7 := by
        rw [insR_K]
        refine (unhide HG1).1.bind ?_
        show G9 (insK C.bs i (formP op) op i1) wr1 _ _ _
        rw [← unhide HFE]
        exact hc
      have hl1 : i1 ≤ j7 := Nat.le_trans (Nat.le_refl _) (unhide GG7).2
      have hlt : wr7 = false → i < j7 := fun e => by
        have : wr1 = false := by
          cases hwr : wr1 with
          | false => rfl
          | true => rw [hc.1 hwr] at e; cases e
        have := (unhide HG1).2.2 this
        omega
      have hfit : InsFit ⟨i, op, n7, 0, []⟩ := ⟨by simp only; omega, by simp only; omega, by simp only; omega, by simp only; omega, (fun c hc => by cases hc), by simp⟩
      refine bodyPost_ret (v := .agg #[.int .i64 (i : Int), .int .i64 op, .int .i64 (n7), .int .i64 (0), .slice none 0 0]) (results_cell_row Tryd.results38 _ _ w.heap.size 38 _ (0, 0) _ rfl hrow Tryd.underlying38 rfl (by kernel_rfl)) rfl ?_
      exact ⟨⟨i, op, n7, 0, []⟩, ⟨none, 0, 0⟩, j7, wr7, rfl, Orw.nil _ _ _ _ _, hfit, hg, by have := (unhide HG1).2.1; omega, hlt, hrd, hfx⟩
    · as_aux_lemma =>
      have HFo : Hid (Calls Tryd.prog 35 #[.int .i64 op] wc fun e w' => e = .returned (.int .i64 3) ∧ Below wc.heap.size wc w') := HF0
      go_wp2_with fail
      refine (unhide HFo).mono ?_
      rintro e w3 ⟨rfl, f3⟩
      have S4 := hide ((unhide S3).below f3)
      have HRF := hide (h9refuse_any C i1 (i : Int) wr1 w3 (unhide S4).rd false)
      clear f3 HFo HF0 p0 p1 p2 p3 p4 z1
      go_wp2_with fail
      refine (unhide HRF).mono ?_
      rintro e w4 ⟨rfl, r4, f4⟩
      rw [Bool.or_false] at r4
      have S5 := hide ((unhide S4).call r4 f4)
      have o0 : w4.cell? ⟨C.X, 13, none⟩ = some (.nilFunc) := bx_cell r4.blk 13 _ rfl
      have o1 : w4.cell? ⟨C.X, 14, none⟩ = some (.func (.func 49) #[.pointer (some ⟨C.X, 0, none⟩)] #[]) := bx_cell r4.blk 14 _ rfl
      have o2 : w4.cell? ⟨C.X, 15, none⟩ = some (.nilFunc) := bx_cell r4.blk 15 _ rfl
      have o3 : w4.cell? ⟨C.X, 16, none⟩ = some (.nilFunc) := bx_cell r4.blk 16 _ rfl
      clear r4 f4 HRF
      obtain ⟨w5, e5, hb5, f5⟩ : ∃ w5, (w4.alloc (.cells #[.nilFunc, .nilFunc, .nilFunc, .nilFunc] 71)).setRow w4.heap.size #[.nilFunc, .func (.func 49) #[.pointer (some ⟨C.X, 0, none⟩)] #[], .nilFunc, .nilFunc] = w5 ∧ o4 w4.heap.size #[.nilFunc, .func (.func 49) #[.pointer (some ⟨C.X, 0, none⟩)] #[], .nilFunc, .nilFunc] w5 ∧ Below w4.heap.size w4 w5 := ⟨_, rfl, setRow_heap _ _ _ _ _ _ (heap_alloc_last _ _), below_setRow (bA (Below.refl _ _) _) (Nat.le_refl _) _⟩
      have S6 : Hid (I9 C i w w.heap.size p #[.int .i64 (i : Int), .int .i64 op, .int .i64 0, .int .i64 0, .slice none 0 0] i1 wr1 w5) := (unhide S5).below f5
      have hrow : (w4.alloc (.cells #[.nilFunc, .nilFunc, .nilFunc, .nilFunc] 71)).heap[w4.heap.size]? = some (.cells #[.nilFunc, .nilFunc, .nilFunc, .nilFunc] 71 (0, 0)) := heap_alloc_last _ _
      have HROW := hide hrow
      have hpO : ¬ p = w4.heap.size := by have := lt_of_heap (unhide S5).hp; omega
      have hOp : ¬ w4.heap.size = p := fun e => hpO e.symm
      have hRO : ¬ w.heap.size = w4.heap.size := by have := lt_of_heap (unhide S5).hR; omega
      have hRp : ¬ w.heap.size = p := (unhide S5).ne
      have hpR : ¬ p = w.heap.size := fun e => hRp e.symm
      have HO5 := hide hb5
      obtain ⟨k0, k1, k2, k3⟩ := hb5.cells
      obtain ⟨⟨p0, p1, p2, p3, p4⟩, z1, ⟨r0, r1, r2, r3, r4⟩, z2⟩ := (unhide S6).cells
      clear hb5 f5 hrow
      have jn0 : ∀ W, (binOp .neq 1 (.nilFunc) .nilFunc).run Tryd.prog W = .ok (.bool false) W := fun W => by kernel_rfl
      have jn1 : ∀ W, (binOp .neq 67 (.func (.func 49) #[.pointer (some ⟨C.X, 0, none⟩)] #[]) .nilFunc).run Tryd.prog W = .ok (.bool true) W := fun W => by kernel_rfl
      have jn2 : ∀ W, (binOp .neq 67 (.nilFunc) .nilFunc).run Tryd.prog W = .ok (.bool false) W := fun W => by kernel_rfl
      have jn3 : ∀ W, (binOp .neq 69 (.nilFunc) .nilFunc).run Tryd.prog W = .ok (.bool false) W := fun W => by kernel_rfl
      go_wp2_with (refine wpList_store_row rfl 71 _ _ rfl w4.heap.size #[.nilFunc, .func (.func 49) #[.pointer (some ⟨C.X, 0, none⟩)] #[], .nilFunc, .nilFunc] rfl rfl 71 #[.nilFunc, .nilFunc, .nilFunc, .nilFunc] (unhide HROW) (by kernel_rfl) rfl (by simp [Value.oneCell']) ?_)
      have HC7 := hide (h9s2_any C i1 (i : Int) wr1 w5 (unhide S6).rd)
      refine (unhide HC7).mono ?_
      rintro e w7a ⟨n7, j7, wr7, rfl, g7, le7, fi7, fs7, hx7, rd7, fx7⟩
      have T7 := hide ((unhide S6).call rd7 fx7)
      have OT7 := hide ((unhide HO5).call (unhide S6).rd fx7)
      have S7 := hide ((unhide T7).set 2 (.int .i64 n7))
      have HO7 := hide ((unhide OT7).set (unhide T7).hp 2 (.int .i64 n7))
      have GG7 := hide (And.intro g7 le7)
      clear k0 k1 k2 k3 p0 p1 p2 p3 p4 z1 r0 r1 r2 r3 r4 z2 g7 le7 rd7 fx7 HC7
      obtain ⟨⟨p0, p1, p2, p3, p4⟩, z1, ⟨r0, r1, r2, r3, r4⟩, z2⟩ := (unhide T7).cells
      obtain ⟨k0, k1, k2, k3⟩ := (unhide OT7).cells
      obtain ⟨⟨pp0, pp1, pp2, pp3, pp4⟩, zz1, ⟨rr0, rr1, rr2, rr3, rr4⟩, zz2⟩ := (unhide S7).cells
      obtain ⟨kk0, kk1, kk2, kk3⟩ := (unhide HO7).cells
      go_wp2_with fail
      obtain ⟨hrow, hrd, hfx⟩ := (unhide S7).fin [.int .i64 (i : Int), .int .i64 op, .int .i64 (n7), .int .i64 (0), .slice none 0 0] rfl
      have hc : G9 (insK C.bs i 3 op i1) wr1 ⟨i, op, n7, 0, []⟩ j7 wr7 := (unhide GG7).1.bind (G9.pure _ _ _)
      have hg : G9 (insR C.bs i) wg ⟨i, op, n7, 0, []⟩ j7 wr7 := by
        rw [insR_K]
        refine (unhide HG1).1.bind ?_
        show G9 (insK C.bs i (formP op) op i1) wr1 _ _ _
        rw [← unhide HFE]
        exact hc
      have hl1 : i1 ≤ j7 := Nat.le_trans (Nat.le_refl _) (unhide GG7).2
      have hlt : wr7 = false → i < j7 := fun e => by
        have : wr1 = false := by
          cases hwr : wr1 with
          | false => rfl
          | true => rw [hc.1 hwr] at e; cases e
        have := (unhide HG1).2.2 this
        omega
      have hfit : InsFit ⟨i, op, n7, 0, []⟩ := ⟨by simp only; omega, by simp only; omega, by simp only; omega, by simp only; omega, (fun c hc => by cases hc), by simp⟩
      refine bodyPost_ret (v := .agg #[.int .i64 (i : Int), .int .i64 op, .int .i64 (n7), .int .i64 (0), .slice none 0 0]) (results_cell_row Tryd.results38 _ _ w.heap.size 38 _ (0, 0) _ rfl hrow Tryd.underlying38 rfl (by kernel_rfl)) rfl ?_
      exact ⟨⟨i, op, n7, 0, []⟩, ⟨none, 0, 0⟩, j7, wr7, rfl, Orw.nil _ _ _ _ _, hfit, hg, by have := (unhide HG1).2.1; omega, hlt, hrd, hfx⟩
    · as_aux_lemma =>
      have HFo : Hid (Calls Tryd.prog 35 #[.int .i64 op] wc fun e w' => e = .returned (.int .i64 4) ∧ Below wc.heap.size wc w') := HF0
      go_wp2_with fail
      refine (unhide HFo).mono ?_
      rintro e w3 ⟨rfl, f3⟩
      have S4 := hide ((unhide S3).below f3)
      have HRF := hide (h9refuse_any C i1 (i : Int) wr1 w3 (unhide S4).rd false)
      clear f3 HFo HF0 p0 p1 p2 p3 p4 z1
      go_wp2_with fail
      refine (unhide HRF).mono ?_
      rintro e w4 ⟨rfl, r4, f4⟩
      rw [Bool.or_false] at r4
      have S5 := hide ((unhide S4).call r4 f4)
      have o0 : w4.cell? ⟨C.X, 17, none⟩ = some (.nilFunc) := bx_cell r4.blk 17 _ rfl
      have o1 : w4.cell? ⟨C.X, 18, none⟩ = some (.func (.func 50) #[.pointer (some ⟨C.X, 0, none⟩)] #[]) := bx_cell r4.blk 18 _ rfl
      have o2 : w4.cell? ⟨C.X, 19, none⟩ = some (.nilFunc) := bx_cell r4.blk 19 _ rfl
      have o3 : w4.cell? ⟨C.X, 20, none⟩ = some (.nilFunc) := bx_cell r4.blk 20 _ rfl
      clear r4 f4 HRF
      obtain ⟨w5, e5, hb5, f5⟩ : ∃ w5, (w4.alloc (.cells #[.nilFunc, .nilFunc, .nilFunc, .nilFunc] 71)).setRow w4.heap.size #[.nilFunc, .func (.func 50) #[.pointer (some ⟨C.X, 0, none⟩)] #[], .nilFunc, .nilFunc] = w5 ∧ o4 w4.heap.size #[.nilFunc, .func (.func 50) #[.pointer (some ⟨C.X, 0, none⟩)] #[], .nilFunc, .nilFunc] w5 ∧ Below w4.heap.size w4 w5 := ⟨_, rfl, setRow_heap _ _ _ _ _ _ (heap_alloc_last _ _), below_setRow (bA (Below.refl _ _) _) (Nat.le_refl _) _⟩
      have S6 : Hid (I9 C i w w.heap.size p #[.int .i64 (i : Int), .int .i64 op, .int .i64 0, .int .i64 0, .slice none 0 0] i1 wr1 w5) := (unhide S5).below f5
      have hrow : (w4.alloc (.cells #[.nilFunc, .nilFunc, .nilFunc, .nilFunc] 71)).heap[w4.heap.size]? = some (.cells #[.nilFunc, .nilFunc, .nilFunc, .nilFunc] 71 (0, 0)) := heap_alloc_last _ _
      have HROW := hide hrow
      have hpO : ¬ p = w4.heap.size := by have := lt_of_heap (unhide S5).hp; omega
      have hOp : ¬ w4.heap.size = p := fun e => hpO e.symm
      have hRO : ¬ w.heap.size = w4.heap.size := by have := lt_of_heap (unhide S5).hR; omega
      have hRp : ¬ w.heap.size = p := (unhide S5).ne
      have hpR : ¬ p = w.heap.size := fun e => hRp e.symm
      have HO5 := hide hb5
      obtain ⟨k0, k1, k2, k3⟩ := hb5.cells
      obtain ⟨⟨p0, p1, p2, p3, p4⟩, z1, ⟨r0, r1, r2, r3, r4⟩, z2⟩ := (unhide S6).cells
      clear hb5 f5 hrow
      have jn0 : ∀ W, (binOp .neq 1 (.nilFunc) .nilFunc).run Tryd.prog W = .ok (.bool false) W := fun W => by kernel_rfl
      have jn1 : ∀ W, (binOp .neq 67 (.func (.func 50) #[.pointer (some ⟨C.X, 0, none⟩)] #[]) .nilFunc).run Tryd.prog W = .ok (.bool true) W := fun W => by kernel_rfl
      have jn2 : ∀ W, (binOp .neq 67 (.nilFunc) .nilFunc).run Tryd.prog W = .ok (.bool false) W := fun W => by kernel_rfl
      have jn3 : ∀ W, (binOp .neq 69 (.nilFunc) .nilFunc).run Tryd.prog W = .ok (.bool false) W := fun W => by kernel_rfl
      go_wp2_with (refine wpList_store_row rfl 71 _ _ rfl w4.heap.size #[.nilFunc, .func (.func 50) #[.pointer (some ⟨C.X, 0, none⟩)] #[], .nilFunc, .nilFunc] rfl rfl 71 #[.nilFunc, .nilFunc, .nilFunc, .nilFunc] (unhide HROW) (by kernel_rfl) rfl (by simp [Value.oneCell']) ?_)
      have HC7 := hide (h9u1_any C i1 (i : Int) wr1 w5 (unhide S6).rd)
      refine (unhide HC7).mono ?_
      rintro e w7a ⟨n7, j7, wr7, rfl, g7, le7, fi7, fs7, hx7, rd7, fx7⟩
      have T7 := hide ((unhide S6).call rd7 fx7)
      have OT7 := hide ((unhide HO5).call (unhide S6).rd fx7)
      have S7 := hide ((unhide T7).set 2 (.int .i64 n7))
      have HO7 := hide ((unhide OT7).set (unhide T7).hp 2 (.int .i64 n7))
      have GG7 := hide (And.intro g7 le7)
      clear k0 k1 k2 k3 p0 p1 p2 p3 p4 z1 r0 r1 r2 r3 r4 z2 g7 le7 rd7 fx7 HC7
      obtain ⟨⟨p0, p1, p2, p3, p4⟩, z1, ⟨r0, r1, r2, r3, r4⟩, z2⟩ := (unhide T7).cells
      obtain ⟨k0, k1, k2, k3⟩ := (unhide OT7).cells
      obtain ⟨⟨pp0, pp1, pp2, pp3, pp4⟩, zz1, ⟨rr0, rr1, rr2, rr3, rr4⟩, zz2⟩ := (unhide S7).cells
      obtain ⟨kk0, kk1, kk2, kk3⟩ := (unhide HO7).cells
      go_wp2_with fail
      obtain ⟨hrow, hrd, hfx⟩ := (unhide S7).fin [.int .i64 (i : Int), .int .i64 op, .int .i64 (n7), .int .i64 (0), .slice none 0 0] rfl
      have hc : G9 (insK C.bs i 4 op i1) wr1 ⟨i, op, n7, 0, []⟩ j7 wr7 := (unhide GG7).1.bind (G9.pure _ _ _)
      have hg : G9 (insR C.bs i) wg ⟨i, op, n7, 0, []⟩ j7 wr7 := by
        rw [insR_K]
        refine (unhide HG1).1.bind ?_
        show G9 (insK C.bs i (formP op) op i1) wr1 _ _ _
        rw [← unhide HFE]
        exact hc
      have hl1 : i1 ≤ j7 := Nat.le_trans (Nat.le_refl _) (unhide GG7).2
      have hlt : wr7 = false → i < j7 := fun e => by
        have : wr1 = false := by
          cases hwr : wr1 with
          | false => rfl
          | true => rw [hc.1 hwr] at e; cases e
        have := (unhide HG1).2.2 this
        omega
      have hfit : InsFit ⟨i, op, n7, 0, []⟩ := ⟨by simp only; omega, by simp only; omega, by simp only; omega, by simp only; omega, (fun c hc => by cases hc), by simp⟩
      refine bodyPost_ret (v := .agg #[.int .i64 (i : Int), .int .i64 op, .int .i64 (n7), .int .i64 (0), .slice none 0 0]) (results_cell_row Tryd.results38 _ _ w.heap.size 38 _ (0, 0) _ rfl hrow Tryd.underlying38 rfl (by kernel_rfl)) rfl ?_
      exact ⟨⟨i, op, n7, 0, []⟩, ⟨none, 0, 0⟩, j7, wr7, rfl, Orw.nil _ _ _ _ _, hfit, hg, by have := (unhide HG1).2.1; omega, hlt, hrd, hfx⟩
    · as_aux_lemma =>
      have HFo : Hid (Calls Tryd.prog 35 #[.int .i64 op] wc fun e w' => e = .returned (.int .i64 5) ∧ Below wc.heap.size wc w') := HF0
      go_wp2_with fail
      refine (unhide HFo).mono ?_
      rintro e w3 ⟨rfl, f3⟩
      have S4 := hide ((unhide S3).below f3)
      have HRF := hide (h9refuse_any C i1 (i : Int) wr1 w3 (unhide S4).rd false)
      clear f3 HFo HF0 p0 p1 p2 p3 p4 z1
      go_wp2_with fail
      refine (unhide HRF).mono ?_
      rintro e w4 ⟨rfl, r4, f4⟩
      rw [Bool.or_false] at r4
      have S5 := hide ((unhide S4).call r4 f4)
      have o0 : w4.cell? ⟨C.X, 21, none⟩ = some (.nilFunc) := bx_cell r4.blk 21 _ rfl
      have o1 : w4.cell? ⟨C.X, 22, none⟩ = some (.func (.func 51) #[.pointer (some ⟨C.X, 0, none⟩)] #[]) := bx_cell r4.blk 22 _ rfl
      have o2 : w4.cell? ⟨C.X, 23, none⟩ = some (.nilFunc) := bx_cell r4.blk 23 _ rfl
      have o3 : w4.cell? ⟨C.X, 24, none⟩ = some (.nilFunc) := bx_cell r4.blk 24 _ rfl
      clear r4 f4 HRF
      obtain ⟨w5, e5, hb5, f5⟩ : ∃ w5, (w4.alloc (.cells #[.nilFunc, .nilFunc, .nilFunc, .nilFunc] 71)).setRow w4.heap.size #[.nilFunc, .func (.func 51) #[.pointer (some ⟨C.X, 0, none⟩)] #[], .nilFunc, .nilFunc] = w5 ∧ o4 w4.heap.size #[.nilFunc, .func (.func 51) #[.pointer (some ⟨C.X, 0, none⟩)] #[], .nilFunc, .nilFunc] w5 ∧ Below w4.heap.size w4 w5 := ⟨_, rfl, setRow_heap _ _ _ _ _ _ (heap_alloc_last _ _), below_setRow (bA (Below.refl _ _) _) (Nat.le_refl _) _⟩
      have S6 : Hid (I9 C i w w.heap.size p #[.int .i64 (i : Int), .int .i64 op, .int .i64 0, .int .i64 0, .slice none 0 0] i1 wr1 w5) := (unhide S5).below f5
      have hrow : (w4.alloc (.cells #[.nilFunc, .nilFunc, .nilFunc, .nilFunc] 71)).heap[w4.heap.size]? = some (.cells #[.nilFunc, .nilFunc, .nilFunc, .nilFunc] 71 (0, 0)) := heap_alloc_last _ _
      have HROW := hide hrow
      have hpO : ¬ p = w4.heap.size := by have := lt_of_heap (unhide S5).hp; omega
      have hOp : ¬ w4.heap.size = p := fun e => hpO e.symm
      have hRO : ¬ w.heap.size = w4.heap.size := by have := lt_of_heap (unhide S5).hR; omega
      have hRp : ¬ w.heap.size = p := (unhide S5).ne
      have hpR : ¬ p = w.heap.size := fun e => hRp e.symm
      have HO5 := hide hb5
      obtain ⟨k0, k1, k2, k3⟩ := hb5.cells
      obtain ⟨⟨p0, p1, p2, p3, p4⟩, z1, ⟨r0, r1, r2, r3, r4⟩, z2⟩ := (unhide S6).cells
      clear hb5 f5 hrow
      have jn0 : ∀ W, (binOp .neq 1 (.nilFunc) .nilFunc).run Tryd.prog W = .ok (.bool false) W := fun W => by kernel_rfl
      have jn1 : ∀ W, (binOp .neq 67 (.func (.func 51) #[.pointer (some ⟨C.X, 0, none⟩)] #[]) .nilFunc).run Tryd.prog W = .ok (.bool true) W := fun W => by kernel_rfl
      have jn2 : ∀ W, (binOp .neq 67 (.nilFunc) .nilFunc).run Tryd.prog W = .ok (.bool false) W := fun W => by kernel_rfl
      have jn3 : ∀ W, (binOp .neq 69 (.nilFunc) .nilFunc).run Tryd.prog W = .ok (.bool false) W := fun W => by kernel_rfl
      go_wp2_with (refine wpList_store_row rfl 71 _ _ rfl w4.heap.size #[.nilFunc, .func (.func 51) #[.pointer (some ⟨C.X, 0, none⟩)] #[], .nilFunc, .nilFunc] rfl rfl 71 #[.nilFunc, .nilFunc, .nilFunc, .nilFunc] (unhide HROW) (by kernel_rfl) rfl (by simp [Value.oneCell']) ?_)
      have HC7 := hide (h9u2_any C i1 (i : Int) wr1 w5 (unhide S6).rd)
      refine (unhide HC7).mono ?_
      rintro e w7a ⟨n7, j7, wr7, rfl, g7, le7, fi7, fs7, hx7, rd7, fx7⟩
      have T7 := hide ((unhide S6).call rd7 fx7)
      have OT7 := hide ((unhide HO5).call (unhide S6).rd fx7)
      have S7 := hide ((unhide T7).set 2 (.int .i64 n7))
      have HO7 := hide ((unhide OT7).set (unhide T7).hp 2 (.int .i64 n7))
      have GG7 := hide (And.intro g7 le7)
      clear k0 k1 k2 k3 p0 p1 p2 p3 p4 z1 r0 r1 r2 r3 r4 z2 g7 le7 rd7 fx7 HC7
      obtain ⟨⟨p0, p1, p2, p3, p4⟩, z1, ⟨r0, r1, r2, r3, r4⟩, z2⟩ := (unhide T7).cells
      obtain ⟨k0, k1, k2, k3⟩ := (unhide OT7).cells
      obtain ⟨⟨pp0, pp1, pp2, pp3, pp4⟩, zz1, ⟨rr0, rr1, rr2, rr3, rr4⟩, zz2⟩ := (unhide S7).cells
      obtain ⟨kk0, kk1, kk2, kk3⟩ := (unhide HO7).cells
      go_wp2_with fail
      obtain ⟨hrow, hrd, hfx⟩ := (unhide S7).fin [.int .i64 (i : Int), .int .i64 op, .int .i64 (n7), .int .i64 (0), .slice none 0 0] rfl
      have hc : G9 (insK C.bs i 5 op i1) wr1 ⟨i, op, n7, 0, []⟩ j7 wr7 := (unhide GG7).1.bind (G9.pure _ _ _)
      have hg : G9 (insR C.bs i) wg ⟨i, op, n7, 0, []⟩ j7 wr7 := by
        rw [insR_K]
        refine (unhide HG1).1.bind ?_
        show G9 (insK C.bs i (formP op) op i1) wr1 _ _ _
        rw [← unhide HFE]
        exact hc
      have hl1 : i1 ≤ j7 := Nat.le_trans (Nat.le_refl _) (unhide GG7).2
      have hlt : wr7 = false → i < j7 := fun e => by
        have : wr1 = false := by
          cases hwr : wr1 with
          | false => rfl
          | true => rw [hc.1 hwr] at e; cases e
        have := (unhide HG1).2.2 this
        omega
      have hfit : InsFit ⟨i, op, n7, 0, []⟩ := ⟨by simp only; omega, by simp only; omega, by simp only; omega, by simp only; omega, (fun c hc => by cases hc), by simp⟩
      refine bodyPost_ret (v := .agg #[.int .i64 (i : Int), .int .i64 op, .int .i64 (n7), .int .i64 (0), .slice none 0 0]) (results_cell_row Tryd.results38 _ _ w.heap.size 38 _ (0, 0) _ rfl hrow Tryd.underlying38 rfl (by kernel_rfl)) rfl ?_
      exact ⟨⟨i, op, n7, 0, []⟩, ⟨none, 0, 0⟩, j7, wr7, rfl, Orw.nil _ _ _ _ _, hfit, hg, by have := (unhide HG1).2.1; omega, hlt, hrd, hfx⟩
    · as_aux_lemma =>
      have HFo : Hid (Calls Tryd.prog 35 #[.int .i64 op] wc fun e w' => e = .returned (.int .i64 6) ∧ Below wc.heap.size wc w') := HF0
      go_wp2_with fail
      refine (unhide HFo).mono ?_
      rintro e w3 ⟨rfl, f3⟩
      have S4 := hide ((unhide S3).below f3)
      have HRF := hide (h9refuse_any C i1 (i : Int) wr1 w3 (unhide S4).rd false)
      clear f3 HFo HF0 p0 p1 p2 p3 p4 z1
      go_wp2_with fail
      refine (unhide HRF).mono ?_
      rintro e w4 ⟨rfl, r4, f4⟩
      rw [Bool.or_false] at r4
      have S5 := hide ((unhide S4).call r4 f4)
      have o0 : w4.cell? ⟨C.X, 25, none⟩ = some (.nilFunc) := bx_cell r4.blk 25 _ rfl
      have o1 : w4.cell? ⟨C.X, 26, none⟩ = some (.func (.func 50) #[.pointer (some ⟨C.X, 0, none⟩)] #[]) := bx_cell r4.blk 26 _ rfl
      have o2 : w4.cell? ⟨C.X, 27, none⟩ = some (.func (.func 48) #[.pointer (some ⟨C.X, 0, none⟩)] #[]) := bx_cell r4.blk 27 _ rfl
      have o3 : w4.cell? ⟨C.X, 28, none⟩ = some (.nilFunc) := bx_cell r4.blk 28 _ rfl
      clear r4 f4 HRF
      obtain ⟨w5, e5, hb5, f5⟩ : ∃ w5, (w4.alloc (.cells #[.nilFunc, .nilFunc, .nilFunc, .nilFunc] 71)).setRow w4.heap.size #[.nilFunc, .func (.func 50) #[.pointer (some ⟨C.X, 0, none⟩)] #[], .func (.func 48) #[.pointer (some ⟨C.X, 0, none⟩)] #[], .nilFunc] = w5 ∧ o4 w4.heap.size #[.nilFunc, .func (.func 50) #[.pointer (some ⟨C.X, 0, none⟩)] #[], .func (.func 48) #[.pointer (some ⟨C.X, 0, none⟩)] #[], .nilFunc] w5 ∧ Below w4.heap.size w4 w5 := ⟨_, rfl, setRow_heap _ _ _ _ _ _ (heap_alloc_last _ _), below_setRow (bA (Below.refl _ _) _) (Nat.le_refl _) _⟩
      have S6 : Hid (I9 C i w w.heap.size p #[.int .i64 (i : Int), .int .i64 op, .int .i64 0, .int .i64 0, .slice none 0 0] i1 wr1 w5) := (unhide S5).below f5
      have hrow : (w4.alloc (.cells #[.nilFunc, .nilFunc, .nilFunc, .nilFunc] 71)).heap[w4.heap.size]? = some (.cells #[.nilFunc, .nilFunc, .nilFunc, .nilFunc] 71 (0, 0)) := heap_alloc_last _ _
      have HROW := hide hrow
      have hpO : ¬ p = w4.heap.size := by have := lt_of_heap (unhide S5).hp; omega
      have hOp : ¬ w4.heap.size = p := fun e => hpO e.symm
      have hRO : ¬ w.heap.size = w4.heap.size := by have := lt_of_heap (unhide S5).hR; omega
      have hRp : ¬ w.heap.size = p := (unhide S5).ne
      have hpR : ¬ p = w.heap.size := fun e => hRp e.symm
      have HO5 := hide hb5
      obtain ⟨k0, k1, k2, k3⟩ := hb5.cells
      obtain ⟨⟨p0, p1, p2, p3, p4⟩, z1, ⟨r0, r1, r2, r3, r4⟩, z2⟩ := (unhide S6).cells
      clear hb5 f5 hrow
      have jn0 : ∀ W, (binOp .neq 1 (.nilFunc) .nilFunc).run Tryd.prog W = .ok (.bool false) W := fun W => by kernel_rfl
      have jn1 : ∀ W, (binOp .neq 67 (.func (.func 50) #[.pointer (some ⟨C.X, 0, none⟩)] #[]) .nilFunc).run Tryd.prog W = .ok (.bool true) W := fun W => by kernel_rfl
      have jn2 : ∀ W, (binOp .neq 67 (.func (.func 48) #[.pointer (some ⟨C.X, 0, none⟩)] #[]) .nilFunc).run Tryd.prog W = .ok (.bool true) W := fun W => by kernel_rfl
      have jn3 : ∀ W, (binOp .neq 69 (.nilFunc) .nilFunc).run Tryd.prog W = .ok (.bool false) W := fun W => by kernel_rfl
      go_wp2_with (refine wpList_store_row rfl 71 _ _ rfl w4.heap.size #[.nilFunc, .func (.func 50) #[.pointer (some ⟨C.X, 0, none⟩)] #[], .func (.func 48) #[.pointer (some ⟨C.X, 0, none⟩)] #[], .nilFunc] rfl rfl 71 #[.nilFunc, .nilFunc, .nilFunc, .nilFunc] (unhide HROW) (by kernel_rfl) rfl (by simp [Value.oneCell']) ?_)
      have HC7 := hide (h9u1_any C i1 (i : Int) wr1 w5 (unhide S6).rd)
      refine (unhide HC7).mono ?_
      rintro e w7a ⟨n7, j7, wr7, rfl, g7, le7, fi7, fs7, hx7, rd7, fx7⟩
      have T7 := hide ((unhide S6).call rd7 fx7)
      have OT7 := hide ((unhide HO5).call (unhide S6).rd fx7)
      have S7 := hide ((unhide T7).set 2 (.int .i64 n7))
      have HO7 := hide ((unhide OT7).set (unhide T7).hp 2 (.int .i64 n7))
      have GG7 := hide (And.intro g7 le7)
      clear k0 k1 k2 k3 p0 p1 p2 p3 p4 z1 r0 r1 r2 r3 r4 z2 g7 le7 rd7 fx7 HC7
      obtain ⟨⟨p0, p1, p2, p3, p4⟩, z1, ⟨r0, r1, r2, r3, r4⟩, z2⟩ := (unhide T7).cells
      obtain ⟨k0, k1, k2, k3⟩ := (unhide OT7).cells
      obtain ⟨⟨pp0, pp1, pp2, pp3, pp4⟩, zz1, ⟨rr0, rr1, rr2, rr3, rr4⟩, zz2⟩ := (unhide S7).cells
      obtain ⟨kk0, kk1, kk2, kk3⟩ := (unhide HO7).cells
      have HC8 := hide (h9s1_any C j7 (i : Int) wr7 (w7a.setCell ⟨p, 2, none⟩ (.int .i64 n7)) (unhide S7).rd)
      go_wp2_with fail
      refine (unhide HC8).mono ?_
      rintro e w8a ⟨n8, j8, wr8, rfl, g8, le8, fi8, fs8, hx8, rd8, fx8⟩
      have T8 := hide ((unhide S7).call rd8 fx8)
      have OT8 := hide ((unhide HO7).call (unhide S7).rd fx8)
      have S8 := hide ((unhide T8).set 3 (.int .i64 n8))
      have HO8 := hide ((unhide OT8).set (unhide T8).hp 3 (.int .i64 n8))
      have GG8 := hide (And.intro g8 le8)
      clear k0 k1 k2 k3 p0 p1 p2 p3 p4 z1 r0 r1 r2 r3 r4 z2 g8 le8 rd8 fx8 HC8
      obtain ⟨⟨p0, p1, p2, p3, p4⟩, z1, ⟨r0, r1, r2, r3, r4⟩, z2⟩ := (unhide T8).cells
      obtain ⟨k0, k1, k2, k3⟩ := (unhide OT8).cells
      obtain ⟨⟨pp0, pp1, pp2, pp3, pp4⟩, zz1, ⟨rr0, rr1, rr2, rr3, rr4⟩, zz2⟩ := (unhide S8).cells
      obtain ⟨kk0, kk1, kk2, kk3⟩ := (unhide HO8).cells
      go_wp2_with fail
      obtain ⟨hrow, hrd, hfx⟩ := (unhide S8).fin [.int .i64 (i : Int), .int .i64 op, .int .i64 (n7), .int .i64 (n8), .slice none 0 0] rfl
      have hc : G9 (insK C.bs i 6 op i1) wr1 ⟨i, op, n7, n8, []⟩ j8 wr8 := (unhide GG7).1.bind ((unhide GG8).1.bind (G9.pure _ _ _))
      have hg : G9 (insR C.bs i) wg ⟨i, op, n7, n8, []⟩ j8 wr8 := by
        rw [insR_K]
        refine (unhide HG1).1.bind ?_
        show G9 (insK C.bs i (formP op) op i1) wr1 _ _ _
        rw [← unhide HFE]
        exact hc
      have hl1 : i1 ≤ j8 := Nat.le_trans (Nat.le_trans (Nat.le_refl _) (unhide GG7).2) (unhide GG8).2
      have hlt : wr8 = false → i < j8 := fun e => by
        have : wr1 = false := by
          cases hwr : wr1 with
          | false => rfl
          | true => rw [hc.1 hwr] at e; cases e
        have := (unhide HG1).2.2 this
        omega
      have hfit : InsFit ⟨i, op, n7, n8, []⟩ := ⟨by simp only; omega, by simp only; omega, by simp only; omega, by simp only; omega, (fun c hc => by cases hc), by simp⟩
      refine bodyPost_ret (v := .agg #[.int .i64 (i : Int), .int .i64 op, .int .i64 (n7), .int .i64 (n8), .slice none 0 0]) (results_cell_row Tryd.results38 _ _ w.heap.size 38 _ (0, 0) _ rfl hrow Tryd.underlying38 rfl (by kernel_rfl)) rfl ?_
      exact ⟨⟨i, op, n7, n8, []⟩, ⟨none, 0, 0⟩, j8, wr8, rfl, Orw.nil _ _ _ _ _, hfit, hg, by have := (unhide HG1).2.1; omega, hlt, hrd, hfx⟩
    · as_aux_lemma =>
      have HFo : Hid (Calls Tryd.prog 35 #[.int .i64 op] wc fun e w' => e = .returned (.int .i64 7) ∧ Below wc.heap.size wc w') := HF0
      go_wp2_with fail
      refine (unhide HFo).mono ?_
      rintro e w3 ⟨rfl, f3⟩
      have S4 := hide ((unhide S3).below f3)
      have HRF := hide (h9refuse_any C i1 (i : Int) wr1 w3 (unhide S4).rd false)
      clear f3 HFo HF0 p0 p1 p2 p3 p4 z1
      go_wp2_with fail
      refine (unhide HRF).mono ?_
      rintro e w4 ⟨rfl, r4, f4⟩
      rw [Bool.or_false] at r4
      have S5 := hide ((unhide S4).call r4 f4)
      have o0 : w4.cell? ⟨C.X, 29, none⟩ = some (.nilFunc) := bx_cell r4.blk 29 _ rfl
      have o1 : w4.cell? ⟨C.X, 30, none⟩ = some (.func (.func 52) #[.pointer (some ⟨C.X, 0, none⟩)] #[]) := bx_cell r4.blk 30 _ rfl
      have o2 : w4.cell? ⟨C.X, 31, none⟩ = some (.nilFunc) := bx_cell r4.blk 31 _ rfl
      have o3 : w4.cell? ⟨C.X, 32, none⟩ = some (.nilFunc) := bx_cell r4.blk 32 _ rfl
      clear r4 f4 HRF
      obtain ⟨w5, e5, hb5, f5⟩ : ∃ w5, (w4.alloc (.cells #[.nilFunc, .nilFunc, .nilFunc, .nilFunc] 71)).setRow w4.heap.size #[.nilFunc, .func (.func 52) #[.pointer (some ⟨C.X, 0, none⟩)] #[], .nilFunc, .nilFunc] = w5 ∧ o4 w4.heap.size #[.nilFunc, .func (.func 52) #[.pointer (some ⟨C.X, 0, none⟩)] #[], .nilFunc, .nilFunc] w5 ∧ Below w4.heap.size w4 w5 := ⟨_, rfl, setRow_heap _ _ _ _ _ _ (heap_alloc_last _ _), below_setRow (bA (Below.refl _ _) _) (Nat.le_refl _) _⟩
      have S6 : Hid (I9 C i w w.heap.size p #[.int .i64 (i : Int), .int .i64 op, .int .i64 0, .int .i64 0, .slice none 0 0] i1 wr1 w5) := (unhide S5).below f5
      have hrow : (w4.alloc (.cells #[.nilFunc, .nilFunc, .nilFunc, .nilFunc] 71)).heap[w4.heap.size]? = some (.cells #[.nilFunc, .nilFunc, .nilFunc, .nilFunc] 71 (0, 0)) := heap_alloc_last _ _
      have HROW := hide hrow
      have hpO : ¬ p = w4.heap.size := by have := lt_of_heap (unhide S5).hp; omega
      have hOp : ¬ w4.heap.size = p := fun e => hpO e.symm
      have hRO : ¬ w.heap.size = w4.heap.size := by have := lt_of_heap (unhide S5).hR; omega
      have hRp : ¬ w.heap.size = p := (unhide S5).ne
      have hpR : ¬ p = w.heap.size := fun e => hRp e.symm
      have HO5 := hide hb5
      obtain ⟨k0, k1, k2, k3⟩ := hb5.cells
      obtain ⟨⟨p0, p1, p2, p3, p4⟩, z1, ⟨r0, r1, r2, r3, r4⟩, z2⟩ := (unhide S6).cells
      clear hb5 f5 hrow
      have jn0 : ∀ W, (binOp .neq 1 (.nilFunc) .nilFunc).run Tryd.prog W = .ok (.bool false) W := fun W => by kernel_rfl
      have jn1 : ∀ W, (binOp .neq 67 (.func (.func 52) #[.pointer (some ⟨C.X, 0, none⟩)] #[]) .nilFunc).run Tryd.prog W = .ok (.bool true) W := fun W => by kernel_rfl
      have jn2 : ∀ W, (binOp .neq 67 (.nilFunc) .nilFunc).run Tryd.prog W = .ok (.bool false) W := fun W => by kernel_rfl
      have jn3 : ∀ W, (binOp .neq 69 (.nilFunc) .nilFunc).run Tryd.prog W = .ok (.bool false) W := fun W => by kernel_rfl
      go_wp2_with (refine wpList_store_row rfl 71 _ _ rfl w4.heap.size #[.nilFunc, .func (.func 52) #[.pointer (some ⟨C.X, 0, none⟩)] #[], .nilFunc, .nilFunc] rfl rfl 71 #[.nilFunc, .nilFunc, .nilFunc, .nilFunc] (unhide HROW) (by kernel_rfl) rfl (by simp [Value.oneCell']) ?_)
      have HC7 := hide (h9near_any C i1 (i : Int) wr1 w5 (unhide S6).rd hbg)
      refine (unhide HC7).mono ?_
      rintro e w7a ⟨n7, j7, wr7, rfl, g7, le7, fi7, hx7, rd7, fx7⟩
      have T7 := hide ((unhide S6).call rd7 fx7)
      have OT7 := hide ((unhide HO5).call (unhide S6).rd fx7)
      have S7 := hide ((unhide T7).set 2 (.int .i64 ((i : Int) + n7)))
      have HO7 := hide ((unhide OT7).set (unhide T7).hp 2 (.int .i64 ((i : Int) + n7)))
      have GG7 := hide (And.intro g7 le7)
      clear k0 k1 k2 k3 p0 p1 p2 p3 p4 z1 r0 r1 r2 r3 r4 z2 g7 le7 rd7 fx7 HC7
      obtain ⟨⟨p0, p1, p2, p3, p4⟩, z1, ⟨r0, r1, r2, r3, r4⟩, z2⟩ := (unhide T7).cells
      obtain ⟨k0, k1, k2, k3⟩ := (unhide OT7).cells
      obtain ⟨⟨pp0, pp1, pp2, pp3, pp4⟩, zz1, ⟨rr0, rr1, rr2, rr3, rr4⟩, zz2⟩ := (unhide S7).cells
      obtain ⟨kk0, kk1, kk2, kk3⟩ := (unhide HO7).cells
      go_wp2_with fail
      obtain ⟨hrow, hrd, hfx⟩ := (unhide S7).fin [.int .i64 (i : Int), .int .i64 op, .int .i64 ((i : Int) + n7), .int .i64 (0), .slice none 0 0] rfl
      have hc : G9 (insK C.bs i 7 op i1) wr1 ⟨i, op, (i : Int) + n7, 0, []⟩ j7 wr7 := (unhide GG7).1.bind (G9.pure _ _ _)
      have hg : G9 (insR C.bs i) wg ⟨i, op, (i : Int) + n7, 0, []⟩ j7 wr7 := by
        rw [insR_K]
        refine (unhide HG1).1.bind ?_
        show G9 (insK C.bs i (formP op) op i1) wr1 _ _ _
        rw [← unhide HFE]
        exact hc
      have hl1 : i1 ≤ j7 := Nat.le_trans (Nat.le_refl _) (unhide GG7).2
      have hlt : wr7 = false → i < j7 := fun e => by
        have : wr1 = false := by
          cases hwr : wr1 with
          | false => rfl
          | true => rw [hc.1 hwr] at e; cases e
        have := (unhide HG1).2.2 this
        omega
      have hfit : InsFit ⟨i, op, (i : Int) + n7, 0, []⟩ := ⟨by simp only; omega, by simp only; omega, by simp only; omega, by simp only; omega, (fun c hc => by cases hc), by simp⟩
      refine bodyPost_ret (v := .agg #[.int .i64 (i : Int), .int .i64 op, .int .i64 ((i : Int) + n7), .int .i64 (0), .slice none 0 0]) (results_cell_row Tryd.results38 _ _ w.heap.size 38 _ (0, 0) _ rfl hrow Tryd.underlying38 rfl (by kernel_rfl)) rfl ?_
      exact ⟨⟨i, op, (i : Int) + n7, 0, []⟩, ⟨none, 0, 0⟩, j7, wr7, rfl, Orw.nil _ _ _ _ _, hfit, hg, by have := (unhide HG1).2.1; omega, hlt, hrd, hfx⟩
    · as_aux_lemma =>
      have HFo : Hid (Calls Tryd.prog 35 #[.int .i64 op] wc fun e w' => e = .returned (.int .i64 8) ∧ Below wc.heap.size wc w') := HF0
      go_wp2_with fail
      refine (unhide HFo).mono ?_
      rintro e w3 ⟨rfl, f3⟩
      have S4 := hide ((unhide S3).below f3)
      have HRF := hide (h9refuse_any C i1 (i : Int) wr1 w3 (unhide S4).rd false)
      clear f3 HFo HF0 p0 p1 p2 p3 p4 z1
      go_wp2_with fail
      refine (unhide HRF).mono ?_
      rintro e w4 ⟨rfl, r4, f4⟩
      rw [Bool.or_false] at r4
      have S5 := hide ((unhide S4).call r4 f4)
      have o0 : w4.cell? ⟨C.X, 33, none⟩ = some (.func (.func 53) #[.pointer (some ⟨C.X, 0, none⟩)] #[]) := bx_cell r4.blk 33 _ rfl
      have o1 : w4.cell? ⟨C.X, 34, none⟩ = some (.func (.func 54) #[.pointer (some ⟨C.X, 0, none⟩)] #[]) := bx_cell r4.blk 34 _ rfl
      have o2 : w4.cell? ⟨C.X, 35, none⟩ = some (.func (.func 55) #[.pointer (some ⟨C.X, 0, none⟩)] #[]) := bx_cell r4.blk 35 _ rfl
      have o3 : w4.cell? ⟨C.X, 36, none⟩ = some (.func (.func 56) #[.pointer (some ⟨C.X, 0, none⟩)] #[]) := bx_cell r4.blk 36 _ rfl
      clear r4 f4 HRF
      obtain ⟨w5, e5, hb5, f5⟩ : ∃ w5, (w4.alloc (.cells #[.nilFunc, .nilFunc, .nilFunc, .nilFunc] 71)).setRow w4.heap.size #[.func (.func 53) #[.pointer (some ⟨C.X, 0, none⟩)] #[], .func (.func 54) #[.pointer (some ⟨C.X, 0, none⟩)] #[], .func (.func 55) #[.pointer (some ⟨C.X, 0, none⟩)] #[], .func (.func 56) #[.pointer (some ⟨C.X, 0, none⟩)] #[]] = w5 ∧ o4 w4.heap.size #[.func (.func 53) #[.pointer (some ⟨C.X, 0, none⟩)] #[], .func (.func 54) #[.pointer (some ⟨C.X, 0, none⟩)] #[], .func (.func 55) #[.pointer (some ⟨C.X, 0, none⟩)] #[], .func (.func 56) #[.pointer (some ⟨C.X, 0, none⟩)] #[]] w5 ∧ Below w4.heap.size w4 w5 := ⟨_, rfl, setRow_heap _ _ _ _ _ _ (heap_alloc_last _ _), below_setRow (bA (Below.refl _ _) _) (Nat.le_refl _) _⟩
      have S6 : Hid (I9 C i w w.heap.size p #[.int .i64 (i : Int), .int .i64 op, .int .i64 0, .int .i64 0, .slice none 0 0] i1 wr1 w5) := (unhide S5).below f5
      have hrow : (w4.alloc (.cells #[.nilFunc, .nilFunc, .nilFunc, .nilFunc] 71)).heap[w4.heap.size]? = some (.cells #[.nilFunc, .nilFunc, .nilFunc, .nilFunc] 71 (0, 0)) := heap_alloc_last _ _
      have HROW := hide hrow
      have hpO : ¬ p = w4.heap.size := by have := lt_of_heap (unhide S5).hp; omega
      have hOp : ¬ w4.heap.size = p := fun e => hpO e.symm
      have hRO : ¬ w.heap.size = w4.heap.size := by have := lt_of_heap (unhide S5).hR; omega
      have hRp : ¬ w.heap.size = p := (unhide S5).ne
      have hpR : ¬ p = w.heap.size := fun e => hRp e.symm
      have HO5 := hide hb5
      obtain ⟨k0, k1, k2, k3⟩ := hb5.cells
      obtain ⟨⟨p0, p1, p2, p3, p4⟩, z1, ⟨r0, r1, r2, r3, r4⟩, z2⟩ := (unhide S6).cells
      clear hb5 f5 hrow
      have jn0 : ∀ W, (binOp .neq 1 (.func (.func 53) #[.pointer (some ⟨C.X, 0, none⟩)] #[]) .nilFunc).run Tryd.prog W = .ok (.bool true) W := fun W => by kernel_rfl
      have jn1 : ∀ W, (binOp .neq 67 (.func (.func 54) #[.pointer (some ⟨C.X, 0, none⟩)] #[]) .nilFunc).run Tryd.prog W = .ok (.bool true) W := fun W => by kernel_rfl
      have jn2 : ∀ W, (binOp .neq 67 (.func (.func 55) #[.pointer (some ⟨C.X, 0, none⟩)] #[]) .nilFunc).run Tryd.prog W = .ok (.bool true) W := fun W => by kernel_rfl
      have jn3 : ∀ W, (binOp .neq 69 (.func (.func 56) #[.pointer (some ⟨C.X, 0, none⟩)] #[]) .nilFunc).run Tryd.prog W = .ok (.bool true) W := fun W => by kernel_rfl
      go_wp2_with (refine wpList_store_row rfl 71 _ _ rfl w4.heap.size #[.func (.func 53) #[.pointer (some ⟨C.X, 0, none⟩)] #[], .func (.func 54) #[.pointer (some ⟨C.X, 0, none⟩)] #[], .func (.func 55) #[.pointer (some ⟨C.X, 0, none⟩)] #[], .func (.func 56) #[.pointer (some ⟨C.X, 0, none⟩)] #[]] rfl rfl 71 #[.nilFunc, .nilFunc, .nilFunc, .nilFunc] (unhide HROW) (by kernel_rfl) rfl (by simp [Value.oneCell']) ?_)
      have HC7 := hide (h9noughts_any C i1 (i : Int) wr1 w5 (unhide S6).rd)
      refine (unhide HC7).mono ?_
      rintro e w7a ⟨j7, wr7, rfl, g7, le7, rd7, fx7⟩
      have S7 := hide ((unhide S6).call rd7 fx7)
      have HO7 := hide ((unhide HO5).call (unhide S6).rd fx7)
      have GG7 := hide (And.intro g7 le7)
      clear k0 k1 k2 k3 p0 p1 p2 p3 p4 z1 r0 r1 r2 r3 r4 z2 g7 le7 rd7 fx7 HC7
      obtain ⟨k0, k1, k2, k3⟩ := (unhide HO7).cells
      obtain ⟨⟨p0, p1, p2, p3, p4⟩, z1, ⟨r0, r1, r2, r3, r4⟩, z2⟩ := (unhide S7).cells
      have HC8 := hide (h9far_any C j7 (i : Int) wr7 w7a (unhide S7).rd hbg)
      go_wp2_with fail
      refine (unhide HC8).mono ?_
      rintro e w8a ⟨n8, j8, wr8, rfl, g8, le8, fi8, hx8, rd8, fx8⟩
      have T8 := hide ((unhide S7).call rd8 fx8)
      have OT8 := hide ((unhide HO7).call (unhide S7).rd fx8)
      have S8 := hide ((unhide T8).set 2 (.int .i64 ((i : Int) + n8)))
      have HO8 := hide ((unhide OT8).set (unhide T8).hp 2 (.int .i64 ((i : Int) + n8)))
      have GG8 := hide (And.intro g8 le8)
      clear k0 k1 k2 k3 p0 p1 p2 p3 p4 z1 r0 r1 r2 r3 r4 z2 g8 le8 rd8 fx8 HC8
      obtain ⟨⟨p0, p1, p2, p3, p4⟩, z1, ⟨r0, r1, r2, r3, r4⟩, z2⟩ := (unhide T8).cells
      obtain ⟨k0, k1, k2, k3⟩ := (unhide OT8).cells
      obtain ⟨⟨pp0, pp1, pp2, pp3, pp4⟩, zz1, ⟨rr0, rr1, rr2, rr3, rr4⟩, zz2⟩ := (unhide S8).cells
      obtain ⟨kk0, kk1, kk2, kk3⟩ := (unhide HO8).cells
      have HC9 := hide (h9s4_any C j8 (i : Int) wr8 (w8a.setCell ⟨p, 2, none⟩ (.int .i64 ((i : Int) + n8))) (unhide S8).rd)
      go_wp2_with fail
      refine (unhide HC9).mono ?_
      rintro e w9a ⟨n9, j9, wr9, rfl, g9, le9, fi9, fs9, hx9, rd9, fx9⟩
      have T9 := hide ((unhide S8).call rd9 fx9)
      have OT9 := hide ((unhide HO8).call (unhide S8).rd fx9)
      have S9 := hide ((unhide T9).set 3 (.int .i64 n9))
      have HO9 := hide ((unhide OT9).set (unhide T9).hp 3 (.int .i64 n9))
      have GG9 := hide (And.intro g9 le9)
      clear k0 k1 k2 k3 p0 p1 p2 p3 p4 z1 r0 r1 r2 r3 r4 z2 g9 le9 rd9 fx9 HC9
      obtain ⟨⟨p0, p1, p2, p3, p4⟩, z1, ⟨r0, r1, r2, r3, r4⟩, z2⟩ := (unhide T9).cells
      obtain ⟨k0, k1, k2, k3⟩ := (unhide OT9).cells
      obtain ⟨⟨pp0, pp1, pp2, pp3, pp4⟩, zz1, ⟨rr0, rr1, rr2, rr3, rr4⟩, zz2⟩ := (unhide S9).cells
      obtain ⟨kk0, kk1, kk2, kk3⟩ := (unhide HO9).cells
      have HC10 := hide (h9table_any C j9 (i : Int) wr9 (w9a.setCell ⟨p, 3, none⟩ (.int .i64 n9)) (unhide S9).rd n9 (by omega) hbg)
      go_wp2_with fail
      refine (unhide HC10).mono ?_
      rintro e w10a ⟨s, xs, j10, wr10, rfl, oc, ec, lc, g10, le10, rd10, fx10⟩
      obtain ⟨sa, sn, sc⟩ := s
      unfold Sl.v at oc ⊢
      have T10 := hide ((unhide S9).call rd10 fx10)
      have OT10 := hide ((unhide HO9).call (unhide S9).rd fx10)
      have S10 := hide ((unhide T10).set 4 (.slice sa sn sc))
      have HO10 := hide ((unhide OT10).set (unhide T10).hp 4 (.slice sa sn sc))
      have OC : Hid (Orw cac 51 2 (w10a.setCell ⟨p, 4, none⟩ (.slice sa sn sc)) w.heap.size (.slice sa sn sc) xs) := (oc.base (unhide S9).fx.size).below fun k hk => Below.heap_setCell _ _ _ _ fun e => by
        obtain ⟨X, fr, hX, _⟩ := orw_blk0 oc hk
        simp only at e
        rw [e, (unhide T10).hp] at hX
        injection hX with hX
        injection hX with _ hX
        cases hX
      have EC := hide (And.intro ec lc)
      have GG10 := hide (And.intro g10 le10)
      clear k0 k1 k2 k3 p0 p1 p2 p3 p4 z1 r0 r1 r2 r3 r4 z2 g10 le10 rd10 fx10 HC10 oc ec lc
      obtain ⟨⟨p0, p1, p2, p3, p4⟩, z1, ⟨r0, r1, r2, r3, r4⟩, z2⟩ := (unhide T10).cells
      obtain ⟨k0, k1, k2, k3⟩ := (unhide OT10).cells
      obtain ⟨⟨pp0, pp1, pp2, pp3, pp4⟩, zz1, ⟨rr0, rr1, rr2, rr3, rr4⟩, zz2⟩ := (unhide S10).cells
      obtain ⟨kk0, kk1, kk2, kk3⟩ := (unhide HO10).cells
      go_wp2_with fail
      obtain ⟨hrow, hrd, hfx⟩ := (unhide S10).fin [.int .i64 (i : Int), .int .i64 op, .int .i64 ((i : Int) + n8), .int .i64 (n9), .slice sa sn sc] rfl
      have hc : G9 (insK C.bs i 8 op i1) wr1 ⟨i, op, (i : Int) + n8, n9, xs⟩ j10 wr10 := (unhide GG7).1.bind ((unhide GG8).1.bind ((unhide GG9).1.bind ((unhide GG10).1.bind (G9.pure _ _ _))))
      have hg : G9 (insR C.bs i) wg ⟨i, op, (i : Int) + n8, n9, xs⟩ j10 wr10 := by
        rw [insR_K]
        refine (unhide HG1).1.bind ?_
        show G9 (insK C.bs i (formP op) op i1) wr1 _ _ _
        rw [← unhide HFE]
        exact hc
      have hl1 : i1 ≤ j10 := Nat.le_trans (Nat.le_trans (Nat.le_trans (Nat.le_trans (Nat.le_refl _) (unhide GG7).2) (unhide GG8).2) (unhide GG9).2) (unhide GG10).2
      have hlt : wr10 = false → i < j10 := fun e => by
        have : wr1 = false := by
          cases hwr : wr1 with
          | false => rfl
          | true => rw [hc.1 hwr] at e; cases e
        have := (unhide HG1).2.2 this
        omega
      have hfit : InsFit ⟨i, op, (i : Int) + n8, n9, xs⟩ := ⟨by simp only; omega, by simp only; omega, by simp only; omega, by simp only; omega, (unhide EC).1, (unhide EC).2⟩
      refine bodyPost_ret (v := .agg #[.int .i64 (i : Int), .int .i64 op, .int .i64 ((i : Int) + n8), .int .i64 (n9), .slice sa sn sc]) (results_cell_row Tryd.results38 _ _ w.heap.size 38 _ (0, 0) _ rfl hrow Tryd.underlying38 rfl (by kernel_rfl)) rfl ?_
      exact ⟨⟨i, op, (i : Int) + n8, n9, xs⟩, ⟨sa, sn, sc⟩, j10, wr10, rfl, (unhide S10).orw (unhide OC) (by decide) [.int .i64 (i : Int), .int .i64 op, .int .i64 ((i : Int) + n8), .int .i64 (n9), .slice sa sn sc], hfit, hg, by have := (unhide HG1).2.1; omega, hlt, hrd, hfx⟩
    · as_aux_lemma =>
      have HFo : Hid (Calls Tryd.prog 35 #[.int .i64 op] wc fun e w' => e = .returned (.int .i64 9) ∧ Below wc.heap.size wc w') := HF0
      go_wp2_with fail
      refine (unhide HFo).mono ?_
      rintro e w3 ⟨rfl, f3⟩
      have S4 := hide ((unhide S3).below f3)
      have HRF := hide (h9refuse_any C i1 (i : Int) wr1 w3 (unhide S4).rd false)
      clear f3 HFo HF0 p0 p1 p2 p3 p4 z1
      go_wp2_with fail
      refine (unhide HRF).mono ?_
      rintro e w4 ⟨rfl, r4, f4⟩
      rw [Bool.or_false] at r4
      have S5 := hide ((unhide S4).call r4 f4)
      have o0 : w4.cell? ⟨C.X, 37, none⟩ = some (.func (.func 53) #[.pointer (some ⟨C.X, 0, none⟩)] #[]) := bx_cell r4.blk 37 _ rfl
      have o1 : w4.cell? ⟨C.X, 38, none⟩ = some (.func (.func 54) #[.pointer (some ⟨C.X, 0, none⟩)] #[]) := bx_cell r4.blk 38 _ rfl
      have o2 : w4.cell? ⟨C.X, 39, none⟩ = some (.nilFunc) := bx_cell r4.blk 39 _ rfl
      have o3 : w4.cell? ⟨C.X, 40, none⟩ = some (.func (.func 57) #[.pointer (some ⟨C.X, 0, none⟩)] #[]) := bx_cell r4.blk 40 _ rfl
      clear r4 f4 HRF
      obtain ⟨w5, e5, hb5, f5⟩ : ∃ w5, (w4.alloc (.cells #[.nilFunc, .nilFunc, .nilFunc, .nilFunc] 71)).setRow w4.heap.size #[.func (.func 53) #[.pointer (some ⟨C.X, 0, none⟩)] #[], .func (.func 54) #[.pointer (some ⟨C.X, 0, none⟩)] #[], .nilFunc, .func (.func 57) #[.pointer (some ⟨C.X, 0, none⟩)] #[]] = w5 ∧ o4 w4.heap.size #[.func (.func 53) #[.pointer (some ⟨C.X, 0, none⟩)] #[], .func (.func 54) #[.pointer (some ⟨C.X, 0, none⟩)] #[], .nilFunc, .func (.func 57) #[.pointer (some ⟨C.X, 0, none⟩)] #[]] w5 ∧ Below w4.heap.size w4 w5 := ⟨_, rfl, setRow_heap _ _ _ _ _ _ (heap_alloc_last _ _), below_setRow (bA (Below.refl _ _) _) (Nat.le_refl _) _⟩
      have S6 : Hid (I9 C i w w.heap.size p #[.int .i64 (i : Int), .int .i64 op, .int .i64 0, .int .i64 0, .slice none 0 0] i1 wr1 w5) := (unhide S5).below f5
      have hrow : (w4.alloc (.cells #[.nilFunc, .nilFunc, .nilFunc, .nilFunc] 71)).heap[w4.heap.size]? = some (.cells #[.nilFunc, .nilFunc, .nilFunc, .nilFunc] 71 (0, 0)) := heap_alloc_last _ _
      have HROW := hide hrow
      have hpO : ¬ p = w4.heap.size := by have := lt_of_heap (unhide S5).hp; omega
      have hOp : ¬ w4.heap.size = p := fun e => hpO e.symm
      have hRO : ¬ w.heap.size = w4.heap.size := by have := lt_of_heap (unhide S5).hR; omega
      have hRp : ¬ w.heap.size = p := (unhide S5).ne
      have hpR : ¬ p = w.heap.size := fun e => hRp e.symm
      have HO5 := hide hb5
      obtain ⟨k0, k1, k2, k3⟩ := hb5.cells
      obtain ⟨⟨p0, p1, p2, p3, p4⟩, z1, ⟨r0, r1, r2, r3, r4⟩, z2⟩ := (unhide S6).cells
      clear hb5 f5 hrow
      have jn0 : ∀ W, (binOp .neq 1 (.func (.func 53) #[.pointer (some ⟨C.X, 0, none⟩)] #[]) .nilFunc).run Tryd.prog W = .ok (.bool true) W := fun W => by kernel_rfl
      have jn1 : ∀ W, (binOp .neq 67 (.func (.func 54) #[.pointer (some ⟨C.X, 0, none⟩)] #[]) .nilFunc).run Tryd.prog W = .ok (.bool true) W := fun W => by kernel_rfl
      have jn2 : ∀ W, (binOp .neq 67 (.nilFunc) .nilFunc).run Tryd.prog W = .ok (.bool false) W := fun W => by kernel_rfl
      have jn3 : ∀ W, (binOp .neq 69 (.func (.func 57) #[.pointer (some ⟨C.X, 0, none⟩)] #[]) .nilFunc).run Tryd.prog W = .ok (.bool true) W := fun W => by kernel_rfl
      go_wp2_with (refine wpList_store_row rfl 71 _ _ rfl w4.heap.size #[.func (.func 53) #[.pointer (some ⟨C.X, 0, none⟩)] #[], .func (.func 54) #[.pointer (some ⟨C.X, 0, none⟩)] #[], .nilFunc, .func (.func 57) #[.pointer (some ⟨C.X, 0, none⟩)] #[]] rfl rfl 71 #[.nilFunc, .nilFunc, .nilFunc, .nilFunc] (unhide HROW) (by kernel_rfl) rfl (by simp [Value.oneCell']) ?_)
      have HC7 := hide (h9noughts_any C i1 (i : Int) wr1 w5 (unhide S6).rd)
      refine (unhide HC7).mono ?_
      rintro e w7a ⟨j7, wr7, rfl, g7, le7, rd7, fx7⟩
      have S7 := hide ((unhide S6).call rd7 fx7)
      have HO7 := hide ((unhide HO5).call (unhide S6).rd fx7)
      have GG7 := hide (And.intro g7 le7)
      clear k0 k1 k2 k3 p0 p1 p2 p3 p4 z1 r0 r1 r2 r3 r4 z2 g7 le7 rd7 fx7 HC7
      obtain ⟨k0, k1, k2, k3⟩ := (unhide HO7).cells
      obtain ⟨⟨p0, p1, p2, p3, p4⟩, z1, ⟨r0, r1, r2, r3, r4⟩, z2⟩ := (unhide S7).cells
      have HC8 := hide (h9far_any C j7 (i : Int) wr7 w7a (unhide S7).rd hbg)
      go_wp2_with fail
      refine (unhide HC8).mono ?_
      rintro e w8a ⟨n8, j8, wr8, rfl, g8, le8, fi8, hx8, rd8, fx8⟩
      have T8 := hide ((unhide S7).call rd8 fx8)
      have OT8 := hide ((unhide HO7).call (unhide S7).rd fx8)
      have S8 := hide ((unhide T8).set 2 (.int .i64 ((i : Int) + n8)))
      have HO8 := hide ((unhide OT8).set (unhide T8).hp 2 (.int .i64 ((i : Int) + n8)))
      have GG8 := hide (And.intro g8 le8)
      clear k0 k1 k2 k3 p0 p1 p2 p3 p4 z1 r0 r1 r2 r3 r4 z2 g8 le8 rd8 fx8 HC8
      obtain ⟨⟨p0, p1, p2, p3, p4⟩, z1, ⟨r0, r1, r2, r3, r4⟩, z2⟩ := (unhide T8).cells
      obtain ⟨k0, k1, k2, k3⟩ := (unhide OT8).cells
      obtain ⟨⟨pp0, pp1, pp2, pp3, pp4⟩, zz1, ⟨rr0, rr1, rr2, rr3, rr4⟩, zz2⟩ := (unhide S8).cells
      obtain ⟨kk0, kk1, kk2, kk3⟩ := (unhide HO8).cells
      have HC9 := hide (h9search_any C j8 (i : Int) wr8 (w8a.setCell ⟨p, 2, none⟩ (.int .i64 ((i : Int) + n8))) (unhide S8).rd 0 hbg)
      go_wp2_with fail
      refine (unhide HC9).mono ?_
      rintro e w9a ⟨s, xs, j9, wr9, rfl, oc, ec, lc, g9, le9, rd9, fx9⟩
      obtain ⟨sa, sn, sc⟩ := s
      unfold Sl.v at oc ⊢
      have T9 := hide ((unhide S8).call rd9 fx9)
      have OT9 := hide ((unhide HO8).call (unhide S8).rd fx9)
      have S9 := hide ((unhide T9).set 4 (.slice sa sn sc))
      have HO9 := hide ((unhide OT9).set (unhide T9).hp 4 (.slice sa sn sc))
      have OC : Hid (Orw cac 51 2 (w9a.setCell ⟨p, 4, none⟩ (.slice sa sn sc)) w.heap.size (.slice sa sn sc) xs) := (oc.base (unhide S8).fx.size).below fun k hk => Below.heap_setCell _ _ _ _ fun e => by
        obtain ⟨X, fr, hX, _⟩ := orw_blk0 oc hk
        simp only at e
        rw [e, (unhide T9).hp] at hX
        injection hX with hX
        injection hX with _ hX
        cases hX
      have EC := hide (And.intro ec lc)
      have GG9 := hide (And.intro g9 le9)
      clear k0 k1 k2 k3 p0 p1 p2 p3 p4 z1 r0 r1 r2 r3 r4 z2 g9 le9 rd9 fx9 HC9 oc ec lc
      obtain ⟨⟨p0, p1, p2, p3, p4⟩, z1, ⟨r0, r1, r2, r3, r4⟩, z2⟩ := (unhide T9).cells
      obtain ⟨k0, k1, k2, k3⟩ := (unhide OT9).cells
      obtain ⟨⟨pp0, pp1, pp2, pp3, pp4⟩, zz1, ⟨rr0, rr1, rr2, rr3, rr4⟩, zz2⟩ := (unhide S9).cells
      obtain ⟨kk0, kk1, kk2, kk3⟩ := (unhide HO9).cells
      go_wp2_with fail
      obtain ⟨hrow, hrd, hfx⟩ := (unhide S9).fin [.int .i64 (i : Int), .int .i64 op, .int .i64 ((i : Int) + n8), .int .i64 (0), .slice sa sn sc] rfl
      have hc : G9 (insK C.bs i 9 op i1) wr1 ⟨i, op, (i : Int) + n8, 0, xs⟩ j9 wr9 := (unhide GG7).1.bind ((unhide GG8).1.bind ((unhide GG9).1.bind (G9.pure _ _ _)))
      have hg : G9 (insR C.bs i) wg ⟨i, op, (i : Int) + n8, 0, xs⟩ j9 wr9 := by
        rw [insR_K]
        refine (unhide HG1).1.bind ?_
        show G9 (insK C.bs i (formP op) op i1) wr1 _ _ _
        rw [← unhide HFE]
        exact hc
      have hl1 : i1 ≤ j9 := Nat.le_trans (Nat.le_trans (Nat.le_trans (Nat.le_refl _) (unhide GG7).2) (unhide GG8).2) (unhide GG9).2
      have hlt : wr9 = false → i < j9 := fun e => by
        have : wr1 = false := by
          cases hwr : wr1 with
          | false => rfl
          | true => rw [hc.1 hwr] at e; cases e
        have := (unhide HG1).2.2 this
        omega
      have hfit : InsFit ⟨i, op, (i : Int) + n8, 0, xs⟩ := ⟨by simp only; omega, by simp only; omega, by simp only; omega, by simp only; omega, (unhide EC).1, (unhide EC).2⟩
      refine bodyPost_ret (v := .agg #[.int .i64 (i : Int), .int .i64 op, .int .i64 ((i : Int) + n8), .int .i64 (0), .slice sa sn sc]) (results_cell_row Tryd.results38 _ _ w.heap.size 38 _ (0, 0) _ rfl hrow Tryd.underlying38 rfl (by kernel_rfl)) rfl ?_
      exact ⟨⟨i, op, (i : Int) + n8, 0, xs⟩, ⟨sa, sn, sc⟩, j9, wr9, rfl, (unhide S9).orw (unhide OC) (by decide) [.int .i64 (i : Int), .int .i64 op, .int .i64 ((i : Int) + n8), .int .i64 (0), .slice sa sn sc], hfit, hg, by have := (unhide HG1).2.1; omega, hlt, hrd, hfx⟩
end Go.Proofs.YtpmhcignenfhgaaDoor

/- The landed code: readerOf. -/
namespace Go.Proofs.YtpmhcignenfhgaaDoor
open Go.RowKit
set_option linter.unusedVariables false
set_option maxRecDepth 100000

def zero9 (x : Nat) : Array Value := (([.pointer (some ⟨x, 0, none⟩)] : List Value) ++ (List.replicate 40 Value.nilFunc : List Value) ++ ([.int .i64 0, .bool false] : List Value)).toArray
theorem mid9_in {R : Nat} {T : TypeId} : ∀ (vs A P Z : List Value) (W : World), W.heap[R]? = some (.cells (A ++ P ++ Z).toArray T (0, 0)) → P.length = vs.length → (W.setCells R A.length vs).heap[R]? = some (.cells (A ++ vs ++ Z).toArray T (0, 0))
  | [], A, P, Z, W, h, hl => by
    obtain rfl := List.eq_nil_of_length_eq_zero hl
    exact h
  | v :: vs, A, [], Z, W, h, hl => by simp at hl
  | v :: vs, A, p :: P, Z, W, h, hl => by
    have h1 := heap_setCell_same W R A.length _ _ v h
    have e1 : (A ++ p :: P ++ Z).toArray.setIfInBounds A.length v = ((A ++ [v]) ++ P ++ Z).toArray := by
      apply Array.ext'
      simp
    rw [e1] at h1
    have h2 := mid9_in vs (A ++ [v]) P Z _ h1 (by simpa using hl)
    rw [List.length_append, List.length_cons, List.length_nil, show A ++ [v] ++ vs ++ Z = A ++ (v :: vs) ++ Z by simp] at h2
    exact h2
theorem below9 {B b : Nat} : ∀ (vs : List Value) (o : Nat) {w0 w : World}, Below B w0 w → B ≤ b → Below B w0 (w.setCells b o vs)
  | [], _, _, _, h, _ => h
  | v :: r, o, _, _, h, hb => below9 r (o + 1) (h.setCell (p := ⟨b, o, none⟩) hb v) hb
theorem forms9_one (X : Nat) : (forms9 X).toArray.all (·.oneCell') = true := by simp [forms9, fn9, Value.oneCell']
theorem zero9_there (w : World) (x : Nat) : (w.alloc (.cells (zero9 x) 74)).there w.heap.size 1 (forms9 w.heap.size).toArray.size := fun j hj => by
  have hb := heap_alloc_last w (.cells (zero9 x) 74)
  have hj' : j < 40 := by simpa [forms9] using hj
  have hz : (zero9 x).size = 43 := rfl
  refine ⟨?_, bx_thaw hb _⟩
  have := bx_cell hb (1 + j) ((zero9 x)[1 + j]'(by omega)) (Array.getElem?_eq_getElem _)
  rw [this]
  rfl
set_option maxHeartbeats 4000000 in
theorem h9readerOf_any (w : World) (a : Option Addr) (n c : Nat) (bs : List UInt8) (h : Arg w a n c bs) (hn : n ≤ 140737488351232) :
    Calls Tryd.prog 36 #[.slice a n c] w fun e w' => ∃ C : Cr9, e = .returned (.pointer (some ⟨C.X, 0, none⟩)) ∧ C.B = w.heap.size ∧ C.bs = bs ∧ Rd9 C 0 0 false w' ∧ Below w.heap.size w w' := by
  have HD := hide (dRead_any w a n c bs h hn)
  have hlen := h.bs.1
  have HLEN := hide hlen
  clear h hlen
  go_enter Tryd.func36, Tryd.ntmps36
  go_wp2_with fail
  refine (unhide HD).mono ?_
  rintro e w1 ⟨x, F, rfl, r1, f1⟩
  have H1 := hide (And.intro r1 f1)
  clear r1 f1 HD
  go_wp2_with (refine wpList_store_mid rfl 72 _ _ rfl w1.heap.size 1 (forms9 w1.heap.size).toArray rfl rfl (zero9_there w1 x) (by kernel_rfl) (forms9_one _) ?_)
  go_ret
  obtain ⟨r1, f1⟩ := unhide H1
  obtain ⟨y, c1, hF, sp⟩ := r1
  have hb := heap_alloc_last w1 (.cells (zero9 x) 74)
  have b2 : Below w1.heap.size w1 ((w1.alloc (.cells (zero9 x) 74)).setCells w1.heap.size 1 (forms9 w1.heap.size)) := below9 _ _ (bA (Below.refl _ _) _) (Nat.le_refl _)
  have hx := sp.xlt
  refine ⟨⟨w1.heap.size, x, w.heap.size, bs⟩, rfl, rfl, rfl, ⟨fun e => ?_, f1.size, ⟨F, y, c1, hF, sp.keep (b2.block _ hx) (b2.block _ sp.y.2)⟩, Nat.zero_le _, ?_, ?_⟩, f1.trans (b2.mono f1.size)⟩
  · simp only at e
    omega
  · simp only
    have := unhide HLEN
    omega
  · exact mid9_in (forms9 w1.heap.size) [.pointer (some ⟨x, 0, none⟩)] (List.replicate 40 Value.nilFunc) [.int .i64 0, .bool false] _ hb rfl
end Go.Proofs.YtpmhcignenfhgaaDoor
