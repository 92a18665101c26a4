/- Joined: CeF CeG CgH. -/
import Derived.Test.YthenefjoidckkaaGreatDoorJQ
import Derived.Test.YthenefjoidckkaaGreatDoorJG1
import Derived.Test.YthenefjoidckkaaGreatDoorJB
import Derived.Test.YthenefjoidckkaaGreatDoorJU1
import Derived.Laws.Rows
import Derived.BigRegion

/- The document's code: Plain. -/
namespace Go.Proofs.YthenefjoidckkaaGreatDoor
open Go.RowKit
set_option linter.unusedVariables false
set_option maxRecDepth 100000

def plainOA (op a : Int) : Int × Int := ((plainP ⟨0, op, a, 0, []⟩).op, (plainP ⟨0, op, a, 0, []⟩).a)
theorem alloc2_last (w : World) (o o' : Obj) : ((w.alloc o).alloc o').heap[w.heap.size + 1]? = some o' := by
  have h := heap_alloc_last (w.alloc o) o'
  have e : (w.alloc o).heap.size = w.heap.size + 1 := by simp
  rw [e] at h
  exact h
end Go.Proofs.YthenefjoidckkaaGreatDoor

/- The landed code: the table of short forms. -/
namespace Go.Proofs.YthenefjoidckkaaGreatDoor
open Go.RowKit
set_option linter.unusedVariables false
set_option maxRecDepth 100000

def shortL : List (Int × Int × Int × Int) := [(2, 8, 17, -1), (10, 10, 9, 1), (26, 29, 21, 0), (30, 33, 22, 0), (42, 45, 25, 0), (59, 62, 54, 0), (63, 66, 55, 0), (75, 78, 58, 0)]
def shortCells : Array Value := (shortL.flatMap fun r => [.int .i64 r.1, .int .i64 r.2.1, .int .i64 r.2.2.1, .int .i64 r.2.2.2]).toArray
def shortOf (op a : Int) : List (Int × Int × Int × Int) → Int × Int
  | [] => (op, a)
  | r :: l => if r.1 ≤ op ∧ op ≤ r.2.1 then (r.2.2.1, r.2.2.2 + op - r.1) else shortOf op a l
/-- The op that the program's switch leaves. -/
def wideOp (op : Int) : Int := if op = 16 then 17 else if op = 19 then 18 else op
def Tab9s (w : World) : Prop := ∃ t fr, w.heap[0]? = some (.cells shortCells t fr)
theorem Tab9s.below {w w' : World} (h : Tab9s w) (f : Below w.heap.size w w') : Tab9s w' := by
  obtain ⟨t, fr, h⟩ := h
  exact ⟨t, fr, (f.block 0 (lt_of_heap h)).trans h⟩
theorem shortCells_size : shortCells.size = 32 := by rfl
theorem short_index0 : ∀ k, k < 8 → ∀ w : World, (Instr.index 102 (.agg shortCells) (.int .i64 (k : Nat))).run Tryz.prog w = .ok (.agg #[.int .i64 (shortL.getD k (0, 0, 0, 0)).1, .int .i64 (shortL.getD k (0, 0, 0, 0)).2.1, .int .i64 (shortL.getD k (0, 0, 0, 0)).2.2.1, .int .i64 (shortL.getD k (0, 0, 0, 0)).2.2.2]) w := by
  intro k hk w
  iterate 8 (rcases k with _ | k; · kernel_rfl)
  omega
theorem shortOf_drop (op a : Int) (k : Nat) (hk : k < 8) : shortOf op a (shortL.drop k) = if (shortL.getD k (0, 0, 0, 0)).1 ≤ op ∧ op ≤ (shortL.getD k (0, 0, 0, 0)).2.1 then ((shortL.getD k (0, 0, 0, 0)).2.2.1, (shortL.getD k (0, 0, 0, 0)).2.2.2 + op - (shortL.getD k (0, 0, 0, 0)).1) else shortOf op a (shortL.drop (k + 1)) := by
  have h1 : k < shortL.length := hk
  rw [List.drop_eq_getElem_cons h1]
  simp only [shortOf, List.getD, List.getElem?_eq_getElem h1, Option.getD_some]
theorem short_is (op a : Int) : shortOf (wideOp op) a shortL = plainOA op a := by
  unfold wideOp
  by_cases h1 : op = 16
  · subst h1; rfl
  · by_cases h2 : op = 19
    · subst h2; rfl
    · rw [if_neg h1, if_neg h2]
      unfold plainOA plainP shortL
      simp only [shortOf, h1, h2, if_false]
      repeat' split
      all_goals first | rfl | (exfalso; omega) | (refine Prod.ext ?_ ?_ <;> simp <;> omega) | (simp; omega) | (simp; done)
end Go.Proofs.YthenefjoidckkaaGreatDoor

/- The landed code: Plain. -/
namespace Go.Proofs.YthenefjoidckkaaGreatDoor
open Go.RowKit
set_option linter.unusedVariables false
set_option maxRecDepth 100000

/-- While the plain form is made: the instruction in its box, the answer's place behind it. -/
structure P9 (w : World) (op a : Int) (at0 b : Int) (v : Value) (cs : List Cas) (W : World) : Prop where
  hI : W.heap[w.heap.size]? = some (.cells #[.int .i64 at0, .int .i64 op, .int .i64 a, .int .i64 b, v] 57 (0, 0))
  hR : W.heap[w.heap.size + 1]? = some (.cells inc0 57 (0, 0))
  own : Orw cac 99 2 W w.heap.size v cs
  bel : Below w.heap.size w W
theorem P9.below {w : World} {op a at0 b : Int} {v : Value} {cs : List Cas} {W W' : World} (h : P9 w op a at0 b v cs W) (f : Below W.heap.size W W') : P9 w op a at0 b v cs W' :=
  ⟨(f.block _ (lt_of_heap h.hI)).trans h.hI, (f.block _ (lt_of_heap h.hR)).trans h.hR, h.own.below fun k hk => f.block k (h.own.lt k hk).2, h.bel.trans (f.mono h.bel.size)⟩
theorem P9.set {w : World} {op a at0 b : Int} {v : Value} {cs : List Cas} {W : World} (h : P9 w op a at0 b v cs W) (q : Nat) (z : Value) (op' a' : Int) (e : (#[.int .i64 at0, .int .i64 op, .int .i64 a, .int .i64 b, v] : Array Value).setIfInBounds q z = #[.int .i64 at0, .int .i64 op', .int .i64 a', .int .i64 b, v]) : P9 w op' a' at0 b v cs (W.setCell ⟨w.heap.size, q, none⟩ z) :=
  ⟨by rw [← e]; exact heap_setCell_same W _ q _ _ _ h.hI, (Below.heap_setCell _ _ _ _ (by simp)).trans h.hR, h.own.below fun k hk => Below.heap_setCell _ _ _ _ fun ek => by
    obtain ⟨X, fr, hX, _⟩ := orw_blk0 h.own hk
    simp only at ek
    rw [ek, h.hI] at hX
    injection hX with hX
    injection hX with _ hX
    exact absurd hX (by decide), h.bel.setCell (p := ⟨w.heap.size, q, none⟩) (Nat.le_refl _) _⟩
theorem P9.cells {w : World} {op a at0 b : Int} {v : Value} {cs : List Cas} {W : World} (h : P9 w op a at0 b v cs W) : (W.cell? ⟨w.heap.size, 0, none⟩ = some (.int .i64 at0) ∧ W.cell? ⟨w.heap.size, 1, none⟩ = some (.int .i64 op) ∧ W.cell? ⟨w.heap.size, 2, none⟩ = some (.int .i64 a) ∧ W.cell? ⟨w.heap.size, 3, none⟩ = some (.int .i64 b) ∧ W.cell? ⟨w.heap.size, 4, none⟩ = some v) ∧ (∀ j, W.frozen? ⟨w.heap.size, j, none⟩ = false) ∧
    (W.cell? ⟨w.heap.size + 1, 0, none⟩ = some (.int .i64 0) ∧ W.cell? ⟨w.heap.size + 1, 1, none⟩ = some (.int .i64 0) ∧ W.cell? ⟨w.heap.size + 1, 2, none⟩ = some (.int .i64 0) ∧ W.cell? ⟨w.heap.size + 1, 3, none⟩ = some (.int .i64 0) ∧ W.cell? ⟨w.heap.size + 1, 4, none⟩ = some (.slice none 0 0)) ∧ (∀ j, W.frozen? ⟨w.heap.size + 1, j, none⟩ = false) :=
  ⟨⟨bx_cell h.hI 0 _ rfl, bx_cell h.hI 1 _ rfl, bx_cell h.hI 2 _ rfl, bx_cell h.hI 3 _ rfl, bx_cell h.hI 4 _ rfl⟩, fun j => bx_thaw h.hI j, ⟨bx_cell h.hR 0 _ rfl, bx_cell h.hR 1 _ rfl, bx_cell h.hR 2 _ rfl, bx_cell h.hR 3 _ rfl, bx_cell h.hR 4 _ rfl⟩, fun j => bx_thaw h.hR j⟩
def plain_post (at0 op a b : Int) (cs : List Cas) (w : World) (e : Ending) (w' : World) : Prop :=
  ∃ s : Sl, e = .returned (.agg #[.int .i64 at0, .int .i64 (plainOA op a).1, .int .i64 (plainOA op a).2, .int .i64 b, s.v]) ∧ Orw cac 99 2 w' w.heap.size s.v cs ∧ Below w.heap.size w w'
set_option maxHeartbeats 4000000 in
theorem hPlain_any (w : World) (at0 op a b : Int) (s : Sl) (cs : List Cas) (hL : Ls 2 cac w s.a s.n cs) (hnil : s.a = none → s.n = 0 ∧ s.c = 0) (hsm : s.n * 16 ≤ 140737488351232) (hT : Tab9s w) :
    Calls Tryz.prog 36 #[.agg #[.int .i64 at0, .int .i64 op, .int .i64 a, .int .i64 b, s.v]] w (plain_post at0 op a b cs w) := by
  have f1 : Below w.heap.size w ((w.alloc (.cells #[.int .i64 at0, .int .i64 op, .int .i64 a, .int .i64 b, s.v] 57)).alloc (.cells inc0 57)) := bA (bA (Below.refl _ _) _) _
  have HC := hide (slCloneC_any _ s cs (hL.below f1) hnil hsm)
  have hI1 : ((w.alloc (.cells #[.int .i64 at0, .int .i64 op, .int .i64 a, .int .i64 b, s.v] 57)).alloc (.cells inc0 57)).heap[w.heap.size]? = some (.cells #[.int .i64 at0, .int .i64 op, .int .i64 a, .int .i64 b, s.v] 57 (0, 0)) := (heap_alloc_old _ _ (by simp)).trans (heap_alloc_last _ _)
  have hR1 : ((w.alloc (.cells #[.int .i64 at0, .int .i64 op, .int .i64 a, .int .i64 b, s.v] 57)).alloc (.cells inc0 57)).heap[w.heap.size + 1]? = some (.cells inc0 57 (0, 0)) := alloc2_last _ _ _
  have H1 := hide (And.intro hI1 (And.intro hR1 f1))
  have HT := hide hT
  obtain ⟨sa, sn, sc⟩ := s
  unfold Sl.v at *
  unfold inc0 at HC H1
  clear hI1 hR1 f1 hL hnil hT
  simp only at HC
  go_enter Tryz.func36, Tryz.ntmps36
  go_wp2_with fail
  refine (unhide HC).mono ?_
  rintro e w2 ⟨v, rfl, o2, f2⟩
  obtain ⟨ta, tc, rfl, _, _, _⟩ := o2.form
  obtain ⟨tn, htn⟩ : ∃ tn, tn = cs.length := ⟨_, rfl⟩
  rw [← htn] at o2 ⊢
  clear htn
  obtain ⟨hI1, hR1, f1⟩ := unhide H1
  have hI2 := (f2.block _ (lt_of_heap hI1)).trans hI1
  have hR2 := (f2.block _ (lt_of_heap hR1)).trans hR1
  have z0 := bx_cell hI2 4 _ rfl
  have z1 := bx_thaw hI2 4
  have P2 : P9 w op a at0 b (.slice ta tn tc) cs (w2.setCell ⟨w.heap.size, 4, none⟩ (.slice ta tn tc)) := by
    refine ⟨heap_setCell_same w2 _ 4 _ _ _ hI2, (Below.heap_setCell _ _ _ _ (by simp)).trans hR2, (o2.base f1.size).below fun k hk => Below.heap_setCell _ _ _ _ fun ek => ?_, (f1.trans (f2.mono f1.size)).setCell (p := ⟨w.heap.size, 4, none⟩) (Nat.le_refl _) _⟩
    obtain ⟨X, fr, hX, _⟩ := orw_blk0 o2 hk
    simp only at ek
    rw [ek, hI2] at hX
    injection hX with hX
    injection hX with _ hX
    exact absurd hX (by decide)
  have HP2 := hide P2
  have HT2 : Hid (∀ W, Below w.heap.size w W → Tab9s W) := fun W f => (unhide HT).below f
  obtain ⟨⟨q0, q1, q2, q3, q4⟩, q5, _⟩ := P2.cells
  obtain ⟨y1, y2⟩ : ∃ y1 y2, plainOA op a = (y1, y2) := ⟨_, _, rfl⟩
  have HSH := hide (short_is op a)
  have HEND : Hid (∀ W op1 a1, P9 w op1 a1 at0 b (.slice ta tn tc) cs W → (op1, a1) = plainOA op a → plain_post at0 op a b cs w (.returned (.agg #[.int .i64 at0, .int .i64 op1, .int .i64 a1, .int .i64 b, .slice ta tn tc])) (W.setCells (w.heap.size + 1) 0 [.int .i64 at0, .int .i64 op1, .int .i64 a1, .int .i64 b, .slice ta tn tc]) ∧ (W.setCells (w.heap.size + 1) 0 [.int .i64 at0, .int .i64 op1, .int .i64 a1, .int .i64 b, .slice ta tn tc]).heap[w.heap.size + 1]? = some (.cells #[.int .i64 at0, .int .i64 op1, .int .i64 a1, .int .i64 b, .slice ta tn tc] 57 (0, 0))) := fun W op1 a1 hP he => by
    refine ⟨⟨⟨ta, tn, tc⟩, by rw [← he]; rfl, hP.own.below fun k hk => cells9_other _ _ _ _ _ fun ek => ?_, cells9_below _ _ hP.bel (by omega)⟩, cells9_in _ [] [.int .i64 0, .int .i64 0, .int .i64 0, .int .i64 0, .slice none 0 0] W hP.hR rfl⟩
    obtain ⟨X, fr, hX, _⟩ := orw_blk0 hP.own hk
    rw [ek, hP.hR] at hX
    injection hX with hX
    injection hX with _ hX
    exact absurd hX (by decide)
  clear o2 f2 hI1 hR1 f1 hI2 hR2 HC H1 P2 HT
  go_upto_block 0 with fail
  go_cut [] from 9 (fun wr => P9 w (wideOp op) a at0 b (.slice ta tn tc) cs wr)
  case first =>
    by_cases h16 : op = 16
    · have e16 : (op == 16) = true := by simpa using h16
      have P3 := hide ((unhide HP2).set 1 (.int .i64 17) (wideOp op) a (by unfold wideOp; rw [if_pos h16]; rfl))
      go_wp2
      go_meet
      case rel => exact unhide P3
    have e16 : (op == 16) = false := by simpa using h16
    by_cases h19 : op = 19
    · have e19 : (op == 19) = true := by simpa using h19
      have P3 := hide ((unhide HP2).set 1 (.int .i64 18) (wideOp op) a (by unfold wideOp; rw [if_neg h16, if_pos h19]; rfl))
      go_wp2
      go_meet
      case rel => exact unhide P3
    have e19 : (op == 19) = false := by simpa using h19
    have P3 : Hid (wideOp op = op) := by show wideOp op = op; unfold wideOp; rw [if_neg h16, if_neg h19]
    go_wp2
    go_meet
    case rel => rw [unhide P3]; exact unhide HP2
  case rest =>
    have HPC := hide hcut
    clear hcut q0 q1 q2 q3 q4 q5
    generalize wideOp op = o1 at *
    obtain ⟨t, fr, hg⟩ := unhide HT2 wc (unhide HPC).bel
    obtain ⟨sc0, hcs⟩ : ∃ sc0, sc0 = shortCells := ⟨_, rfl⟩
    have hix := short_index0
    have hsz : sc0.size = 32 := by rw [hcs, shortCells_size]
    rw [← hcs] at hg hix
    have HIX := hide hix
    have HS := hide hsz
    have HG := hide hg
    clear hcs hix hsz hg
    go_wp2_with (refine wpList_load_row rfl 102 _ rfl 0 rfl t _ fr _ (unhide HG) Tryz.underlying102 rfl (by rw [unhide HS]; kernel_rfl) ?_)
    go_loopw [18] (fun i W => ∃ k : Nat, k ≤ 8 ∧ i = .int .i64 k ∧ P9 w o1 a at0 b (.slice ta tn tc) cs W ∧ Hid (shortOf o1 a shortL = shortOf o1 a (shortL.drop k))) (fun i _ => 8 - (intOf i).toNat)
    case atStart => exact ⟨0, by omega, rfl, unhide HPC, rfl⟩
    case round =>
      obtain ⟨k, hk, rfl, hP, HK⟩ := hrel
      by_cases hlt : k < 8
      · have hlt1 : (k : Int) < 8 := by omega
        have hsd := shortOf_drop o1 a k hlt
        obtain ⟨⟨x1, x2, x3, x4⟩, hr⟩ : ∃ r, r = shortL.getD k (0, 0, 0, 0) := ⟨_, rfl⟩
        have q := unhide HIX k hlt
        rw [← hr] at hsd q
        simp only at hsd q
        have hb4 : (-200 ≤ x1 ∧ x1 ≤ 200) ∧ (-200 ≤ x2 ∧ x2 ≤ 200) ∧ (-200 ≤ x4 ∧ x4 ≤ 200) := by
          have : ∀ k, k < 8 → (-200 ≤ (shortL.getD k (0, 0, 0, 0)).1 ∧ (shortL.getD k (0, 0, 0, 0)).1 ≤ 200) ∧ (-200 ≤ (shortL.getD k (0, 0, 0, 0)).2.1 ∧ (shortL.getD k (0, 0, 0, 0)).2.1 ≤ 200) ∧ (-200 ≤ (shortL.getD k (0, 0, 0, 0)).2.2.2 ∧ (shortL.getD k (0, 0, 0, 0)).2.2.2 ≤ 200) := by decide
          have := this k hlt
          rw [← hr] at this
          exact this
        have P4 : P9 w o1 a at0 b (.slice ta tn tc) cs (wr.alloc (.cells #[.int .i64 x1, .int .i64 x2, .int .i64 x3, .int .i64 x4] 101)) := hP.below (bA (Below.refl _ _) _)
        have HP4 := hide P4
        obtain ⟨⟨q0, q1, q2, q3, q4⟩, q5, _⟩ := P4.cells
        have HSD := hide hsd
        have HNW := hide (show ¬ w.heap.size = wr.heap.size by have := lt_of_heap hP.hI; omega)
        clear hr hsd P4 hP
        by_cases h1 : x1 ≤ o1
        · by_cases h2 : o1 ≤ x2
          · have e1 : IntKind.i64.wrap (x4 + o1) = x4 + o1 := by rw [IntKind.wrap_i64]; omega
            have e2 : IntKind.i64.wrap (x4 + o1 - x1) = x4 + o1 - x1 := by rw [IntKind.wrap_i64]; omega
            have HFIN : Hid ((x3, x4 + o1 - x1) = plainOA op a) := by
              show (x3, x4 + o1 - x1) = plainOA op a
              have h3 := unhide HSD
              rw [if_pos ⟨h1, h2⟩] at h3
              rw [← h3, ← unhide HK, ← unhide HSH]
            have n1 := unhide HNW
            go_wp2
            go_region
            have P6 : P9 w x3 (x4 + o1 - x1) at0 b (.slice ta tn tc) cs (((wr.alloc (.cells #[.int .i64 x1, .int .i64 x2, .int .i64 x3, .int .i64 x4] 101)).setCell ⟨w.heap.size, 1, none⟩ (.int .i64 x3)).setCell ⟨w.heap.size, 2, none⟩ (.int .i64 (x4 + o1 - x1))).drew := (((unhide HP4).set 1 (.int .i64 x3) x3 a rfl).set 2 (.int .i64 (x4 + o1 - x1)) x3 (x4 + o1 - x1) rfl).below (Below.refl _ _).drew
            have HP6 := hide P6
            generalize hw6 : (((wr.alloc (.cells #[.int .i64 x1, .int .i64 x2, .int .i64 x3, .int .i64 x4] 101)).setCell ⟨w.heap.size, 1, none⟩ (.int .i64 x3)).setCell ⟨w.heap.size, 2, none⟩ (.int .i64 (x4 + o1 - x1))).drew = w6 at *
            clear hw6 P6 q0 q1 q2 q3 q4 q5
            obtain ⟨⟨q0, q1, q2, q3, q4⟩, q5, ⟨r0, r1, r2, r3, r4⟩, r5⟩ := (unhide HP6).cells
            obtain ⟨hpost, hrow⟩ := unhide HEND _ _ _ (unhide HP6) (unhide HFIN)
            have HPOST := hide (And.intro hpost hrow)
            clear hpost hrow
            go_wp2
            exact bodyPost_ret (results_cell_row Tryz.results36 _ _ (w.heap.size + 1) 57 _ (0, 0) _ rfl (unhide HPOST).2 Tryz.underlying57 rfl (by kernel_rfl)) rfl (unhide HPOST).1
          · have h2b : decide (o1 ≤ x2) = false := by simpa using h2
            have HK' : Hid (shortOf o1 a shortL = shortOf o1 a (shortL.drop (k + 1))) := by
              show shortOf o1 a shortL = _
              have h3 := unhide HSD
              rw [if_neg (fun h => h2 h.2)] at h3
              rw [unhide HK, h3]
            have n1 := unhide HNW
            clear HK HSD
            go_wp2
            go_roundw
            case rel => exact ⟨k + 1, by omega, by go_num, unhide HP4, HK'⟩
            case measure => simp [intOf]; omega
        · have h1b : decide (x1 ≤ o1) = false := by simpa using h1
          have HK' : Hid (shortOf o1 a shortL = shortOf o1 a (shortL.drop (k + 1))) := by
            show shortOf o1 a shortL = _
            have h3 := unhide HSD
            rw [if_neg (fun h => h1 h.1)] at h3
            rw [unhide HK, h3]
          have n1 := unhide HNW
          clear HK HSD
          go_wp2
          go_roundw
          case rel => exact ⟨k + 1, by omega, by go_num, unhide HP4, HK'⟩
          case measure => simp [intOf]; omega
      · obtain rfl : k = 8 := by omega
        have HFIN : Hid ((o1, a) = plainOA op a) := by
          show (o1, a) = plainOA op a
          rw [← unhide HSH, unhide HK]
          rfl
        have HPW := hide hP
        clear hP HK
        obtain ⟨⟨q0, q1, q2, q3, q4⟩, q5, ⟨r0, r1, r2, r3, r4⟩, r5⟩ := (unhide HPW).cells
        obtain ⟨hpost, hrow⟩ := unhide HEND _ _ _ (unhide HPW) (unhide HFIN)
        have HPOST := hide (And.intro hpost hrow)
        clear hpost hrow
        go_wp2
        exact bodyPost_ret (results_cell_row Tryz.results36 _ _ (w.heap.size + 1) 57 _ (0, 0) _ rfl (unhide HPOST).2 Tryz.underlying57 rfl (by kernel_rfl)) rfl (unhide HPOST).1
end Go.Proofs.YthenefjoidckkaaGreatDoor
