/- The landed iterator over the classes above. -/
import Derived.Test.YtjhiflhmefhogaaJKsC
import Derived.Test.YtjhiflhmefhogaaJRgA
import Derived.Shelf.Abstract
import Derived.Shelf.RegionOpen
import Derived.WalkKit
import Derived.OwnWalkIn
import Derived.TacticsInMore
import Derived.LoopNIn
import Derived.LoopIn
import Derived.Maps.AppendAt

namespace Go.Proofs.Ytjhiflhmefhogaa
open Go.RowKit Go.Shelf
set_option linter.unusedVariables false
set_option maxRecDepth 100000
attribute [local go_sem] Oper.semAt_some

/-- A block that is no list of bools. -/
def NoB (o : Obj) : Prop := ∀ X fr, o ≠ .cells X 4 fr
/-- What the iterator does between two rounds: what lay below n₀, and all but bools, stays. -/
def GU (n₀ : Nat) (A C : World) : Prop := Below n₀ A C ∧ ∀ (k : Nat) (o : Obj), A.heap[k]? = some o → NoB o → C.heap[k]? = some o
/-- What a round keeps: what lay below n₀, bools, and boxes of lists of classes. -/
def KU (n₀ : Nat) (A C : World) : Prop := Below n₀ A C ∧ ∀ (k : Nat) X T fr, (T = 4 ∨ T = 40) → A.heap[k]? = some (.cells X T fr) → C.heap[k]? = some (.cells X T fr)
theorem gu_of_below {n₀ : Nat} {A C : World} (h : Below A.heap.size A C) (hn : n₀ ≤ A.heap.size) : GU n₀ A C := ⟨h.mono hn, fun k o hk _ => (h.block k (lt_of_heap hk)).trans hk⟩
abbrev encN (x : List UInt8) : Array Value := #[.string ⟨x.toArray⟩]
def metB (n : Nat) (met : List Nat) : List Value := (List.range n).map fun k => .bool (decide (k ∈ met))
theorem infoBo : (Try.prog.info? 4).map (fun i => (i.zero, i.size, i.bytes)) = some (some (.bool false), 1, 1) := by kernel_rfl
theorem makeBo (w : World) (n : Nat) (hn : n ≤ 1000) : (Instr.makeSlice 76 (.int .i64 (n : Int)) (.int .i64 (n : Int))).run Try.prog w = .ok (.slice (some ⟨w.heap.size, 0, none⟩) n n) (w.alloc (.cells (metB n []).toArray 4)) := by
  obtain ⟨i0, hi, hz0, hz1, hz2⟩ := info_parts infoBo
  have := run_make (P := Try.prog) w 76 4 i0 (.bool false) Try.underlying76 hi hz0 .i64 .i64 (n : Int) (n : Int) (by omega) (by omega) (by rw [hz2]; omega) (by omega)
  rw [this, hz1]
  have e : madeCells (Value.bool false).cells (Int.toNat (n : Int) * 1) = (metB n []).toArray := by
    apply Array.toList_inj.1
    rw [Int.toNat_natCast, Nat.mul_one]
    show (madeCells #[Value.bool false] n).toList = _
    rw [toList_madeCells_one]
    unfold metB
    apply List.ext_getElem?
    intro i
    simp [List.getElem?_replicate]
    by_cases h : i < n <;> simp [h]
  rw [e, Int.toNat_natCast]
theorem metB_at {n : Nat} {met : List Nat} {q : Nat} (h : q < n) : (metB n met)[q]? = some (.bool (decide (q ∈ met))) := by
  unfold metB
  rw [List.getElem?_map, List.getElem?_range h]
  rfl
theorem metB_set {n : Nat} {met : List Nat} {p : Nat} (h : p < n) : (metB n met).toArray.setIfInBounds p (.bool true) = (metB n (p :: met)).toArray := by
  apply Array.toList_inj.1
  rw [Array.toList_setIfInBounds]
  apply List.ext_getElem?
  intro i
  rw [List.getElem?_set]
  by_cases hi : i < n
  · by_cases hp : p = i
    · subst hp
      rw [if_pos rfl, if_pos (by unfold metB; simpa using h)]
      show _ = (metB n (p :: met))[p]?
      rw [metB_at hi]
      simp
    · rw [if_neg hp]
      show (metB n met)[i]? = (metB n (p :: met))[i]?
      rw [metB_at hi, metB_at hi]
      congr 2
      rw [decide_eq_decide]
      constructor
      · intro h; exact List.mem_cons_of_mem _ h
      · intro h; rcases List.mem_cons.1 h with rfl | h
        · exact absurd rfl hp
        · exact h
  · have e1 : (metB n (p :: met))[i]? = none := List.getElem?_eq_none (by unfold metB; simp; omega)
    have e2 : (metB n met)[i]? = none := List.getElem?_eq_none (by unfold metB; simp; omega)
    show _ = (metB n (p :: met))[i]?
    rw [e1, if_neg (by omega)]
    exact e2
def isT : Value → Bool
  | .bool true => true
  | _ => false
def trueN (W : World) (B : Nat) : Nat := match W.heap[B]? with
  | some (.cells X _ _) => X.toList.countP isT
  | _ => 0
theorem metB_count {n : Nat} {met : List Nat} {p : Nat} (hp : p < n) (hm : p ∉ met) : (metB n (p :: met)).countP isT = (metB n met).countP isT + 1 := by
  have e : metB n (p :: met) = (metB n met).set p (.bool true) := by
    have := congrArg Array.toList (metB_set (n := n) (met := met) hp)
    rw [Array.toList_setIfInBounds] at this
    exact this.symm
  have hl : p < (metB n met).length := by unfold metB; simpa using hp
  have hv : (metB n met)[p] = .bool false := by
    have := (List.getElem?_eq_some_iff.1 (metB_at (met := met) hp)).2
    rw [this]
    simp [hm]
  rw [e, List.countP_set hl, hv]
  simp [isT]
theorem metB_le (n : Nat) (met : List Nat) : (metB n met).countP isT ≤ n := by
  refine Nat.le_trans List.countP_le_length ?_
  unfold metB
  simp
def atI : Option Nat → Int
  | some k => k
  | none => -1
theorem fstI_is (l : List Nc) (nm : List UInt8) : fstI l nm = atI (fstN l nm) := by
  unfold fstI atI
  cases fstN l nm <;> rfl
/-- The iterator's own memory: two boxes of the list, and which places were met. -/
structure UM (w wr : World) (Bl Bf Bm : Nat) (a : Option Addr) (n cap : Nat) (met : List Nat) : Prop where
  bl : wr.heap[Bl]? = some (.cells #[.slice a n cap] 40 (0, 0))
  bf : wr.heap[Bf]? = some (.cells #[.slice a n cap] 40 (0, 0))
  bm : wr.heap[Bm]? = some (.cells (metB n met).toArray 4 (0, 0))
  bel : Below w.heap.size w wr
  hi : w.heap.size ≤ Bm
theorem UM.below {w wr wr' : World} {Bl Bf Bm : Nat} {a : Option Addr} {n cap : Nat} {met : List Nat} (h : UM w wr Bl Bf Bm a n cap met) (f : Below wr.heap.size wr wr') : UM w wr' Bl Bf Bm a n cap met :=
  ⟨(f.block _ (lt_of_heap h.bl)).trans h.bl, (f.block _ (lt_of_heap h.bf)).trans h.bf, (f.block _ (lt_of_heap h.bm)).trans h.bm, h.bel.trans (f.mono h.bel.size), h.hi⟩
theorem UM.round {w wr wr' : World} {Bl Bf Bm : Nat} {a : Option Addr} {n cap : Nat} {met : List Nat} (h : UM w wr Bl Bf Bm a n cap met) (f : KU w.heap.size wr wr') : UM w wr' Bl Bf Bm a n cap met :=
  ⟨f.2 _ _ _ _ (.inr rfl) h.bl, f.2 _ _ _ _ (.inr rfl) h.bf, f.2 _ _ _ _ (.inl rfl) h.bm, h.bel.trans f.1, h.hi⟩
theorem UM.cells {w wr : World} {Bl Bf Bm : Nat} {a : Option Addr} {n cap : Nat} {met : List Nat} (h : UM w wr Bl Bf Bm a n cap met) : wr.cell? ⟨Bl, 0, none⟩ = some (.slice a n cap) ∧ wr.cell? ⟨Bf, 0, none⟩ = some (.slice a n cap) ∧ (∀ q, q < n → wr.cell? ⟨Bm, q, none⟩ = some (.bool (decide (q ∈ met)))) ∧ ∀ q, wr.frozen? ⟨Bm, q, none⟩ = false :=
  ⟨by rw [cell_of_row _ _ _ _ _ _ h.bl]; rfl, by rw [cell_of_row _ _ _ _ _ _ h.bf]; rfl, fun q hq => by rw [cell_of_row _ _ _ _ _ _ h.bm]; simpa using metB_at hq, fun q => frozen_of_row _ _ _ _ _ h.bm⟩
theorem UM.mark {w wr : World} {Bl Bf Bm : Nat} {a : Option Addr} {n cap : Nat} {met : List Nat} (h : UM w wr Bl Bf Bm a n cap met) {p : Nat} (hp : p < n) : UM w (wr.setCell ⟨Bm, p, none⟩ (.bool true)) Bl Bf Bm a n cap (p :: met) ∧ GU w.heap.size wr (wr.setCell ⟨Bm, p, none⟩ (.bool true)) := by
  have hne : ∀ k X, wr.heap[k]? = some (.cells X 40 (0, 0)) → k ≠ Bm := fun k X hk e => by
    subst e
    rw [h.bm] at hk
    injection hk with hk
    injection hk with _ hk
    cases hk
  refine ⟨⟨(Below.heap_setCell _ _ _ _ (hne _ _ h.bl)).trans h.bl, (Below.heap_setCell _ _ _ _ (hne _ _ h.bf)).trans h.bf, ?_, h.bel.setCell (p := ⟨Bm, p, none⟩) h.hi _, h.hi⟩, (Below.refl _ _).setCell (p := ⟨Bm, p, none⟩) h.hi _, fun k o hk ho => ?_⟩
  · rw [heap_setCell_same wr Bm p _ _ _ h.bm, metB_set hp]
  · refine (Below.heap_setCell _ _ _ _ (fun e => ?_)).trans hk
    have e' : k = Bm := e
    subst e'
    rw [h.bm] at hk
    injection hk with hk
    exact ho _ _ hk.symm
theorem meas {w wr W3 : World} {Bl Bf Bm : Nat} {a : Option Addr} {n cap p : Nat} {met : List Nat} (h : UM w wr Bl Bf Bm a n cap met) (h' : UM w W3 Bl Bf Bm a n cap (p :: met)) (hp : p < n) (hm : p ∉ met) : n - trueN W3 Bm < n - trueN wr Bm := by
  have e1 : trueN wr Bm = (metB n met).countP isT := by unfold trueN; rw [h.bm]
  have e2 : trueN W3 Bm = (metB n (p :: met)).countP isT := by unfold trueN; rw [h'.bm]
  rw [e1, e2, metB_count hp hm]
  have := metB_le n (p :: met)
  rw [metB_count hp hm] at this
  omega
set_option maxHeartbeats 2000000 in
theorem upwards1_in (N lp Bl Bn : Nat) (hN : 1 ≤ N) (w W : World) (a : Option Addr) (n cap : Nat) (l : List Nc) (hL : Ls 5 ncc w a n l) (hn : n ≤ 40) (NM : ByteArray) (nm : List UInt8) (hNM : Str NM nm) (J Jx : List (List UInt8) → World → Prop)
    (hY : ∀ pre x W1, J pre W1 → pre.length < n + 1 → YieldAt Fence.wide (N - 1) Try.prog lp (encN x) W1 fun e W' =>
      (e = .returned (.bool true) ∧ J (pre ++ [x]) W' ∧ KU w.heap.size W1 W') ∨ (e = .returned (.bool false) ∧ Jx (pre ++ [x]) W'))
    (hJ : ∀ s A C, J s A → GU w.heap.size A C → J s C) (hW : Below w.heap.size w W) (hB : W.heap[Bl]? = some (.cells #[.slice a n cap] 40 (0, 0))) (hB2 : W.cell? ⟨Bn, 0, none⟩ = some (.string NM)) (h0 : J [] W) :
    CallsIn Fence.wide N Try.prog 49 #[.func (.yield lp) #[] #[], .pointer (some ⟨Bl, 0, none⟩), .pointer (some ⟨Bn, 0, none⟩)] W fun e W' => (∃ v, e = .returned v) ∧
      ((∃ xs, xs = upL l nm ∧ J xs W') ∨ (∃ pre, (∃ rest, upL l nm = pre ++ rest) ∧ Jx pre W')) := by
  have cB : W.cell? ⟨Bl, 0, none⟩ = some (.slice a n cap) := by rw [cell_of_row _ _ _ _ _ _ hB]; rfl
  refine callsIn_of_wp Try.func49 rfl trivial ?_ rfl
  simp only [Try.ntmps49, List.size_toArray, List.length_cons, List.length_nil, Nat.reduceAdd, Nat.reduceSub, Array.replicate_succ, Array.replicate_zero, List.push_toArray, List.append_toArray, List.nil_append, List.cons_append]
  have hln := hL.1
  have HL := hide hL
  have HNM := hide hNM
  have HJ := hide hJ
  have HY := hide hY
  clear hL hNM hJ hY
  gi_wp2_with fail
  refine ⟨trivial, (callsIn_wide.2 (yfinder_any W a n cap (by omega))).mono ?_⟩
  rintro e w1 ⟨rfl, hw1⟩
  have f1 : Below W.heap.size W w1 := by rw [hw1]; exact bA (Below.refl _ _) _
  have hF1 : w1.heap[W.heap.size]? = some (.cells #[.slice a n cap] 40 (0, 0)) := by rw [hw1]; exact heap_alloc_last _ _
  have hB1 := (f1.block _ (lt_of_heap hB)).trans hB
  have cB1 : w1.cell? ⟨Bl, 0, none⟩ = some (.slice a n cap) := by rw [cell_of_row _ _ _ _ _ _ hB1]; rfl
  have cN1 : w1.cell? ⟨Bn, 0, none⟩ = some (.string NM) := (f1.cell (World.block_lt_of_cell? W _ hB2)).trans hB2
  clear hw1 cB hB hB2
  have hmk := makeBo w1 n (by omega)
  have g2 : Below w1.heap.size w1 (w1.alloc (.cells (metB n []).toArray 4)) := bA (Below.refl _ _) _
  have F2 := hW.trans ((f1.trans (g2.mono f1.size)).mono hW.size)
  have M2 : Hid (UM w (w1.alloc (.cells (metB n []).toArray 4)) Bl W.heap.size w1.heap.size a n cap []) := ⟨(g2.block _ (lt_of_heap hB1)).trans hB1, (g2.block _ (lt_of_heap hF1)).trans hF1, heap_alloc_last _ _, F2, Nat.le_trans hW.size f1.size⟩
  have cN2 : (w1.alloc (.cells (metB n []).toArray 4)).cell? ⟨Bn, 0, none⟩ = some (.string NM) := (g2.cell (World.block_lt_of_cell? w1 _ cN1)).trans cN1
  have HJ2 := hide (unhide HJ _ _ _ h0 (gu_of_below (f1.trans (g2.mono f1.size)) hW.size))
  have HFD : Hid (∀ wr X x met, UM w wr Bl W.heap.size w1.heap.size a n cap met → Str X x → CallsIn Fence.wide (N - 1) Try.prog 55 #[.string X, .pointer (some ⟨W.heap.size, 0, none⟩)] wr fun e w' => e = .returned (.int .i64 (fstI l x)) ∧ Below wr.heap.size wr w') := fun wr X x met hM hX => callsIn_wide.2 (yfinder1_any wr _ a n cap hM.cells.2.1 l ((unhide HL).below hM.bel) (by omega) X x hX)
  clear g2 F2 hB1 hF1 f1 h0 hW
  gi_wp2_with fail
  refine ⟨trivial, (unhide HFD _ NM nm [] (unhide M2) (unhide HNM)).mono ?_⟩
  rintro e w3 ⟨rfl, f3⟩
  rw [fstI_is]
  have M3 := hide ((unhide M2).below f3)
  have HJ3 := hide (unhide HJ _ _ _ (unhide HJ2) (gu_of_below f3 (unhide M2).bel.size))
  have HU3 := hide (UR.start l nm)
  obtain ⟨at0, hat0⟩ : ∃ at0, at0 = atI (fstN l nm) := ⟨_, rfl⟩
  rw [← hat0]
  have HAT := hide hat0
  clear hat0
  clear f3 M2 HJ2 cN2 hmk cN1 cB1
  gi_wp2
  gi_loopw [6] (fun av wr => ∃ (met : List Nat) (at_ : Option Nat) (pre : List (List UInt8)), av = .int .i64 (atI at_) ∧ Hid (UR l nm met at_ pre) ∧ Hid (UM w wr Bl W.heap.size w1.heap.size a n cap met) ∧ Hid (J pre wr)) (fun av wr => n - trueN wr w1.heap.size)
  case atStart => exact ⟨[], fstN l nm, [], by rw [unhide HAT], HU3, M3, HJ3⟩
  case round =>
    clear HU3 M3 HJ3
    obtain ⟨met, at_, pre, rfl, HU, HM, HJ0⟩ := hrel
    cases at_ with
    | none =>
      have HE := hide (unhide HU).none
      unfold atI
      gi_wp2
      go_end0
      exact ⟨⟨_, rfl⟩, .inl ⟨pre, (unhide HE).symm, unhide HJ0⟩⟩
    | some p =>
      obtain ⟨hp1, hp2⟩ := (unhide HU).here p rfl
      rw [hln] at hp1
      unfold atI
      obtain ⟨b1, o1, h1a, h1⟩ := Ls.row (unhide HL) (w' := w) (by omega)
      subst h1a
      obtain ⟨c, hc⟩ : ∃ c, l[p]? = some c := ⟨_, List.getElem?_eq_getElem (by omega)⟩
      have hsp := supAt_is hc
      have hp0 : (0 : Int) ≤ (p : Int) := by omega
      have hpn : (p : Int) < (n : Int) := by omega
      have HROW : Hid (∀ wx, Below w.heap.size w wx → wx.cell? ⟨b1, o1 + p * 5 + 2, none⟩ = some (.string ⟨c.sup.toArray⟩)) := fun wx f => (h1 f p c hc) 2 _ rfl
      obtain ⟨k1, k2, k3, k4⟩ := (unhide HM).cells
      have r2 := unhide HROW wr (unhide HM).bel
      have K3 := hide k3
      clear h1 k3
      have HK := hide ((unhide HM).mark hp1)
      obtain ⟨m1, m2, m3, m4⟩ := (unhide HK).1.cells
      have r3 := unhide HROW _ (unhide HK).1.bel
      have k3p := unhide K3 p hp1
      have M3' := hide m3
      clear m3
      by_cases hsup : c.sup = []
      · have e1 : (⟨c.sup.toArray⟩ : ByteArray) = ⟨#[]⟩ := by rw [hsup]
        rw [e1] at r2
        have HE := hide ((unhide HU).ends (by rw [hsp]; exact hsup))
        clear e1 r3 m1 m2 m4
        gi_wp2
        go_end0
        exact ⟨⟨_, rfl⟩, .inl ⟨pre, (unhide HE).symm, unhide HJ0⟩⟩
      · obtain ⟨X, hX⟩ := Str.of c.sup
        rw [← hX.eq] at r2 r3
        have x1 : ¬ X.toList = [] := by rw [hX.list]; exact hsup
        have x2 : X.toList.isEmpty = false := by rw [hX.list]; cases hcs : c.sup with | nil => exact absurd hcs hsup | cons _ _ => rfl
        have x3 : (X.toList == []) = false := by simpa using x1
        have x4 : (X.toList != []) = true := by simpa using x1
        have HX := hide hX
        clear hX
        gi_wp2_with fail
        refine ⟨trivial, (unhide HFD _ X c.sup (p :: met) (unhide HK).1 (unhide HX)).mono ?_⟩
        rintro e w5 ⟨rfl, f5⟩
        rw [fstI_is]
        have M5 := hide ((unhide HK).1.below f5)
        have HJ5 := hide (unhide HJ _ _ _ (unhide HJ _ _ _ (unhide HJ0) (unhide HK).2) (gu_of_below f5 (unhide HK).1.bel.size))
        have hfew : pre.length < n + 1 := by have := (unhide HU).few; omega
        have HYX : Hid (∀ W1, J pre W1 → YieldAt Fence.wide (N - 1) Try.prog lp #[.string X] W1 fun e W' => (e = .returned (.bool true) ∧ J (pre ++ [c.sup]) W' ∧ KU w.heap.size W1 W') ∨ (e = .returned (.bool false) ∧ Jx (pre ++ [c.sup]) W')) := fun W1 hj => by
          have := unhide HY pre c.sup W1 hj hfew
          rw [(unhide HX).eq]
          exact this
        obtain ⟨n1, n2, n3, n4⟩ := (unhide M5).cells
        have N3 := hide n3
        clear n3 k1 k2 k4 r2 m1 m2 m4 r3 k3p f5
        have hfn : fstN l c.sup = fstN l (supAt l p) := by rw [hsp]
        cases hq : fstN l c.sup with
        | none =>
          have HNX : Hid (Hid (UR l nm (p :: met) (fstN l c.sup) (pre ++ [c.sup]))) := by
            have := (unhide HU).next (by rw [hsp]; exact hsup) (fun q h => by rw [← hfn, hq] at h; cases h)
            rw [hsp] at this
            exact this
          unfold atI
          obtain ⟨fn, tmps, assign, body, hy, hRR⟩ := unhide HYX _ (unhide HJ5)
          have HRR := hide hRR
          clear hRR
          gi_wp2
          refine (unhide HRR).mono ?_
          rintro e W3 (⟨rfl, hJ3, hk3⟩ | ⟨rfl, hJx3⟩)
          · have HM6 := hide ((unhide M5).round hk3)
            have HJ6 := hide hJ3
            clear hJ3 hk3 HRR hy
            gi_wp2
            go_roundw
            case rel => exact ⟨p :: met, fstN l c.sup, pre ++ [c.sup], by rw [hq], unhide HNX, HM6, HJ6⟩
            case measure => exact meas (unhide HM) (unhide HM6) hp1 hp2
          · have HJX := hide hJx3
            clear hJx3 HRR hy
            gi_wp2
            refine bodyPost_ret (results_none rfl _ _ _) rfl ?_
            exact ⟨⟨_, rfl⟩, .inr ⟨_, (unhide HNX).front, unhide HJX⟩⟩
        | some q =>
          obtain ⟨_, _, _, hql⟩ := fstN_some hq
          have hqn : q < n := by omega
          have hq0 : (0 : Int) ≤ (q : Int) := by omega
          have hqn' : (q : Int) < (n : Int) := by omega
          have cq := unhide N3 q hqn
          unfold atI
          by_cases hmem : q ∈ p :: met
          · rw [decide_eq_true hmem] at cq
            have HE := hide ((unhide HU).ring (by rw [hsp]; exact hsup) (by rw [← hfn]; exact hq) hmem)
            gi_wp2
            refine ⟨(fun f hf => by cases hf), ?_⟩
            gi_wp2
            refine bodyPost_ret (results_none rfl _ _ _) rfl ?_
            exact ⟨⟨_, rfl⟩, .inl ⟨pre, (unhide HE).symm, unhide HJ5⟩⟩
          · rw [decide_eq_false hmem] at cq
            have HNX : Hid (Hid (UR l nm (p :: met) (fstN l c.sup) (pre ++ [c.sup]))) := by
              have := (unhide HU).next (by rw [hsp]; exact hsup) (fun q' h => by rw [← hfn, hq] at h; injection h with h; rw [← h]; exact hmem)
              rw [hsp] at this
              exact this
            obtain ⟨fn, tmps, assign, body, hy, hRR⟩ := unhide HYX _ (unhide HJ5)
            have HRR := hide hRR
            clear hRR
            gi_wp2
            refine (unhide HRR).mono ?_
            rintro e W3 (⟨rfl, hJ3, hk3⟩ | ⟨rfl, hJx3⟩)
            · have HM6 := hide ((unhide M5).round hk3)
              have HJ6 := hide hJ3
              clear hJ3 hk3 HRR hy
              gi_wp2
              go_roundw
              case rel => exact ⟨p :: met, fstN l c.sup, pre ++ [c.sup], by rw [hq], unhide HNX, HM6, HJ6⟩
              case measure => exact meas (unhide HM) (unhide HM6) hp1 hp2
            · have HJX := hide hJx3
              clear hJx3 HRR hy
              gi_wp2
              refine bodyPost_ret (results_none rfl _ _ _) rfl ?_
              exact ⟨⟨_, rfl⟩, .inr ⟨_, (unhide HNX).front, unhide HJX⟩⟩
end Go.Proofs.Ytjhiflhmefhogaa
