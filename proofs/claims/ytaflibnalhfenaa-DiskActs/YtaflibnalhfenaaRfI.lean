/- The contract of the document's own Crash. -/
import Derived.Test.YtaflibnalhfenaaRfH
namespace Go.Proofs.Ytaflibnalhfenaa
open Go.RowKit
set_option linter.unusedVariables false

/-- Which of n + 1 values the number at pos keeps: its 64 bits, without a sign, modulo n + 1. -/
def pickAt (kept : List Int) (pos n : Nat) : Nat := among (kept.getD pos 0) (n + 1)
theorem pickAt_le (kept : List Int) (pos n : Nat) : pickAt kept pos n ≤ n := by
  have := among_lt (kept.getD pos 0) (n + 1) (by omega)
  unfold pickAt
  omega
theorem pickAt_out (kept : List Int) (pos n : Nat) (h : kept.length ≤ pos) : pickAt kept pos n = 0 := by
  unfold pickAt
  rw [List.getD_eq_getElem?_getD, List.getElem?_eq_none h]
  simp [among]
def crashSec (kept : List Int) (D : Dk) (i : Nat) (s : Sec) : Sec := if 0 < s.wait.length then s.settle (pickAt kept (cachedTo D i).length s.wait.length) else s
def Dk.crashTo (kept : List Int) (D : Dk) (k : Nat) : Dk := { D with secs := D.secs.mapIdx fun i s => if i < k then crashSec kept D i s else s }
def Dk.crashed (kept : List Int) (D : Dk) : Dk := { D.crashTo kept D.secs.length with dark := false, trip := -1 }
theorem crashTo_len (kept : List Int) (D : Dk) (k : Nat) : (D.crashTo kept k).secs.length = D.secs.length := by simp [Dk.crashTo]
theorem crashTo_zero (kept : List Int) (D : Dk) : D.crashTo kept 0 = D := by
  unfold Dk.crashTo
  have : D.secs.mapIdx (fun i s => if i < 0 then crashSec kept D i s else s) = D.secs := by
    apply List.ext_getElem?
    intro i
    rw [List.getElem?_mapIdx]
    cases D.secs[i]? <;> simp
  rw [this]
theorem crashTo_get (kept : List Int) (D : Dk) (k : Nat) (s : Sec) (h : D.secs[k]? = some s) : (D.crashTo kept k).secs[k]? = some s := by simp [Dk.crashTo, h]
theorem crashTo_succ (kept : List Int) (D : Dk) (k : Nat) (s : Sec) (h : D.secs[k]? = some s) : D.crashTo kept (k + 1) = (D.crashTo kept k).put k (crashSec kept D k s) := by
  have hk := (List.getElem?_eq_some_iff.1 h).1
  have : (D.secs.mapIdx fun i s => if i < k + 1 then crashSec kept D i s else s) = (D.secs.mapIdx fun i s => if i < k then crashSec kept D i s else s).set k (crashSec kept D k s) := by
    apply List.ext_getElem?
    intro i
    rw [List.getElem?_set, List.getElem?_mapIdx, List.getElem?_mapIdx]
    by_cases hik : k = i
    · subst hik
      rw [if_pos rfl, if_pos (by simpa using hk), h]
      simp
    · rw [if_neg hik]
      cases D.secs[i]? with
      | none => rfl
      | some t =>
        have : (i < k + 1) ↔ i < k := by omega
        simp [this]
  simp only [Dk.crashTo, Dk.put, this]
theorem crashTo_no (kept : List Int) (D : Dk) (k : Nat) (s : Sec) (h : D.secs[k]? = some s) (h0 : ¬ 0 < s.wait.length) : D.crashTo kept (k + 1) = D.crashTo kept k := by
  rw [crashTo_succ kept D k s h]
  have e : crashSec kept D k s = s := by unfold crashSec; rw [if_neg h0]
  rw [e]
  unfold Dk.put
  have hg := crashTo_get kept D k s h
  obtain ⟨hk, hs⟩ := List.getElem?_eq_some_iff.1 hg
  rw [← hs, List.set_getElem_self]

set_option maxRecDepth 100000 in
set_option maxHeartbeats 1000000 in
theorem rCrash_any (w : World) (B p : Nat) (v : Value) (vals : List Value) (D : Dk) (hD : RIs w B p v vals (rof D)) (g gc : Nat) (hv : v = .slice (some ⟨g, 0, none⟩) D.secs.length gc) (hmost : D.secs.length ≤ 4096) (hW : ∀ (i : Nat) (s : Sec), D.secs[i]? = some s → s.wait.length ≤ 1000000)
    (a : Option Addr) (c n : Nat) (kept : List Int) (hn : kept.length = n) (hK : KeptOf w B a kept) :
    Calls Try.prog 28 #[.pointer (some ⟨p, 0, none⟩), .slice a n c] w fun e w' => e = .returned (.tuple #[]) ∧ (∃ vals', RIs w' B p v vals' (rof (D.crashed kept)) ∧ NewOr w vals vals') ∧ Fr2 B w w' := by
  subst hv
  have R0 : Hid (BRel w B p (.slice (some ⟨g, 0, none⟩) D.secs.length gc) vals (D.crashTo kept 0) w) := ⟨⟨vals, by rw [crashTo_zero]; exact hD, NewOr.refl _ _⟩, Fr2.refl _ _⟩
  have HW := hide hW
  have HK := hide hK
  have HN := hide hn
  clear hD hW hK hn
  go_enter Try.func28, Try.ntmps28
  go_wp2
  go_loopw [4, 5] (fun nx i wr => ∃ k : Nat, k ≤ D.secs.length ∧ i = .int .i64 k ∧ nx = .int .i64 (cachedTo D k).length ∧ BRel w B p (.slice (some ⟨g, 0, none⟩) D.secs.length gc) vals (D.crashTo kept k) wr) (fun _ i _ => D.secs.length - (intOf i).toNat)
  case atStart => exact ⟨0, by omega, rfl, rfl, unhide R0⟩
  case round =>
    clear R0
    obtain ⟨k, hk, rfl, rfl, hR⟩ := hrel
    obtain ⟨vals1, hr, nw⟩ := hR.ex
    have c0 := hr.cells.1
    by_cases hlt : k < D.secs.length
    · have hx : D.secs[k]? = some D.secs[k] := List.getElem?_eq_getElem hlt
      have hx2 := crashTo_get kept D k _ hx
      obtain ⟨_, _, q, qc, hv, c1, f1, hq1, hq2, hqs⟩ := hr.mem k _ hx2
      injection hv with hv1 hv0 hv2
      injection hv1 with hv1
      injection hv1 with hv1 hv4 hv5
      subst hv1
      clear hv0 hv2
      have hkl : (k : Int) < D.secs.length := by omega
      have hle := cachedTo_le D k
      by_cases h0 : 0 < D.secs[k].wait.length
      · have hcmp : ((D.secs[k].wait.length : Int) + 1 == 1) = false := by rw [beq_eq_false_iff_ne]; omega
        have hww : waits D k = true := by simp [waits, hx, h0]
        have hce := cachedTo_yes D k hww
        have hL1 : (D.crashTo kept k).secs.length = D.secs.length := crashTo_len kept D k
        have hsu := crashTo_succ kept D k _ hx
        have hcs : crashSec kept D k D.secs[k] = ⟨(D.secs[k]).pick (pickAt kept (cachedTo D k).length (D.secs[k]).wait.length), []⟩ := by unfold crashSec; rw [if_pos h0]; rfl
        rw [hcs] at hsu
        have hpl := pickAt_le kept (cachedTo D k).length (D.secs[k]).wait.length
        have c2 := hqs _ hpl
        have hwm := unhide HW k _ hx
        have hpg : p ≠ g := fun e => hr.kinds.1 (by subst e; rfl)
        have hgp : g ≠ p := fun e => hpg e.symm
        have HNX := hide (fun (w3 : World) (q : Nat) (x : List UInt8) (hb : Below wr.heap.size wr w3) (hs : w3.heap[q]? = some (.cells #[str x] 9 (0, 0))) (hq : wr.heap.size ≤ q) => hR.next (w3 := w3) hL1 k hlt x q hb hs hq)
        have HSU := hide hsu
        have hkp := (unhide HK).below hR.fr.below
        have hcl : (cachedTo D (k + 1)).length = (cachedTo D k).length + 1 := by rw [hce]; simp
        have HCL := hide hcl
        have hnn := unhide HN
        clear hR hr hx hx2 hww hqs hsu hcs hL1 hce hcl
        by_cases hin : (cachedTo D k).length < kept.length
        · rcases hkp with hk0 | ⟨kb, ko, ha, -, -, hkc⟩
          · rw [hk0] at hin; simp at hin
          · subst ha
            obtain ⟨c3, b1, b2⟩ := hkc _ hin
            generalize hpk : pickAt kept (cachedTo D k).length (D.secs[k]).wait.length = r at *
            unfold pickAt at hpk
            generalize kept.getD (cachedTo D k).length 0 = kv at *
            generalize (cachedTo D k).length = pos at *
            generalize D.secs[k].wait.length = n1 at *
            generalize D.secs[k].pick r = x0 at *
            have hin2 : (pos : Int) < n := by omega
            have hu1 : IntKind.u64.wrap ((n1 : Int) + 1) = (n1 : Int) + 1 := by rw [IntKind.wrap_u64]; omega
            have hz : ((n1 : Int) + 1 == 0) = false := by rw [beq_eq_false_iff_ne]; omega
            have hz' : ¬ ((n1 : Int) + 1 = 0) := by omega
            have hrr : IntKind.i64.wrap ((IntKind.u64.wrap kv).tmod ((n1 : Int) + 1)) = (r : Int) := by
              have h := among_eq kv (n1 + 1) (by omega) (by omega)
              rw [hpk] at h
              rw [← h]
              simp [wrap64, IntKind.wrap_i64]
            clear hpk hkc
            have hrlt : (r : Int) < (n1 : Int) + 1 := by omega
            have g1 := cell_alloc c0 (.cells #[str x0] 9)
            have g2 := cell_alloc c1 (.cells #[str x0] 9)
            have g3 : (wr.alloc (.cells #[str x0] 9)).frozen? ⟨g, k, none⟩ = false := by rw [World.frozen?_alloc_past _ _ _ (World.block_lt_of_cell? wr _ c1)]; exact f1
            have R : Hid (BRel w B p (.slice (some ⟨g, 0, none⟩) D.secs.length gc) vals (D.crashTo kept (k + 1)) ((wr.alloc (.cells #[str x0] 9)).setCell ⟨g, k, none⟩ (.slice (some ⟨wr.heap.size, 0, none⟩) 1 1))) := by
              rw [unhide HSU]
              exact unhide HNX _ _ x0 ((Below.refl _ _).alloc (Nat.le_refl _) _) (heap_alloc_last wr _) (Nat.le_refl _)
            have R2 : Hid (BRel w B p (.slice (some ⟨g, 0, none⟩) D.secs.length gc) vals (D.crashTo kept (k + 1)) ((wr.setCell ⟨g, k, none⟩ (.slice (some ⟨wr.heap.size, 0, none⟩) 1 1)).alloc (.cells #[str x0] 9))) := by
              rw [← World.setCell_alloc_past _ _ _ _ (World.block_lt_of_cell? wr ⟨g, k, none⟩ c1)]; exact R
            go_wp2
            go_region_held (fun W => W.cell? ⟨p, 0, none⟩ = some (.slice (some ⟨g, 0, none⟩) D.secs.length gc) ∧ W.cell? ⟨g, k, none⟩ = some (.slice (some ⟨q, 0, none⟩) (n1 + 1) qc) ∧ W.cell? ⟨kb, ko + pos, none⟩ = some (.int .i64 kv)) (go_keep) (fail)
            go_wp2
            go_region_law (fail)
            all_goals
              clear g1 g2 g3 c0 c1 c2 f1 HNX HSU
              go_wp2
              go_roundw
              case rel => exact ⟨k + 1, by omega, by go_num, by rw [unhide HCL]; go_num, by first | exact (unhide R).drew.drew | exact (unhide R2).drew.drew | exact (unhide R).drew | exact (unhide R2).drew⟩
              case measure => simp [intOf]; omega
        · have hp0 := pickAt_out kept (cachedTo D k).length (D.secs[k]).wait.length (by omega)
          rw [hp0] at c2 HSU hpl
          clear hp0 hkp
          have hin2 : ¬ ((cachedTo D k).length : Int) < n := by omega
          have hin3 : decide (((cachedTo D k).length : Int) < n) = false := by simpa using hin2
          clear hin
          generalize D.secs[k].pick 0 = x0 at *
          generalize (cachedTo D k).length = pos at *
          generalize D.secs[k].wait.length = n1 at *
          have hrlt : (0 : Int) < (n1 : Int) + 1 := by omega
          have g1 := cell_alloc c0 (.cells #[str x0] 9)
          have g2 := cell_alloc c1 (.cells #[str x0] 9)
          have g3 : (wr.alloc (.cells #[str x0] 9)).frozen? ⟨g, k, none⟩ = false := by rw [World.frozen?_alloc_past _ _ _ (World.block_lt_of_cell? wr _ c1)]; exact f1
          have R : Hid (BRel w B p (.slice (some ⟨g, 0, none⟩) D.secs.length gc) vals (D.crashTo kept (k + 1)) ((wr.alloc (.cells #[str x0] 9)).setCell ⟨g, k, none⟩ (.slice (some ⟨wr.heap.size, 0, none⟩) 1 1))) := by
            rw [unhide HSU]
            exact unhide HNX _ _ x0 ((Below.refl _ _).alloc (Nat.le_refl _) _) (heap_alloc_last wr _) (Nat.le_refl _)
          have R2 : Hid (BRel w B p (.slice (some ⟨g, 0, none⟩) D.secs.length gc) vals (D.crashTo kept (k + 1)) ((wr.setCell ⟨g, k, none⟩ (.slice (some ⟨wr.heap.size, 0, none⟩) 1 1)).alloc (.cells #[str x0] 9))) := by
            rw [← World.setCell_alloc_past _ _ _ _ (World.block_lt_of_cell? wr ⟨g, k, none⟩ c1)]; exact R
          go_wp2
          go_region_law (fail)
          all_goals
            clear g1 g2 g3 c0 c1 c2 f1 HNX HSU
            go_wp2
            go_roundw
            case rel => exact ⟨k + 1, by omega, by go_num, by rw [unhide HCL]; go_num, by first | exact (unhide R).drew.drew | exact (unhide R2).drew.drew | exact (unhide R).drew | exact (unhide R2).drew⟩
            case measure => simp [intOf]; omega
      · have hcmp : ((D.secs[k].wait.length : Int) + 1 == 1) = true := by simp; omega
        have hww : waits D k = false := by unfold waits; rw [hx]; simp only [decide_eq_false_iff_not]; exact h0
        have R : Hid (BRel w B p (.slice (some ⟨g, 0, none⟩) D.secs.length gc) vals (D.crashTo kept (k + 1)) wr) := by rw [crashTo_no kept D k _ hx h0]; exact hR
        have hce := cachedTo_no D k hww
        clear hR hr hx hx2 hww hqs
        generalize D.secs[k].wait.length = n1 at *
        go_wp2
        go_roundw
        case rel => exact ⟨k + 1, by omega, by go_num, by rw [hce], unhide R⟩
        case measure => simp [intOf]; omega
    · have hk' : k = D.secs.length := by omega
      subst hk'
      have hc2 := hr.cells.2.2.1
      have hc3 := hr.cells.2.2.2.1
      have hf2 := hr.cells.2.2.2.2 2
      have hf3 := hr.cells.2.2.2.2 3
      have HF : Hid ((∃ vals', RIs ((wr.setCell ⟨p, 3, none⟩ (.bool false)).setCell ⟨p, 2, none⟩ (.int .i64 (-1))) B p (.slice (some ⟨g, 0, none⟩) D.secs.length gc) vals' (rof (D.crashed kept)) ∧ NewOr w vals vals') ∧ Fr2 B w ((wr.setCell ⟨p, 3, none⟩ (.bool false)).setCell ⟨p, 2, none⟩ (.int .i64 (-1)))) := by
        have r1 := hr.set (R' := rof { D.crashTo kept D.secs.length with dark := false }) 3 (.bool false) rfl hr.lo hr.hi rfl
        have r2 := r1.set (R' := rof (D.crashed kept)) 2 (.int .i64 (-1)) rfl (by show (-1 : Int) ≤ -1; omega) (by show (-1 : Int) ≤ _; omega) rfl
        exact ⟨⟨_, r2, nw⟩, (hR.fr.trans (fr2_setCell hr.bp hr.blk (.inl rfl))).trans (fr2_setCell r1.bp r1.blk (.inl rfl))⟩
      clear hR hr
      go_wp2
      go_end0
      exact ⟨rfl, unhide HF⟩

end Go.Proofs.Ytaflibnalhfenaa
