/- The contract of the document's own Make. -/
import Derived.Test.YtaflibnalhfenaaRfA
namespace Go.Proofs.Ytaflibnalhfenaa
open Go.RowKit
set_option linter.unusedVariables false

def RDk.fresh (n : Nat) : RDk := ⟨List.replicate n [nought], 0, -1, false⟩
theorem infoStr : (Try.prog.info? 9).map (fun i => (i.zero, i.size, i.bytes)) = some (some (.string ⟨#[]⟩), 1, 16) := by kernel_rfl
theorem infoSl : (Try.prog.info? 68).map (fun i => (i.zero, i.size, i.bytes)) = some (some (.slice none 0 0), 1, 24) := by kernel_rfl

set_option maxRecDepth 100000 in
set_option maxHeartbeats 400000 in
theorem rMake_bad (n : Int) (w : World) (h : n < 1 ∨ 4096 < n) :
    Calls Try.prog 10 #[.int .i64 n] w fun e w' => e = .returned (.tuple #[.pointer none, .int .i64 2]) ∧ w' = w := by
  rcases h with h | h
  · go_enter Try.func10, Try.ntmps10
    go_wp2
    go_ret2
    exact ⟨rfl, rfl⟩
  · have h0 : decide (n < 1) = false := by simp; omega
    go_enter Try.func10, Try.ntmps10
    go_wp2
    go_ret2
    exact ⟨rfl, rfl⟩

theorem strs_one (W : World) (x : List UInt8) : StrsAt (W.alloc (.cells #[str x] 9)) (.slice (some ⟨W.heap.size, 0, none⟩) 1 1) [x] :=
  ⟨W.heap.size, 1, #[str x], rfl, heap_alloc_last W _, by simp, by simp, fun j y hy => by
    match j, hy with
    | 0, hy => simp at hy; subst hy; rfl⟩

structure MRel (w : World) (B p n k : Nat) (wr : World) : Prop where
  ex : ∃ v vals, RIs wr B p v vals ⟨List.replicate k [nought], 0, -1, false⟩ ∧ ∀ sv ∈ vals, ∀ j, sv.ownBlock = some j → w.heap.size ≤ j
  fr : Below B w wr

set_option maxHeartbeats 800000 in
set_option maxRecDepth 100000 in
theorem rMake_ok (n : Nat) (w : World) (h1 : 1 ≤ n) (h2 : n ≤ 4096) :
    Calls Try.prog 10 #[.int .i64 n] w fun e w' => e = .returned (.tuple #[.pointer (some ⟨w.heap.size, 0, none⟩), .int .i64 0]) ∧ (∃ v vals, RIs w' w.heap.size w.heap.size v vals (RDk.fresh n) ∧ ∀ sv ∈ vals, ∀ j, sv.ownBlock = some j → w.heap.size ≤ j) ∧ Below w.heap.size w w' := by
  obtain ⟨i0, hi, hz0, hz1, hz2⟩ := info_parts infoSl
  have R0 : MRel w w.heap.size w.heap.size n 0 (w.alloc (.cells #[.slice none 0 0, .int .i64 0, .int .i64 (-1), .bool false] 52)) := by
    refine ⟨⟨.slice none 0 0, [], ⟨?_, World.ownsRow_nil _ _ _ _, Nat.le_refl _, by simp, ?_, by simp, by simp⟩, fun sv h => by cases h⟩, (Below.refl _ _).alloc (Nat.le_refl _) _⟩
    · exact heap_alloc_last w _
    · intro i l hi; simp at hi
  have HR0 := hide R0
  clear R0
  go_enter Try.func10, Try.ntmps10
  go_wp2
  go_loopw [5] (fun i wr => ∃ k : Nat, k ≤ n ∧ i = .int .i64 k ∧ MRel w w.heap.size w.heap.size n k wr) (fun i _ => n - (intOf i).toNat)
  case atStart => exact ⟨0, by omega, rfl, unhide HR0⟩
  case round =>
    clear HR0
    obtain ⟨k, hk, rfl, hR⟩ := hrel
    by_cases hlt : k < n
    · obtain ⟨v, vals, hD, hnw⟩ := hR.ex
      have HNW : Hid (∀ sv ∈ vals ++ [Value.slice (some ⟨wr.heap.size + 1, 0, none⟩) 1 1], ∀ j, sv.ownBlock = some j → w.heap.size ≤ j) := fun sv hsv j hj => by
        rcases List.mem_append.1 hsv with h | h
        · exact hnw sv h j hj
        · rw [List.mem_singleton] at h
          subst h
          obtain rfl : wr.heap.size + 1 = j := by simpa [Value.ownBlock] using hj
          have := hR.fr.size
          omega
      clear hnw
      obtain ⟨cr, _, _, _, cf⟩ := hD.cells
      have cf0 := cf 0
      clear cf
      have hpl := lt_of_heap hD.blk
      obtain ⟨W3, hW3⟩ : ∃ W3, W3 = (((wr.alloc (.cells (bv nought).toArray 5)).alloc (.cells #[str nought] 9)).alloc (.cells #[.slice (some ⟨wr.heap.size + 1, 0, none⟩) 1 1] 68)).drew := ⟨_, rfl⟩
      have bW : Below wr.heap.size wr W3 := by rw [hW3]; exact ((((Below.refl _ _).alloc (Nat.le_refl _) _).alloc (by simp) _).alloc (by simp; omega) _).drew
      have hsW : StrsAt W3 (.slice (some ⟨wr.heap.size + 1, 0, none⟩) 1 1) [nought] := by
        have h1 := (strs_one (wr.alloc (.cells (bv nought).toArray 5)) nought).below ((Below.refl _ _).alloc (Nat.le_refl _) (.cells #[.slice (some ⟨wr.heap.size + 1, 0, none⟩) 1 1] 68)).drew
        rw [hW3]
        simpa using h1
      have hoW : W3.ownsRow w.heap.size 68 1 v k vals := by
        have := (hD.below bW).own
        simpa using this
      have hnW : ∀ j u, [Value.slice (some ⟨wr.heap.size + 1, 0, none⟩) 1 1][j]? = some u → W3.cell? ((⟨wr.heap.size + 1 + 1, 0, none⟩ : Addr).add j) = some u := by
        intro j u hu
        have hh : W3.heap[wr.heap.size + 1 + 1]? = some (.cells #[.slice (some ⟨wr.heap.size + 1, 0, none⟩) 1 1] 68 (0, 0)) := by
          rw [hW3]
          have e : ((wr.alloc (.cells (bv nought).toArray 5)).alloc (.cells #[str nought] 9)).heap.size = wr.heap.size + 1 + 1 := by simp
          rw [← e]
          exact heap_alloc_last _ _
        exact World.news_of_block hh j u hu
      have hszW : W3.heap.size = wr.heap.size + 1 + 1 + 1 := by rw [hW3]; simp
      have hbase : w.heap.size ≤ W3.heap.size := by omega
      have hk1 := (hD.below bW).kinds.1
      have hcW := (bW.cell (p := ⟨w.heap.size, 0, none⟩) hpl).trans cr
      have hfW := (bW.frozen (p := ⟨w.heap.size, 0, none⟩) hpl).trans cf0
      have HP := hide (fun (w1 : World) (v' : Value) hown hg => hD.push (w1 := w1) (v' := v') bW _ [nought] hsW hown hg)
      have HFr := hide hR.fr
      have HoW := hide hoW
      have HnW := hide hnW
      have Hbase := hide hbase
      have HSt : Hid (∀ w1, W3.grownBy w1 v.ownBlock → w1.cell? ⟨w.heap.size, 0, none⟩ = some v ∧ w1.frozen? ⟨w.heap.size, 0, none⟩ = false) := fun w1 hg =>
        ⟨(hg.cell_far ⟨w.heap.size, 0, none⟩ (by show w.heap.size < _; omega) hk1).trans hcW, (hg.frozen_far ⟨w.heap.size, 0, none⟩ (by show w.heap.size < _; omega) hk1).trans hfW⟩
      have g1 := cell_alloc cr (.cells (bv nought).toArray 5)
      have g2 := cell_alloc g1 (.cells #[str nought] 9)
      have g3 := cell_alloc g2 (.cells #[.slice (some ⟨wr.heap.size + 1, 0, none⟩) 1 1] 68)
      clear hD hR hsW hoW hnW hbase hk1 hcW hfW bW hszW
      subst hW3
      go_wp2
      go_region_law (first
        | (refine step_append_lies _ rfl (.tmp 23) (.tmp 26) 50 rfl w.heap.size 68 i0 (.slice none 0 0) 1 24 Try.underlying50 hi hz0 hz1 hz2 rfl (by decide) v k vals (by simp [Act.eval]) (unhide HoW) ⟨wr.heap.size + 1 + 1, 0, none⟩ 1 1 [Value.slice (some ⟨wr.heap.size + 1, 0, none⟩) 1 1] (by simp [Act.eval]) rfl (unhide HnW) (by intro u hu; simp at hu; subst hu; rfl) (by decide) (by unfold maxLen; omega) (by omega) (unhide Hbase) _ rfl ?_; intro q cap w1 hown1 hgrow hat hqlt; have k1 := (unhide HSt w1 hgrow).1; have k2 := (unhide HSt w1 hgrow).2)
        | (go_simp; refine (nought_any _).mono ?_; rintro e w2 ⟨rfl, rfl⟩))
      all_goals
        have R : MRel w w.heap.size w.heap.size n (k + 1) (w1.setCell ⟨w.heap.size, 0, none⟩ (.slice (some ⟨q, 0, none⟩) (k + 1) cap)) := by
          obtain ⟨r1, r2⟩ := unhide HP w1 _ (by simpa using hown1) hgrow
          have e : List.replicate (k + 1) [nought] = List.replicate k [nought] ++ [[nought]] := List.replicate_succ'
          exact ⟨⟨_, _, by rw [e]; exact r1, unhide HNW⟩, (unhide HFr).trans r2.below⟩
        clear hown1 hgrow hat hqlt k1 k2 HP HoW HnW Hbase HSt HFr g1 g2 g3 cr cf0
        go_wp2
        go_roundw
        case rel => exact ⟨k + 1, by omega, by go_num, R⟩
        case measure => simp [intOf]; omega
    · have hk' : k = n := by omega
      subst hk'
      have HR := hide hR
      clear hR
      go_wp2
      go_ret2
      exact ⟨rfl, (unhide HR).ex, (unhide HR).fr⟩

end Go.Proofs.Ytaflibnalhfenaa
