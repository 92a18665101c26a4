/- The contracts of Make and of. -/
import Derived.Test.YtaflibnalhfenaaDkG
namespace Go.Proofs.Ytaflibnalhfenaa
open Go.RowKit
set_option linter.unusedVariables false

def nought : List UInt8 := List.replicate 256 0
theorem nought_len : nought.length = 256 := List.length_replicate
def zsec : Array Value := #[Value.slice none 0 0] ++ Array.replicate 256 (Value.int .u8 0)
theorem zsec_size : zsec.size = 257 := by simp [zsec]
theorem infoS : (Try.prog.info? 77).map (fun i => (i.zero, i.size, i.bytes)) = some (some (.agg zsec), 257, 280) := by kernel_rfl
def srows (n : Nat) : Array Value := madeCells zsec (n * 257)
theorem srows_size (n : Nat) : (srows n).size = n * 257 := size_madeCells _ _
theorem srows_at (n i j : Nat) (hi : i < n) (hj : j < 257) : (srows n)[i * 257 + j]? = zsec[j]? := by
  unfold srows madeCells
  have hlt : i * 257 + j < n * 257 := by omega
  have hm : (i * 257 + j) % 257 = j := by omega
  rw [Array.getElem?_map, Array.getElem?_range, if_pos hlt, zsec_size]
  simp only [Option.map_some, hm]
  rw [getElem!_pos zsec j (by rw [zsec_size]; exact hj), Array.getElem?_eq_getElem]

def Dk.fresh (n : Nat) : Dk := ⟨List.replicate n ⟨nought, []⟩, 0, -1, false⟩

theorem makeS (n : Nat) (hn : n ≤ 4096) (w : World) : (Instr.makeSlice 63 (.int .i64 n) (.int .i64 n)).run Try.prog w = .ok (.slice (some ⟨w.heap.size, 0, none⟩) n n) (w.alloc (.cells (srows n) 77)) := by
  obtain ⟨i0, hi, hz0, hz1, hz2⟩ := info_parts infoS
  have := run_make (P := Try.prog) w 63 77 i0 (.agg zsec) Try.underlying63 hi hz0 .i64 .i64 n n (by omega) (by omega) (by rw [hz2]; omega) (by omega)
  rw [this, hz1]
  rfl

theorem zsec_zero : zsec[0]? = some (Value.slice none 0 0) := by
  unfold zsec
  rw [Array.getElem?_append_left (by simp)]
  rfl
theorem zsec_succ (j : Nat) (hj : j < 256) : zsec[j + 1]? = some (Value.int .u8 0) := by
  unfold zsec
  rw [Array.getElem?_append_right (by simp)]
  simp only [List.size_toArray, List.length_cons, List.length_nil, Nat.zero_add, Nat.add_sub_cancel]
  rw [Array.getElem?_replicate, if_pos hj]
theorem bv_nought (j : Nat) (u : Value) (h : (bv nought)[j]? = some u) : j < 256 ∧ u = Value.int .u8 0 := by
  have hj : j < 256 := by have := (List.getElem?_eq_some_iff.1 h).1; rw [bv_length, nought_len] at this; exact this
  refine ⟨hj, ?_⟩
  unfold bv nought at h
  rw [List.map_replicate, List.getElem?_replicate, if_pos hj] at h
  exact (Option.some.inj h).symm
theorem nought_ok : Sec.ok ⟨nought, []⟩ := ⟨nought_len, fun x hx => by cases hx⟩

theorem fresh_is (w : World) (n : Nat) (h1 : 1 ≤ n) (h2 : n ≤ 4096) (B : Nat) (hB : B ≤ w.heap.size) :
    IsDisk ((w.alloc (.cells (srows n) 77)).alloc (.cells #[.slice (some ⟨w.heap.size, 0, none⟩) n n, .int .i64 0, .int .i64 (-1), .bool false] 65)) B (w.heap.size + 1) w.heap.size (fun _ => .slice none 0 0) (Dk.fresh n) := by
  have hg : ((w.alloc (.cells (srows n) 77)).alloc (.cells #[.slice (some ⟨w.heap.size, 0, none⟩) n n, .int .i64 0, .int .i64 (-1), .bool false] 65)).heap[w.heap.size]? = some (.cells (srows n) 77 (0, 0)) := heap_alloc2_old w _ _
  refine ⟨?_, ⟨_, hg, ?_⟩, by omega, hB, ?_, ?_, ?_, ?_, ?_, ?_, ?_⟩
  · have := heap_alloc2_new w (.cells (srows n) 77) (.cells #[.slice (some ⟨w.heap.size, 0, none⟩) n n, .int .i64 0, .int .i64 (-1), .bool false] 65)
    simpa [Dk.fresh] using this
  · rw [srows_size]; simp [Dk.fresh]
  · simp; omega
  · intro i s hi
    have hin : i < n := by have := (List.getElem?_eq_some_iff.1 hi).1; simpa [Dk.fresh] using this
    have hs : s = ⟨nought, []⟩ := by
      simp only [Dk.fresh] at hi
      rw [List.getElem?_replicate, if_pos hin] at hi
      exact (Option.some.inj hi).symm
    subst hs
    refine ⟨nought_ok, ?_, ?_, World.ownsRow_nil _ _ _ _⟩
    · rw [cell_of_row _ _ _ _ _ _ hg]
      have := srows_at n i 0 hin (by omega)
      rw [Nat.add_zero] at this
      rw [this]; exact zsec_zero
    · intro j u hu
      obtain ⟨hj, rfl⟩ := bv_nought j u hu
      rw [cell_of_row _ _ _ _ _ _ hg, Nat.add_assoc, Nat.add_comm 1 j, srows_at n i (j + 1) hin (by omega)]
      exact zsec_succ j hj
  · intro i j _ _ _; exact .inl rfl
  · simpa [Dk.fresh] using h1
  · simpa [Dk.fresh] using h2
  · simp [Dk.fresh]
  · simp [Dk.fresh]

set_option maxRecDepth 100000 in
set_option maxHeartbeats 400000 in
theorem Make_ok (n : Nat) (w : World) (h1 : 1 ≤ n) (h2 : n ≤ 4096) :
    Calls Try.prog 9 #[.int .i64 n] w fun e w' => e = .returned (.tuple #[.pointer (some ⟨w.heap.size + 1, 0, none⟩), .int .i64 0]) ∧
      IsDisk w' w.heap.size (w.heap.size + 1) w.heap.size (fun _ => .slice none 0 0) (Dk.fresh n) ∧ Below w.heap.size w w' := by
  have hmk := makeS n h2
  have hf := fresh_is w n h1 h2 w.heap.size (Nat.le_refl _)
  have HF := hide hf
  clear hf
  go_enter Try.func9, Try.ntmps9
  go_wp2
  go_ret2
  exact ⟨rfl, unhide HF, ((Below.refl _ _).alloc (Nat.le_refl _) _).alloc (by simp) _⟩

set_option maxRecDepth 100000 in
set_option maxHeartbeats 400000 in
theorem Make_bad (n : Int) (w : World) (h : n < 1 ∨ 4096 < n) :
    Calls Try.prog 9 #[.int .i64 n] w fun e w' => e = .returned (.tuple #[.pointer none, .int .i64 2]) ∧ w' = w := by
  rcases h with h | h
  · go_enter Try.func9, Try.ntmps9
    go_wp2
    go_ret2
    exact ⟨rfl, rfl⟩
  · have h0 : decide (n < 1) = false := by simp; omega
    go_enter Try.func9, Try.ntmps9
    go_wp2
    go_ret2
    exact ⟨rfl, rfl⟩

/-! of: a sector of one byte. -/
def orow (c : UInt8) (k : Nat) : Array Value := (List.replicate k (Value.int .u8 (c.toNat : Int)) ++ List.replicate (256 - k) (Value.int .u8 0)).toArray
theorem orow_size (c : UInt8) (k : Nat) (hk : k ≤ 256) : (orow c k).size = 256 := by simp only [orow, List.size_toArray, List.length_append, List.length_replicate]; omega
theorem orow_get (c : UInt8) (k : Nat) (hk : k < 256) : (orow c k)[k]? = some (Value.int .u8 0) := by
  simp only [orow, List.getElem?_toArray]
  rw [List.getElem?_append_right (by simp), List.length_replicate, Nat.sub_self, List.getElem?_replicate, if_pos (by omega)]
theorem orow_set (c : UInt8) (k : Nat) (hk : k < 256) : (orow c k).setIfInBounds k (Value.int .u8 (c.toNat : Int)) = orow c (k + 1) := by
  unfold orow
  rw [List.setIfInBounds_toArray, List.set_append_right _ _ (by simp), List.length_replicate, Nat.sub_self, show 256 - k = (256 - (k + 1)) + 1 by omega, List.replicate_succ, List.set_cons_zero]
  rw [List.replicate_succ' (n := k)]
  simp
def allOf (c : UInt8) : List UInt8 := List.replicate 256 c
theorem allOf_len (c : UInt8) : (allOf c).length = 256 := List.length_replicate
theorem orow_full (c : UInt8) : orow c 256 = (bv (allOf c)).toArray := by
  unfold orow bv allOf
  rw [List.map_replicate, Nat.sub_self, List.replicate_zero, List.append_nil]
theorem makeB (w : World) (c : UInt8) : (Instr.makeSlice 37 (.int .i64 256) (.int .i64 256)).run Try.prog w = .ok (.slice (some ⟨w.heap.size, 0, none⟩) 256 256) (w.alloc (.cells (orow c 0) 5)) := by
  obtain ⟨i0, hi, hz0, hz1, hz2⟩ := info_parts infoB
  have := run_make (P := Try.prog) w 37 5 i0 (.int .u8 0) Try.underlying37 hi hz0 .i64 .i64 256 256 (by omega) (by omega) (by rw [hz2]; omega) (by omega)
  rw [this, hz1]
  have e : madeCells (Value.int .u8 0).cells (Int.toNat 256 * 1) = orow c 0 := by
    apply Array.toList_inj.1
    show (madeCells #[Value.int .u8 0] 256).toList = _
    rw [toList_madeCells_one]
    simp only [orow, List.replicate_zero, List.nil_append, Nat.sub_zero]
  rw [e]
  rfl

set_option maxHeartbeats 400000 in
set_option maxRecDepth 100000 in
theorem of_any (c : UInt8) (w : World) :
    Calls Try.prog 15 #[.int .u8 (c.toNat : Int)] w fun e w' => e = .returned (.slice (some ⟨w.heap.size, 0, none⟩) 256 256) ∧ w' = w.alloc (.cells (bv (allOf c)).toArray 5) := by
  have hmk := makeB w c
  go_enter Try.func15, Try.ntmps15
  go_wp2
  go_loopw [4] (fun i wr => ∃ k : Nat, k ≤ 256 ∧ i = .int .i64 k ∧ wr = w.alloc (.cells (orow c k) 5)) (fun i _ => 256 - (intOf i).toNat)
  case atStart => exact ⟨0, by omega, rfl, rfl⟩
  case round =>
    obtain ⟨k, hk, rfl, rfl⟩ := hrel
    by_cases hlt : k < 256
    · have hg := orow_get c k hlt
      have hs := orow_set c k hlt
      go_wp2
      go_roundw
      case rel => exact ⟨k + 1, by omega, by go_num, rfl⟩
      case measure => simp [intOf]; omega
    · have hk' : k = 256 := by omega
      subst hk'
      go_wp2
      go_ret
      exact ⟨rfl, by rw [orow_full]⟩

end Go.Proofs.Ytaflibnalhfenaa
