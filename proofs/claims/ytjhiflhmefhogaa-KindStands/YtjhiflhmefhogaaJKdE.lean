/- The landed kind: typeOf, Parse. -/
import Derived.Test.YtjhiflhmefhogaaJKdD
import Derived.Laws.ResultCell

namespace Go.Proofs.Ytjhiflhmefhogaa
open Go.RowKit
set_option linter.unusedVariables false
set_option maxRecDepth 100000

theorem sizeTy : (Try.prog.info? 23).map (·.size) = some 2 := by kernel_rfl
theorem ty_ret1 {fn : Func} {p : Tmp} (h : fn.results = #[.cell p 23]) (W : World) (r : Nat) (x y : Value) (hb : W.heap[r]? = some (.cells #[x, y] 23 (0, 0))) (tmps : Array Value) (hp : tmps.getD p undef = .pointer (some ⟨r, 0, none⟩)) :
    (results fn tmps).run Try.prog W = .ok (.agg #[x, y]) W :=
  results_cell_row h _ _ r 23 _ (0, 0) _ hp hb Try.underlying23 rfl sizeTy
theorem ty_ret2 {fn : Func} {p u : Tmp} (h : fn.results = #[.cell p 23, .tmp u]) (W : World) (r : Nat) (x y : Value) (hb : W.heap[r]? = some (.cells #[x, y] 23 (0, 0))) (tmps : Array Value) (hp : tmps.getD p undef = .pointer (some ⟨r, 0, none⟩)) :
    (results fn tmps).run Try.prog W = .ok (.tuple #[.agg #[x, y], tmps.getD u undef]) W := by
  rw [results_cell_tmp h, hp]
  simp [asAddr, run_loadVar_row W r 23 23 _ (0, 0) _ hb Try.underlying23 rfl sizeTy]
theorem ty_set {W : World} {A : Nat} {T : TypeId} {a0 a1 : Value} (c0 c1 : Value) (h : W.heap[A]? = some (.cells #[a0, a1] T (0, 0))) :
    ((W.setCell ⟨A, 0, none⟩ c0).setCell ⟨A, 1, none⟩ c1).heap[A]? = some (.cells #[c0, c1] T (0, 0)) :=
  heap_setCell_same _ A 1 _ _ c1 (heap_setCell_same W A 0 _ _ c0 h)
theorem ty_bel {B A : Nat} {w W : World} (c0 c1 : Value) (h : Below B w W) (hA : B ≤ A) : Below B w ((W.setCell ⟨A, 0, none⟩ c0).setCell ⟨A, 1, none⟩ c1) :=
  (h.setCell (p := ⟨A, 0, none⟩) hA _).setCell (p := ⟨A, 1, none⟩) hA _
/-- A box of a type, its cells, and that they may be written. -/
structure Bx2c (W : World) (r : Nat) (x y : Value) : Prop where
  row : W.heap[r]? = some (.cells #[x, y] 23 (0, 0))
theorem Bx2c.made (w : World) (x y : Value) : Bx2c (w.alloc (.cells #[x, y] 23)) w.heap.size x y := ⟨heap_alloc_last _ _⟩
theorem Bx2c.keep {W W' : World} {r : Nat} {x y : Value} (h : Bx2c W r x y) (f : Below W.heap.size W W') : Bx2c W' r x y := ⟨(f.block _ (lt_of_heap h.row)).trans h.row⟩
theorem Bx2c.cells {W : World} {r : Nat} {x y : Value} (h : Bx2c W r x y) : W.cell? ⟨r, 0, none⟩ = some x ∧ W.cell? ⟨r, 1, none⟩ = some y ∧ (∀ j, W.frozen? ⟨r, j, none⟩ = false) :=
  ⟨by rw [cell_of_row _ _ _ _ _ _ h.row]; rfl, by rw [cell_of_row _ _ _ _ _ _ h.row]; rfl, fun j => frozen_of_row _ _ _ _ _ h.row⟩
def tyV (t : Ty) : Value := .agg #[.int .i64 t.kind, .string ⟨t.name.toArray⟩]
theorem tyV_at (k : Int) (S : ByteArray) (s : List UInt8) (h : Str S s) : Value.agg #[.int .i64 k, .string S] = tyV ⟨k, s⟩ := by rw [h.eq]; rfl
theorem un73 {c : UInt8} {n : Nat} (h : c ≠ n.toUInt8) (hn : n < 256) : ¬ (c.toNat : Int) = n := fun e => h (UInt8.toNat_inj.1 (by simp; omega))
set_option maxHeartbeats 1600000 in
theorem ytypeOf_any (w : World) (S : ByteArray) (s : List UInt8) (hS : Str S s) (hs : s.length ≤ 140737488355328) (h0 : 0 < s.length) (hL : s[0]? = some 76 → 2 ≤ s.length) : Calls Try.prog 32 #[.string S] w fun e w' => e = .returned (tyV (typeP s)) ∧ Below w.heap.size w w' := by
  have hz := hS.size
  obtain ⟨c, hc⟩ : ∃ c, s[0]? = some c := ⟨_, List.getElem?_eq_getElem h0⟩
  obtain ⟨hk, q0⟩ := hS.at 0 c hc
  unfold typeP
  rw [hc] at hL ⊢
  have HS := hide hS
  clear hS hc
  by_cases c1 : c = 73
  · subst c1
    rw [if_pos rfl]
    go_enter Try.func32, Try.ntmps32
    go_wp2
    exact bodyPost_ret (ty_ret1 Try.results32 _ w.heap.size _ _ (heap_alloc_last _ _) _ rfl) rfl ⟨rfl, bA (Below.refl _ _) _⟩
  rw [if_neg (by simpa using c1)]
  by_cases c2 : c = 74
  · subst c2
    rw [if_pos rfl]
    go_enter Try.func32, Try.ntmps32
    go_wp2
    exact bodyPost_ret (ty_ret1 Try.results32 _ w.heap.size _ _ (heap_alloc_last _ _) _ rfl) rfl ⟨rfl, bA (Below.refl _ _) _⟩
  rw [if_neg (by simpa using c2)]
  by_cases c4 : c = 76
  · subst c4
    rw [if_pos rfl]
    have h2 := hL rfl
    have HV := hide (tyV_at 4 _ _ ((unhide HS).sub 1 (s.length - 1)))
    have e1 : s.length - 1 - 1 = s.length - 2 := by omega
    rw [e1] at HV
    generalize hn : s.length = n at *
    obtain ⟨m, hm⟩ : ∃ m, m = n - 1 := ⟨_, rfl⟩
    have hm2 : (n : Int) - 1 = m := by omega
    have hm3 : (1 : Int) ≤ m := by omega
    have hm4 : (m : Int) ≤ n := by omega
    have hm5 : 1 ≤ m := by omega
    have hm6 : m ≤ n := by omega
    rw [← hm] at HV
    clear hm HS hL
    go_enter Try.func32, Try.ntmps32
    go_wp2
    exact bodyPost_ret (ty_ret1 Try.results32 _ w.heap.size _ _ (heap_alloc_last _ _) _ rfl) rfl ⟨congrArg _ (unhide HV), bA (Below.refl _ _) _⟩
  · rw [if_neg (by simpa using c4)]
    have HV := hide (tyV_at 4 _ _ (unhide HS))
    have c1' : ¬ (c.toNat : Int) = 73 := un73 (n := 73) c1 (by decide)
    have c2' : ¬ (c.toNat : Int) = 74 := un73 (n := 74) c2 (by decide)
    have c4' : ¬ (c.toNat : Int) = 76 := un73 (n := 76) c4 (by decide)
    have d1' : ((c.toNat : Int) == 73) = false := by simpa using c1'
    have d2' : ((c.toNat : Int) == 74) = false := by simpa using c2'
    have d4' : ((c.toNat : Int) == 76) = false := by simpa using c4'
    clear c1 c2 c4 HS hL
    go_enter Try.func32, Try.ntmps32
    go_wp2
    exact bodyPost_ret (ty_ret1 Try.results32 _ w.heap.size _ _ (heap_alloc_last _ _) _ rfl) rfl ⟨congrArg _ (unhide HV), bA (Below.refl _ _) _⟩
theorem sizeN_L {s : List UInt8} (h : sizeN s = s.length) (hL : s[0]? = some 76) : 2 ≤ s.length := by
  cases s with
  | nil => simp at hL
  | cons c t =>
    simp at hL
    subst hL
    have hd : deepN (76 :: t) = 0 := by simp [deepN]
    unfold sizeN at h
    rw [hd] at h
    simp [innN] at h
    split at h
    · simp at h
    · rename_i hx
      split at h
      · rename_i hi
        omega
      · rename_i hi
        have := idx_lt t 59 hi
        simp; omega
set_option maxHeartbeats 1600000 in
theorem yParse_any (w : World) (S : ByteArray) (s : List UInt8) (hS : Str S s) (hs : s.length ≤ 140737488355328) : Calls Try.prog 9 #[.string S] w fun e w' => e = .returned (.tuple #[tyV (parP s).1, .int .i64 (parP s).2]) ∧ Below w.heap.size w w' := by
  have hz := hS.size
  obtain ⟨w0, hw0⟩ : ∃ w0, w0 = w.alloc (.cells #[.int .i64 0, .string ⟨#[]⟩] 23) := ⟨_, rfl⟩
  have HB : Hid (Bx2c w0 w.heap.size (.int .i64 0) (.string ⟨#[]⟩)) := by rw [hw0]; exact Bx2c.made _ _ _
  have F0 : Hid (Below w.heap.size w w0) := by rw [hw0]; exact bA (Below.refl _ _) _
  have HW0 := hide hw0
  clear hw0
  have HZ := hide (ysize_any w0 S s hS hs)
  by_cases h : sizeN s = 0 ∨ sizeN s ≠ s.length
  · have e : parP s = (ty0, 100) := if_pos h
    rw [e]
    show Calls _ _ _ _ fun e w' => e = .returned (.tuple #[.agg #[.int .i64 0, .string ⟨#[]⟩], .int .i64 100]) ∧ Below w.heap.size w w'
    obtain ⟨k0, k1, k2⟩ := (unhide HB).cells
    clear e hS
    generalize s.length = n at *
    generalize sizeN s = m at *
    rcases Classical.em (m = 0) with h0 | h0
    · subst h0
      clear h
      go_enter Try.func9, Try.ntmps9
      go_wp2_with fail
      rw [← unhide HW0]
      refine (unhide HZ).mono ?_
      rintro e w' ⟨rfl, hw⟩
      rw [hw]
      clear hw
      go_wp2
      exact bodyPost_ret (ty_ret2 Try.results9 _ w.heap.size _ _ (ty_set _ _ (unhide HB).row) _ rfl) rfl ⟨rfl, ty_bel _ _ (unhide F0) (Nat.le_refl _)⟩
    · have h1 : ((m : Int) == 0) = false := by simp; omega
      have h2 : ¬ (m : Int) = n := by rcases h with h | h <;> omega
      have h3 : ((m : Int) != (n : Int)) = true := by simp; omega
      have h4 : ((m : Int) == (n : Int)) = false := by simp; omega
      have h5 : ¬ (m : Int) = 0 := by omega
      clear h
      go_enter Try.func9, Try.ntmps9
      go_wp2_with fail
      rw [← unhide HW0]
      refine (unhide HZ).mono ?_
      rintro e w' ⟨rfl, hw⟩
      rw [hw]
      clear hw
      go_wp2
      exact bodyPost_ret (ty_ret2 Try.results9 _ w.heap.size _ _ (ty_set _ _ (unhide HB).row) _ rfl) rfl ⟨rfl, ty_bel _ _ (unhide F0) (Nat.le_refl _)⟩
  · have e : parP s = (typeP s, 0) := if_neg h
    rw [e]
    have h1 : sizeN s ≠ 0 := fun e => h (.inl e)
    have h2 : sizeN s = s.length := Classical.byContradiction fun e => h (.inr e)
    have HT := hide (ytypeOf_any w0 S s hS hs (by rw [← h2]; omega) (sizeN_L h2))
    rw [h2] at HZ h1
    have h3 : ((s.length : Int) == 0) = false := by rw [beq_eq_false_iff_ne]; omega
    have h4 : ¬ (s.length : Int) = 0 := by omega
    generalize typeP s = tp at *
    obtain ⟨tk, tn⟩ := tp
    unfold tyV at *
    simp only at HT ⊢
    generalize (⟨tn.toArray⟩ : ByteArray) = T at *
    generalize s.length = n at *
    clear e hS h h2
    go_enter Try.func9, Try.ntmps9
    go_wp2_with fail
    rw [← unhide HW0]
    refine (unhide HZ).mono ?_
    rintro e w' ⟨rfl, hw⟩
    rw [hw]
    clear hw
    go_wp2_with fail
    refine (unhide HT).mono ?_
    rintro e w1 ⟨rfl, f1⟩
    have HB1 := hide ((unhide HB).keep f1)
    have F1 := hide ((unhide F0).trans (f1.mono (unhide F0).size))
    obtain ⟨k0, k1, k2⟩ := (unhide HB1).cells
    clear f1
    go_wp2
    exact bodyPost_ret (ty_ret2 Try.results9 _ w.heap.size _ _ (ty_set _ _ (unhide HB1).row) _ rfl) rfl ⟨rfl, ty_bel _ _ (unhide F1) (Nat.le_refl _)⟩
end Go.Proofs.Ytjhiflhmefhogaa
