/- The landed word: spans in memory; made, isSize, fitsU, fitsS, left, next. -/
import Derived.Test.YtkmcpedhcdgnoaaWdQ
import Derived.Laws.CopyOwn
namespace Go.Proofs.Ytkmcpedhcdgnoaa
open Go.RowKit
set_option linter.unusedVariables false

/-- A span at block x, its bytes in block y. -/
structure Sp (T : TypeId) (w : World) (B x y c : Nat) (bs : List UInt8) (i : Nat) : Prop where
  hx : B ≤ x
  ne : x ≠ y
  blk : w.heap[x]? = some (.cells #[.slice (some ⟨y, 0, none⟩) bs.length c, .int .i64 (i : Int)] T (0, 0))
  row : w.ownsRow B 5 1 (.slice (some ⟨y, 0, none⟩) bs.length c) bs.length (bv bs)
theorem Sp.c0 {T : TypeId} {w : World} {B x y c : Nat} {bs : List UInt8} {i : Nat} (h : Sp T w B x y c bs i) : w.cell? ⟨x, 0, none⟩ = some (.slice (some ⟨y, 0, none⟩) bs.length c) := by rw [cell_of_row _ _ _ _ _ _ h.blk]; rfl
theorem Sp.c1 {T : TypeId} {w : World} {B x y c : Nat} {bs : List UInt8} {i : Nat} (h : Sp T w B x y c bs i) : w.cell? ⟨x, 1, none⟩ = some (.int .i64 (i : Int)) := by rw [cell_of_row _ _ _ _ _ _ h.blk]; rfl
theorem Sp.fz {T : TypeId} {w : World} {B x y c : Nat} {bs : List UInt8} {i : Nat} (h : Sp T w B x y c bs i) (j : Nat) : w.frozen? ⟨x, j, none⟩ = false := frozen_of_row _ _ _ _ _ h.blk
theorem Sp.xlt {T : TypeId} {w : World} {B x y c : Nat} {bs : List UInt8} {i : Nat} (h : Sp T w B x y c bs i) : x < w.heap.size := lt_of_heap h.blk
theorem Sp.y {T : TypeId} {w : World} {B x y c : Nat} {bs : List UInt8} {i : Nat} (h : Sp T w B x y c bs i) : B ≤ y ∧ y < w.heap.size := h.row.lt y rfl
theorem Sp.keep {T : TypeId} {w w' : World} {B x y c : Nat} {bs : List UInt8} {i : Nat} (h : Sp T w B x y c bs i) (hx : w'.heap[x]? = w.heap[x]?) (hy : w'.heap[y]? = w.heap[y]?) : Sp T w' B x y c bs i :=
  ⟨h.hx, h.ne, hx.trans h.blk, own_of_block h.row (fun k hk => by
    simp [Value.ownBlock] at hk
    subst hk
    exact hy)⟩
theorem Sp.below {T : TypeId} {w w' : World} {B x y c : Nat} {bs : List UInt8} {i : Nat} (h : Sp T w B x y c bs i) (f : Below w.heap.size w w') : Sp T w' B x y c bs i := h.keep (f.block x h.xlt) (f.block y h.y.2)
theorem Sp.base {T : TypeId} {w : World} {B B' x y c : Nat} {bs : List UInt8} {i : Nat} (h : Sp T w B x y c bs i) (hB : B' ≤ B) : Sp T w B' x y c bs i := ⟨Nat.le_trans hB h.hx, h.ne, h.blk, own_base h.row hB⟩
/-- The place moved. -/
theorem Sp.move {T : TypeId} {w : World} {B x y c : Nat} {bs : List UInt8} {i : Nat} (h : Sp T w B x y c bs i) (K : Nat) : Sp T (w.setCell ⟨x, 1, none⟩ (.int .i64 (K : Int))) B x y c bs K :=
  ⟨h.hx, h.ne, heap_setCell_same w x 1 _ _ _ h.blk, own_of_block h.row (fun k hk => by
    simp [Value.ownBlock] at hk
    subst hk
    exact Below.heap_setCell _ _ _ _ h.ne.symm)⟩

def RD (F : Nat → Prop) (w : World) (B x : Nat) (bs : List UInt8) (i : Nat) : Prop := ∃ y c, F = (fun k => k = x ∨ k = y) ∧ Sp 61 w B x y c bs i
def WR (F : Nat → Prop) (w : World) (B x : Nat) (bs : List UInt8) : Prop := ∃ y c, F = (fun k => k = x ∨ k = y) ∧ Sp 62 w B x y c bs bs.length

theorem dmade_any (w : World) (B x y c : Nat) (bs : List UInt8) (i : Nat) (h : Sp 61 w B x y c bs i) :
    Calls Try.prog 35 #[.pointer (some ⟨x, 0, none⟩)] w fun e w' => e = .returned (.bool true) ∧ w' = w := by
  have c0 := h.c0
  have q : ∀ (w : World) (a : Option Addr) (n c : Nat), (binOp .neq 22 (.slice a n c) (.slice none 0 0)).run Try.prog w = .ok (.bool (!a.isNone)) w := fun w a n c => run_neq_slice_nil_any w _ _ a n c 0 0 Try.underlying22
  clear h
  go_enter Try.func35, Try.ntmps35
  go_wp2
  go_ret
  exact ⟨rfl, rfl⟩
theorem emade_any (w : World) (B x y c : Nat) (bs : List UInt8) (i : Nat) (h : Sp 62 w B x y c bs i) :
    Calls Try.prog 42 #[.pointer (some ⟨x, 0, none⟩)] w fun e w' => e = .returned (.bool true) ∧ w' = w := by
  have c0 := h.c0
  have q : ∀ (w : World) (a : Option Addr) (n c : Nat), (binOp .neq 22 (.slice a n c) (.slice none 0 0)).run Try.prog w = .ok (.bool (!a.isNone)) w := fun w a n c => run_neq_slice_nil_any w _ _ a n c 0 0 Try.underlying22
  clear h
  go_enter Try.func42, Try.ntmps42
  go_wp2
  go_ret
  exact ⟨rfl, rfl⟩
theorem dmade_nil (w : World) :
    Calls Try.prog 35 #[.pointer none] w fun e w' => e = .returned (.bool false) ∧ w' = w := by
  go_enter Try.func35, Try.ntmps35
  go_wp2
  go_ret
  exact ⟨rfl, rfl⟩
theorem emade_nil (w : World) :
    Calls Try.prog 42 #[.pointer none] w fun e w' => e = .returned (.bool false) ∧ w' = w := by
  go_enter Try.func42, Try.ntmps42
  go_wp2
  go_ret
  exact ⟨rfl, rfl⟩
theorem dmade_void (w : World) (x : Nat) (h : w.heap[x]? = some (.cells #[.slice none 0 0, .int .i64 0] 61 (0, 0))) :
    Calls Try.prog 35 #[.pointer (some ⟨x, 0, none⟩)] w fun e w' => e = .returned (.bool false) ∧ w' = w := by
  have c0 : w.cell? ⟨x, 0, none⟩ = some (.slice none 0 0) := by rw [cell_of_row _ _ _ _ _ _ h]; rfl
  have q : ∀ (w : World) (a : Option Addr) (n c : Nat), (binOp .neq 22 (.slice a n c) (.slice none 0 0)).run Try.prog w = .ok (.bool (!a.isNone)) w := fun w a n c => run_neq_slice_nil_any w _ _ a n c 0 0 Try.underlying22
  clear h
  go_enter Try.func35, Try.ntmps35
  go_wp2
  go_ret
  exact ⟨rfl, rfl⟩
theorem emade_void (w : World) (x : Nat) (h : w.heap[x]? = some (.cells #[.slice none 0 0, .int .i64 0] 62 (0, 0))) :
    Calls Try.prog 42 #[.pointer (some ⟨x, 0, none⟩)] w fun e w' => e = .returned (.bool false) ∧ w' = w := by
  have c0 : w.cell? ⟨x, 0, none⟩ = some (.slice none 0 0) := by rw [cell_of_row _ _ _ _ _ _ h]; rfl
  have q : ∀ (w : World) (a : Option Addr) (n c : Nat), (binOp .neq 22 (.slice a n c) (.slice none 0 0)).run Try.prog w = .ok (.bool (!a.isNone)) w := fun w a n c => run_neq_slice_nil_any w _ _ a n c 0 0 Try.underlying22
  clear h
  go_enter Try.func42, Try.ntmps42
  go_wp2
  go_ret
  exact ⟨rfl, rfl⟩

set_option maxHeartbeats 1600000 in
theorem disSize_any (w : World) (k : Int) :
    Calls Try.prog 44 #[.int .i64 k] w fun e w' => e = .returned (.bool (decide (wide k))) ∧ w' = w := by
  by_cases h1 : k = 1
  · subst h1
    go_enter Try.func44, Try.ntmps44
    go_wp2
    go_ret
    exact ⟨rfl, rfl⟩
  by_cases h2 : k = 2
  · subst h2
    go_enter Try.func44, Try.ntmps44
    go_wp2
    go_ret
    exact ⟨rfl, rfl⟩
  by_cases h4 : k = 4
  · subst h4
    go_enter Try.func44, Try.ntmps44
    go_wp2
    go_ret
    exact ⟨rfl, rfl⟩
  by_cases h8 : k = 8
  · subst h8
    go_enter Try.func44, Try.ntmps44
    go_wp2
    go_ret
    exact ⟨rfl, rfl⟩
  · have b1 : (k == 1) = false := by simpa using h1
    have b2 : (k == 2) = false := by simpa using h2
    have b4 : (k == 4) = false := by simpa using h4
    have b8 : (k == 8) = false := by simpa using h8
    have hd : decide (wide k) = false := decide_eq_false (fun h => by rcases h with h | h | h | h <;> omega)
    rw [hd]
    clear hd
    go_enter Try.func44, Try.ntmps44
    go_wp2
    go_ret
    exact ⟨rfl, rfl⟩

set_option maxHeartbeats 1600000 in
theorem dfitsU_any (w : World) (k n : Int) (hw : wide k) (hn : -9223372036854775808 ≤ n ∧ n ≤ 9223372036854775807) :
    Calls Try.prog 40 #[.int .i64 k, .int .i64 n] w fun e w' => e = .returned (.bool (decide (fitsW k n false))) ∧ w' = w := by
  have key : ∀ D : Int, (fitsW k n false ↔ n / D = 0) → decide (fitsW k n false) = (n / D == 0) := fun D h => by
    rw [Bool.eq_iff_iff]; simpa using h
  rcases hw with rfl | rfl | rfl | rfl
  · rw [key 256 (by unfold fitsW; rw [if_neg (by decide), if_neg (by decide)]; constructor
                    · rintro ⟨_, h1, h2⟩; simp at h2; omega
                    · intro h; refine ⟨by unfold wide; omega, ?_⟩; simp; omega)]
    go_enter Try.func40, Try.ntmps40
    go_wp2
    go_ret
    exact ⟨rfl, rfl⟩
  · rw [key 65536 (by unfold fitsW; rw [if_neg (by decide), if_neg (by decide)]; constructor
                      · rintro ⟨_, h1, h2⟩; simp at h2; omega
                      · intro h; refine ⟨by unfold wide; omega, ?_⟩; simp; omega)]
    go_enter Try.func40, Try.ntmps40
    go_wp2
    go_ret
    exact ⟨rfl, rfl⟩
  · rw [key 4294967296 (by unfold fitsW; rw [if_neg (by decide), if_neg (by decide)]; constructor
                           · rintro ⟨_, h1, h2⟩; simp at h2; omega
                           · intro h; refine ⟨by unfold wide; omega, ?_⟩; simp; omega)]
    go_enter Try.func40, Try.ntmps40
    go_wp2
    go_ret
    exact ⟨rfl, rfl⟩
  · rw [key 18446744073709551616 (by unfold fitsW; rw [if_pos rfl]; constructor
                                     · rintro ⟨_, h⟩; simp at h; omega
                                     · intro h; refine ⟨by unfold wide; omega, ?_⟩; simp; omega)]
    go_enter Try.func40, Try.ntmps40
    go_wp2
    go_ret
    exact ⟨rfl, rfl⟩

theorem fitsS_key {n D : Int} {p : Prop} [Decidable p] (h : p ↔ (n / D = 0 ∨ n / D = -1)) : decide p = (n / D == 0 || n / D == -1) := by
  rw [Bool.eq_iff_iff]; simpa using h

end Go.Proofs.Ytkmcpedhcdgnoaa
