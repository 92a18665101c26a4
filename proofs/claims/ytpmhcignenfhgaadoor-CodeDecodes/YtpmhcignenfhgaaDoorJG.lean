/- Joined: WdL1 WdL2 WdL3 WdL4 WdL5 WdL6 WdL7 WdL8. -/
import Derived.Test.YtpmhcignenfhgaaDoorJD
import Derived.Laws.CopyOwn
import Derived.Laws.BitsAllLaws

/- The landed word: spans in memory; made, isSize, fitsU, fitsS, left, next. -/
namespace Go.Proofs.YtpmhcignenfhgaaDoor
open Go.RowKit
set_option linter.unusedVariables false

/-- A span at block x, its bytes in block y. -/
structure Sp (T : TypeId) (w : World) (B x y c : Nat) (bs : List UInt8) (i : Nat) : Prop where
  hx : B ≤ x
  ne : x ≠ y
  blk : w.heap[x]? = some (.cells #[.slice (some ⟨y, 0, none⟩) bs.length c, .int .i64 (i : Int)] T (0, 0))
  row : w.ownsRow B 5 1 (.slice (some ⟨y, 0, none⟩) bs.length c) bs.length (bv bs)
theorem Sp.c0 {T : TypeId} {w : World} {B x y c : Nat} {bs : List UInt8} {i : Nat} (h : Sp T w B x y c bs i) : w.cell? ⟨x, 0, none⟩ = some (.slice (some ⟨y, 0, none⟩) bs.length c) := by rw [cell_of_row _ _ _ _ _ _ h.blk]; rfl
theorem Sp.c1 {T : TypeId} {w : World} {B x y c : Nat} {bs : List UInt8} {i : Nat} (h : Sp T w B x y c bs i) : w.cell? ⟨x, 1, none⟩ = some (.int .i64 (i : Int)) := by rw [cell_of_row _ _ _ _ _ _ h.blk]; rfl
theorem Sp.fz {T : TypeId} {w : World} {B x y c : Nat} {bs : List UInt8} {i : Nat} (h : Sp T w B x y c bs i) (j : Nat) : w.frozen? ⟨x, j, none⟩ = false := frozen_of_row _ _ _ _ _ h.blk
theorem Sp.xlt {T : TypeId} {w : World} {B x y c : Nat} {bs : List UInt8} {i : Nat} (h : Sp T w B x y c bs i) : x < w.heap.size := lt_of_heap h.blk
theorem Sp.y {T : TypeId} {w : World} {B x y c : Nat} {bs : List UInt8} {i : Nat} (h : Sp T w B x y c bs i) : B ≤ y ∧ y < w.heap.size := h.row.lt y rfl
theorem Sp.keep {T : TypeId} {w w' : World} {B x y c : Nat} {bs : List UInt8} {i : Nat} (h : Sp T w B x y c bs i) (hx : w'.heap[x]? = w.heap[x]?) (hy : w'.heap[y]? = w.heap[y]?) : Sp T w' B x y c bs i :=
  ⟨h.hx, h.ne, hx.trans h.blk, own_of_block h.row (fun k hk => by
    simp [Value.ownBlock] at hk
    subst hk
    exact hy)⟩
theorem Sp.below {T : TypeId} {w w' : World} {B x y c : Nat} {bs : List UInt8} {i : Nat} (h : Sp T w B x y c bs i) (f : Below w.heap.size w w') : Sp T w' B x y c bs i := h.keep (f.block x h.xlt) (f.block y h.y.2)
theorem Sp.base {T : TypeId} {w : World} {B B' x y c : Nat} {bs : List UInt8} {i : Nat} (h : Sp T w B x y c bs i) (hB : B' ≤ B) : Sp T w B' x y c bs i := ⟨Nat.le_trans hB h.hx, h.ne, h.blk, own_base h.row hB⟩
/-- The place moved. -/
theorem Sp.move {T : TypeId} {w : World} {B x y c : Nat} {bs : List UInt8} {i : Nat} (h : Sp T w B x y c bs i) (K : Nat) : Sp T (w.setCell ⟨x, 1, none⟩ (.int .i64 (K : Int))) B x y c bs K :=
  ⟨h.hx, h.ne, heap_setCell_same w x 1 _ _ _ h.blk, own_of_block h.row (fun k hk => by
    simp [Value.ownBlock] at hk
    subst hk
    exact Below.heap_setCell _ _ _ _ h.ne.symm)⟩

def RD (F : Nat → Prop) (w : World) (B x : Nat) (bs : List UInt8) (i : Nat) : Prop := ∃ y c, F = (fun k => k = x ∨ k = y) ∧ Sp 95 w B x y c bs i
def WR (F : Nat → Prop) (w : World) (B x : Nat) (bs : List UInt8) : Prop := ∃ y c, F = (fun k => k = x ∨ k = y) ∧ Sp 105 w B x y c bs bs.length

theorem dmade_any (w : World) (B x y c : Nat) (bs : List UInt8) (i : Nat) (h : Sp 95 w B x y c bs i) :
    Calls Tryd.prog 58 #[.pointer (some ⟨x, 0, none⟩)] w fun e w' => e = .returned (.bool true) ∧ w' = w := by
  have c0 := h.c0
  have q : ∀ (w : World) (a : Option Addr) (n c : Nat), (binOp .neq 22 (.slice a n c) (.slice none 0 0)).run Tryd.prog w = .ok (.bool (!a.isNone)) w := fun w a n c => run_neq_slice_nil_any w _ _ a n c 0 0 Tryd.underlying22
  clear h
  go_enter Tryd.func58, Tryd.ntmps58
  go_wp2
  go_ret
  exact ⟨rfl, rfl⟩
theorem emade_any (w : World) (B x y c : Nat) (bs : List UInt8) (i : Nat) (h : Sp 105 w B x y c bs i) :
    Calls Tryd.prog 71 #[.pointer (some ⟨x, 0, none⟩)] w fun e w' => e = .returned (.bool true) ∧ w' = w := by
  have c0 := h.c0
  have q : ∀ (w : World) (a : Option Addr) (n c : Nat), (binOp .neq 22 (.slice a n c) (.slice none 0 0)).run Tryd.prog w = .ok (.bool (!a.isNone)) w := fun w a n c => run_neq_slice_nil_any w _ _ a n c 0 0 Tryd.underlying22
  clear h
  go_enter Tryd.func71, Tryd.ntmps71
  go_wp2
  go_ret
  exact ⟨rfl, rfl⟩
theorem dmade_nil (w : World) :
    Calls Tryd.prog 58 #[.pointer none] w fun e w' => e = .returned (.bool false) ∧ w' = w := by
  go_enter Tryd.func58, Tryd.ntmps58
  go_wp2
  go_ret
  exact ⟨rfl, rfl⟩
theorem emade_nil (w : World) :
    Calls Tryd.prog 71 #[.pointer none] w fun e w' => e = .returned (.bool false) ∧ w' = w := by
  go_enter Tryd.func71, Tryd.ntmps71
  go_wp2
  go_ret
  exact ⟨rfl, rfl⟩
theorem dmade_void (w : World) (x : Nat) (h : w.heap[x]? = some (.cells #[.slice none 0 0, .int .i64 0] 95 (0, 0))) :
    Calls Tryd.prog 58 #[.pointer (some ⟨x, 0, none⟩)] w fun e w' => e = .returned (.bool false) ∧ w' = w := by
  have c0 : w.cell? ⟨x, 0, none⟩ = some (.slice none 0 0) := by rw [cell_of_row _ _ _ _ _ _ h]; rfl
  have q : ∀ (w : World) (a : Option Addr) (n c : Nat), (binOp .neq 22 (.slice a n c) (.slice none 0 0)).run Tryd.prog w = .ok (.bool (!a.isNone)) w := fun w a n c => run_neq_slice_nil_any w _ _ a n c 0 0 Tryd.underlying22
  clear h
  go_enter Tryd.func58, Tryd.ntmps58
  go_wp2
  go_ret
  exact ⟨rfl, rfl⟩
theorem emade_void (w : World) (x : Nat) (h : w.heap[x]? = some (.cells #[.slice none 0 0, .int .i64 0] 105 (0, 0))) :
    Calls Tryd.prog 71 #[.pointer (some ⟨x, 0, none⟩)] w fun e w' => e = .returned (.bool false) ∧ w' = w := by
  have c0 : w.cell? ⟨x, 0, none⟩ = some (.slice none 0 0) := by rw [cell_of_row _ _ _ _ _ _ h]; rfl
  have q : ∀ (w : World) (a : Option Addr) (n c : Nat), (binOp .neq 22 (.slice a n c) (.slice none 0 0)).run Tryd.prog w = .ok (.bool (!a.isNone)) w := fun w a n c => run_neq_slice_nil_any w _ _ a n c 0 0 Tryd.underlying22
  clear h
  go_enter Tryd.func71, Tryd.ntmps71
  go_wp2
  go_ret
  exact ⟨rfl, rfl⟩

set_option maxHeartbeats 1600000 in
theorem disSize_any (w : World) (k : Int) :
    Calls Tryd.prog 95 #[.int .i64 k] w fun e w' => e = .returned (.bool (decide (wide k))) ∧ w' = w := by
  by_cases h1 : k = 1
  · subst h1
    go_enter Tryd.func95, Tryd.ntmps95
    go_wp2
    go_ret
    exact ⟨rfl, rfl⟩
  by_cases h2 : k = 2
  · subst h2
    go_enter Tryd.func95, Tryd.ntmps95
    go_wp2
    go_ret
    exact ⟨rfl, rfl⟩
  by_cases h4 : k = 4
  · subst h4
    go_enter Tryd.func95, Tryd.ntmps95
    go_wp2
    go_ret
    exact ⟨rfl, rfl⟩
  by_cases h8 : k = 8
  · subst h8
    go_enter Tryd.func95, Tryd.ntmps95
    go_wp2
    go_ret
    exact ⟨rfl, rfl⟩
  · have b1 : (k == 1) = false := by simpa using h1
    have b2 : (k == 2) = false := by simpa using h2
    have b4 : (k == 4) = false := by simpa using h4
    have b8 : (k == 8) = false := by simpa using h8
    have hd : decide (wide k) = false := decide_eq_false (fun h => by rcases h with h | h | h | h <;> omega)
    rw [hd]
    clear hd
    go_enter Tryd.func95, Tryd.ntmps95
    go_wp2
    go_ret
    exact ⟨rfl, rfl⟩

set_option maxHeartbeats 1600000 in
theorem dfitsU_any (w : World) (k n : Int) (hw : wide k) (hn : -9223372036854775808 ≤ n ∧ n ≤ 9223372036854775807) :
    Calls Tryd.prog 88 #[.int .i64 k, .int .i64 n] w fun e w' => e = .returned (.bool (decide (fitsW k n false))) ∧ w' = w := by
  have key : ∀ D : Int, (fitsW k n false ↔ n / D = 0) → decide (fitsW k n false) = (n / D == 0) := fun D h => by
    rw [Bool.eq_iff_iff]; simpa using h
  rcases hw with rfl | rfl | rfl | rfl
  · rw [key 256 (by unfold fitsW; rw [if_neg (by decide), if_neg (by decide)]; constructor
                    · rintro ⟨_, h1, h2⟩; simp at h2; omega
                    · intro h; refine ⟨by unfold wide; omega, ?_⟩; simp; omega)]
    go_enter Tryd.func88, Tryd.ntmps88
    go_wp2
    go_ret
    exact ⟨rfl, rfl⟩
  · rw [key 65536 (by unfold fitsW; rw [if_neg (by decide), if_neg (by decide)]; constructor
                      · rintro ⟨_, h1, h2⟩; simp at h2; omega
                      · intro h; refine ⟨by unfold wide; omega, ?_⟩; simp; omega)]
    go_enter Tryd.func88, Tryd.ntmps88
    go_wp2
    go_ret
    exact ⟨rfl, rfl⟩
  · rw [key 4294967296 (by unfold fitsW; rw [if_neg (by decide), if_neg (by decide)]; constructor
                           · rintro ⟨_, h1, h2⟩; simp at h2; omega
                           · intro h; refine ⟨by unfold wide; omega, ?_⟩; simp; omega)]
    go_enter Tryd.func88, Tryd.ntmps88
    go_wp2
    go_ret
    exact ⟨rfl, rfl⟩
  · rw [key 18446744073709551616 (by unfold fitsW; rw [if_pos rfl]; constructor
                                     · rintro ⟨_, h⟩; simp at h; omega
                                     · intro h; refine ⟨by unfold wide; omega, ?_⟩; simp; omega)]
    go_enter Tryd.func88, Tryd.ntmps88
    go_wp2
    go_ret
    exact ⟨rfl, rfl⟩

theorem fitsS_key {n D : Int} {p : Prop} [Decidable p] (h : p ↔ (n / D = 0 ∨ n / D = -1)) : decide p = (n / D == 0 || n / D == -1) := by
  rw [Bool.eq_iff_iff]; simpa using h

end Go.Proofs.YtpmhcignenfhgaaDoor

/- The landed word: fitsS, left, next, joined, withSign, spanOf. -/
namespace Go.Proofs.YtpmhcignenfhgaaDoor
open Go.RowKit
set_option linter.unusedVariables false

set_option maxHeartbeats 1600000 in
theorem dfitsS_any (w : World) (k n : Int) (hw : wide k) (hn : -9223372036854775808 ≤ n ∧ n ≤ 9223372036854775807) :
    Calls Tryd.prog 89 #[.int .i64 k, .int .i64 n] w fun e w' => e = .returned (.bool (decide (fitsW k n true))) ∧ w' = w := by
  rcases hw with rfl | rfl | rfl | rfl
  · have hk : fitsW 1 n true ↔ (n / 128 = 0 ∨ n / 128 = -1) := by
      unfold fitsW
      rw [if_neg (by decide), if_pos rfl]
      constructor
      · rintro ⟨_, h1, h2⟩
        simp at h1 h2
        omega
      · intro h
        refine ⟨by unfold wide; omega, ?_⟩
        simp
        omega
    rw [fitsS_key hk]
    clear hk
    by_cases h0 : n / 128 = 0
    · have b0 : (n / 128 == 0) = true := by simpa using h0
      clear h0
      go_enter Tryd.func89, Tryd.ntmps89
      go_wp2
      go_ret
      exact ⟨by rw [b0]; rfl, rfl⟩
    · have b0 : (n / 128 == 0) = false := by simpa using h0
      clear h0
      go_enter Tryd.func89, Tryd.ntmps89
      go_wp2
      go_ret
      exact ⟨by rw [b0]; rfl, rfl⟩
  · have hk : fitsW 2 n true ↔ (n / 32768 = 0 ∨ n / 32768 = -1) := by
      unfold fitsW
      rw [if_neg (by decide), if_pos rfl]
      constructor
      · rintro ⟨_, h1, h2⟩
        simp at h1 h2
        omega
      · intro h
        refine ⟨by unfold wide; omega, ?_⟩
        simp
        omega
    rw [fitsS_key hk]
    clear hk
    by_cases h0 : n / 32768 = 0
    · have b0 : (n / 32768 == 0) = true := by simpa using h0
      clear h0
      go_enter Tryd.func89, Tryd.ntmps89
      go_wp2
      go_ret
      exact ⟨by rw [b0]; rfl, rfl⟩
    · have b0 : (n / 32768 == 0) = false := by simpa using h0
      clear h0
      go_enter Tryd.func89, Tryd.ntmps89
      go_wp2
      go_ret
      exact ⟨by rw [b0]; rfl, rfl⟩
  · have hk : fitsW 4 n true ↔ (n / 2147483648 = 0 ∨ n / 2147483648 = -1) := by
      unfold fitsW
      rw [if_neg (by decide), if_pos rfl]
      constructor
      · rintro ⟨_, h1, h2⟩
        simp at h1 h2
        omega
      · intro h
        refine ⟨by unfold wide; omega, ?_⟩
        simp
        omega
    rw [fitsS_key hk]
    clear hk
    by_cases h0 : n / 2147483648 = 0
    · have b0 : (n / 2147483648 == 0) = true := by simpa using h0
      clear h0
      go_enter Tryd.func89, Tryd.ntmps89
      go_wp2
      go_ret
      exact ⟨by rw [b0]; rfl, rfl⟩
    · have b0 : (n / 2147483648 == 0) = false := by simpa using h0
      clear h0
      go_enter Tryd.func89, Tryd.ntmps89
      go_wp2
      go_ret
      exact ⟨by rw [b0]; rfl, rfl⟩
  · have hk : fitsW 8 n true ↔ (n / 9223372036854775808 = 0 ∨ n / 9223372036854775808 = -1) := by
      unfold fitsW
      rw [if_pos rfl]
      constructor
      · intro h
        omega
      · intro h
        exact ⟨by unfold wide; omega, .inl rfl⟩
    rw [fitsS_key hk]
    clear hk
    by_cases h0 : n / 9223372036854775808 = 0
    · have b0 : (n / 9223372036854775808 == 0) = true := by simpa using h0
      clear h0
      go_enter Tryd.func89, Tryd.ntmps89
      go_wp2
      go_ret
      exact ⟨by rw [b0]; rfl, rfl⟩
    · have b0 : (n / 9223372036854775808 == 0) = false := by simpa using h0
      clear h0
      go_enter Tryd.func89, Tryd.ntmps89
      go_wp2
      go_ret
      exact ⟨by rw [b0]; rfl, rfl⟩

theorem dleft_any (w : World) (x : Nat) (a : Option Addr) (n c i : Nat) (c0 : w.cell? ⟨x, 0, none⟩ = some (.slice a n c)) (c1 : w.cell? ⟨x, 1, none⟩ = some (.int .i64 (i : Int))) (hi : i ≤ n) (hn : n ≤ 140737488351232) :
    Calls Tryd.prog 59 #[.pointer (some ⟨x, 0, none⟩)] w fun e w' => e = .returned (.int .i64 ((n : Int) - i)) ∧ ∃ k, w' = w.drewN k := by
  have y1 : IntKind.i64.wrap ((n : Int) - i) = (n : Int) - i := by rw [IntKind.wrap_i64]; omega
  have l1 : (i : Int) ≤ n := by omega
  have l2 : (n : Int) ≤ 140737488351232 := by omega
  clear hi hn
  go_enter Tryd.func59, Tryd.ntmps59
  go_wp2_with fail
  go_quiet (fail)
  go_wp2
  go_ret
  exact ⟨rfl, _, rfl⟩

set_option maxHeartbeats 1600000 in
theorem dnext_any (w : World) (x : Nat) (a : Option Addr) (n c i m : Nat) (c0 : w.cell? ⟨x, 0, none⟩ = some (.slice a n c)) (c1 : w.cell? ⟨x, 1, none⟩ = some (.int .i64 (i : Int))) (hi : i + m ≤ n) (hn : n ≤ c) (hc : c ≤ 9223372036854775807) :
    Calls Tryd.prog 99 #[.pointer (some ⟨x, 0, none⟩), .int .i64 (m : Int)] w fun e w' => e = .returned (.slice (if c = i then a else Option.map (fun x => x.add i) a) m (c - i)) ∧ ∃ k, w' = w.drewN k := by
  obtain ⟨K, hK⟩ : ∃ K, K = i + m := ⟨_, rfl⟩
  have k1 : (i : Int) + (m : Int) = (K : Int) := by omega
  have k2 : (K : Int) ≤ (n : Int) := by omega
  have k3 : (K : Int) ≤ (c : Int) := by omega
  have k4 : (i : Int) ≤ (K : Int) := by omega
  have k5 : K - i = m := by omega
  have k7 : (c : Int) ≤ 9223372036854775807 := by omega
  have y2 : IntKind.i64.wrap (K : Int) = (K : Int) := by rw [IntKind.wrap_i64]; omega
  clear hK hi hn hc
  obtain ⟨AD, hAd⟩ : ∃ AD, (if c = i then a else Option.map (fun x => x.add i) a) = AD := ⟨_, rfl⟩
  rw [hAd]
  go_enter Tryd.func99, Tryd.ntmps99
  go_wp2_with fail
  go_quiet (fail)
  go_wp2
  go_ret
  exact ⟨by simp, _, rfl⟩

def sgn (m N : Nat) : Int := if 256 ^ m ≤ 2 * N then (N : Int) - ((256 ^ m : Nat) : Int) else (N : Int)
set_option maxHeartbeats 1600000 in
theorem dwithSign_any (w : World) (m N : Nat) (hm : m = 1 ∨ m = 2 ∨ m = 4 ∨ m = 8) (hN : N < 256 ^ m) :
    Calls Tryd.prog 93 #[.int .i64 (m : Int), .int .u64 (N : Int)] w fun e w' => e = .returned (.int .i64 (sgn m N)) ∧ w' = w := by
  rcases hm with rfl | rfl | rfl | rfl
  · have h1 : (N : Int) < 256 := by simp at hN; omega
    have y1 : IntKind.u64.wrap ((N : Int) * 72057594037927936) = (N : Int) * 72057594037927936 := by rw [IntKind.wrap_u64]; omega
    have y2 : wrap64 ((N : Int) * 72057594037927936) / 72057594037927936 = sgn 1 N := by
      unfold sgn wrap64
      split <;> (simp at *; omega)
    generalize sgn 1 N = R at *
    clear hN
    go_enter Tryd.func93, Tryd.ntmps93
    go_wp2
    go_ret
    exact ⟨by first | rfl | (rw [← y2]; rfl) | simp [y2], rfl⟩
  · have h1 : (N : Int) < 65536 := by simp at hN; omega
    have y1 : IntKind.u64.wrap ((N : Int) * 281474976710656) = (N : Int) * 281474976710656 := by rw [IntKind.wrap_u64]; omega
    have y2 : wrap64 ((N : Int) * 281474976710656) / 281474976710656 = sgn 2 N := by
      unfold sgn wrap64
      split <;> (simp at *; omega)
    generalize sgn 2 N = R at *
    clear hN
    go_enter Tryd.func93, Tryd.ntmps93
    go_wp2
    go_ret
    exact ⟨by first | rfl | (rw [← y2]; rfl) | simp [y2], rfl⟩
  · have h1 : (N : Int) < 4294967296 := by simp at hN; omega
    have y1 : IntKind.u64.wrap ((N : Int) * 4294967296) = (N : Int) * 4294967296 := by rw [IntKind.wrap_u64]; omega
    have y2 : wrap64 ((N : Int) * 4294967296) / 4294967296 = sgn 4 N := by
      unfold sgn wrap64
      split <;> (simp at *; omega)
    generalize sgn 4 N = R at *
    clear hN
    go_enter Tryd.func93, Tryd.ntmps93
    go_wp2
    go_ret
    exact ⟨by first | rfl | (rw [← y2]; rfl) | simp [y2], rfl⟩
  · have h1 : (N : Int) < 18446744073709551616 := by simp at hN; omega
    have y2 : wrap64 (N : Int) = sgn 8 N := by
      unfold sgn wrap64
      split <;> (simp at *; omega)
    generalize sgn 8 N = R at *
    clear hN
    go_enter Tryd.func93, Tryd.ntmps93
    go_wp2
    go_ret
    exact ⟨by first | rfl | (rw [← y2]; rfl) | simp [y2], rfl⟩

end Go.Proofs.YtpmhcignenfhgaaDoor

/- The landed word: joined, spanOf; the reader's calls. -/
namespace Go.Proofs.YtpmhcignenfhgaaDoor
open Go.RowKit
set_option linter.unusedVariables false

set_option maxRecDepth 100000 in
theorem or_u64 (v x : Nat) (hv : v * 256 + x < 18446744073709551616) (hx : x < 256) : bits .or .u64 ((v : Int) * 256) (x : Int) = (v : Int) * 256 + (x : Int) := by
  have e : (v : Int) * 256 = ((v * 256 : Nat) : Int) := by omega
  rw [e]
  show IntKind.u64.wrap ((BitVec.ofInt 64 ((v * 256 : Nat) : Int) ||| BitVec.ofInt 64 (x : Int)).toNat : Int) = _
  rw [BitVec.toNat_or, ofInt_u64 _ (by omega), ofInt_u64 _ (by omega), nat_join 8 _ _ (by omega) (by omega), IntKind.wrap_u64]
  omega

set_option maxHeartbeats 1600000 in
theorem djoined_any (w : World) (b o c : Nat) (l : List UInt8) (m : Nat) (hl : l.length = m) (hm : m ≤ 8) (h : BytesAt w (some ⟨b, o, none⟩) l) :
    Calls Tryd.prog 98 #[.slice (some ⟨b, o, none⟩) m c] w fun e w' => e = .returned (.int .u64 (numB l : Int)) ∧ w' = w := by
  have HB := hide h
  clear h
  go_enter Tryd.func98, Tryd.ntmps98
  go_wp2
  go_loopw [3, 8] (fun x i wr => ∃ k : Nat, k ≤ m ∧ i = .int .i64 k ∧ x = .int .u64 (numB (l.take k) : Int) ∧ wr = w) (fun _ i _ => m - (intOf i).toNat)
  case atStart => exact ⟨0, by omega, rfl, rfl, rfl⟩
  case round =>
    obtain ⟨k, hk, rfl, rfl, rfl⟩ := hrel
    by_cases hlt : k < m
    · have hlt1 : (k : Int) < (m : Int) := by omega
      have hkl : k < l.length := by omega
      have c0 := bytes_get (unhide HB) hkl
      have hs := numB_take hkl
      have hb := (l[k]).toNat_lt
      have h7 := numB_small (l := l.take (k + 1)) (k := 8) (m := 0) (by rw [List.length_take]; omega)
      obtain ⟨Q, hQQ⟩ : ∃ Q, Q = numB (l.take (k + 1)) := ⟨_, rfl⟩
      rw [← hQQ] at hs h7
      generalize numB (l.take k) = P at *
      generalize (l[k]).toNat = x at *
      have hQ : (Q : Int) = (P : Int) * 256 + (x : Int) := by omega
      have hor := or_u64 P x (by omega) (by omega)
      have hP2 : IntKind.u64.wrap ((P : Int) * 256) = (P : Int) * 256 := by rw [IntKind.wrap_u64]; omega
      have hP3 : (P : Int) * 256 ≤ 18446744073709551615 := by omega
      have hx2 : (x : Int) ≤ 255 := by omega
      have HQ := hide hQ
      have HQQ := hide hQQ
      clear h7 hQ hQQ hs
      go_wp2
      go_roundw
      case rel => exact ⟨k + 1, by omega, by go_num, by rw [← unhide HQQ, unhide HQ], by first | rfl | trivial⟩
      case measure => simp [intOf]; omega
    · obtain rfl : k = m := by omega
      have ht : l.take k = l := List.take_of_length_le (by omega)
      rw [ht]
      go_wp2
      go_ret
      exact ⟨rfl, rfl⟩

/-- An append to bytes of one's own that are not nil. -/
theorem listN_append {w : World} {ops : Array Oper} {rest : List Oper} {o : Oper} {a : Act} {Q : Exit → Act → World → Prop} (hgd : o.guard = none) (s x : Operand) (ho : o.op = .call { callee := .builtin .append, args := #[s, x], argTypes := #[22, 22] })
    (base g n cap : Nat) (xs : List UInt8) (hs : a.eval s = .slice (some ⟨g, 0, none⟩) n cap) (hown : w.ownsRow base 5 1 (.slice (some ⟨g, 0, none⟩) n cap) n (bv xs)) (src : Option Addr) (m c : Nat) (ys : List UInt8) (hx : a.eval x = .slice src m c) (hb : Bs w src m ys) (hnil : src = none → m = 0 ∧ c = 0)
    (hsm : n + m ≤ 140737488355328) (hbase : base ≤ w.heap.size) (h : ∀ g' c' w', w'.ownsRow base 5 1 (.slice (some ⟨g', 0, none⟩) (n + m) c') (n + m) (bv (xs ++ ys)) → w.grownBy w' (some g) → wpList Tryd.prog ops Q rest (a.put o.dst (.slice (some ⟨g', 0, none⟩) (n + m) c')) w') : wpList Tryd.prog ops Q (o :: rest) a w := by
  obtain ⟨i0, hi, hz0, hz1, hz2⟩ := info_parts infoB
  refine wpList_plain hgd fun K hK => ?_
  cases src with
  | none =>
    obtain ⟨rfl, rfl⟩ := hnil rfl
    have h0 : ys = [] := List.eq_nil_of_length_eq_zero hb.1
    subst h0
    have hrun := run_append_owned_none (P := Tryd.prog) (w := w) base 22 o.type 5 i0 1 Tryd.underlying22 hi _ n (bv xs) hown
    unfold Oper.wp
    simp [execOp, ho, resolve, invoke, builtin, hs, hx, hrun, Result.andThen]
    exact hK _ _ (h g cap w (by rw [List.append_nil]; exact hown) ⟨rfl, rfl, rfl, Nat.le_refl _, fun _ _ _ => rfl⟩)
  | some ad =>
    refine wp_append_own w s x 22 ho base 5 i0 (.int .u8 0) 1 1 Tryd.underlying22 hi hz0 hz1 hz2 rfl (by decide) _ n (bv xs) hs hown ad m c (bv ys) hx (by rw [bv_length, hb.1]; omega) (hb.at.2 ad rfl) (bv_one _) (by unfold maxLen; omega) (by omega) hbase ?_
    intro v' w' h1 h2 h3
    rcases h1.2 with ⟨e, _⟩ | ⟨g', c', cur, rfl, _⟩
    · have := (h3.1 e).1
      cases this
    · exact hK _ _ (h g' c' w' (by rw [bv_append]; exact h1) h2)

set_option maxHeartbeats 1600000 in
theorem bClone_any (w : World) (ad : Addr) (n c : Nat) (l : List UInt8) (hb : Bs w (some ad) n l) (hn : n ≤ 140737488351232) :
    Calls Tryd.prog 72 #[.slice (some ad) n c] w fun e w' => ∃ g d, e = .returned (.slice (some ⟨g, 0, none⟩) n d) ∧ w'.ownsRow w.heap.size 5 1 (.slice (some ⟨g, 0, none⟩) n d) n (bv l) ∧ Below w.heap.size w w' := by
  have q : ∀ (w : World) (a : Option Addr) (n c n' c' : Nat), (binOp .eql 22 (.slice a n c) (.slice none n' c')).run Tryd.prog w = .ok (.bool a.isNone) w := fun w a n c n' c' => Lib.run_eql_slice_nil w _ _ a n c n' c' Tryd.underlying22
  have hown : (w.alloc (.cells #[] 5)).ownsRow w.heap.size 5 1 (.slice (some ⟨w.heap.size, 0, none⟩) 0 0) 0 (bv []) := World.ownsRow_made w #[] 0 (Nat.le_refl _) (by simp) rfl
  have HB := hide (hb.below ((Below.refl _ _).alloc (Nat.le_refl _) (.cells #[] 5)))
  clear hb
  go_enter Tryd.func72, Tryd.ntmps72
  go_wp2_with (at_builtin; refine listN_append rfl _ _ rfl w.heap.size w.heap.size 0 0 [] rfl hown (some ad) n c l rfl (unhide HB) (fun e => by cases e) (by omega) (by simp) ?_)
  intro g d w1 o1 g1
  have hb1 : Below w.heap.size w w1 := ((Below.refl _ _).alloc (Nat.le_refl _) _).grown g1 (by simp) (fun k hk => by simp at hk; omega)
  have HO := hide o1
  have HB1 := hide hb1
  clear o1 g1 hb1 hown HB
  go_wp2
  go_ret
  exact ⟨g, d, rfl, unhide HO, unhide HB1⟩

theorem pair_set {W : World} {A : Nat} {T : TypeId} {a0 a1 : Value} (c0 c1 : Value) (h : W.heap[A]? = some (.cells #[a0, a1] T (0, 0))) :
    ((W.setCell ⟨A, 0, none⟩ c0).setCell ⟨A, 1, none⟩ c1).heap[A]? = some (.cells #[c0, c1] T (0, 0)) := by
  have h1 := heap_setCell_same W A 0 _ _ c0 h
  exact heap_setCell_same _ A 1 _ _ c1 h1
theorem sizeSp : (Tryd.prog.info? 93).map (·.size) = some 2 := by kernel_rfl

set_option maxHeartbeats 1600000 in
theorem dspanOf_any (w : World) (a : Option Addr) (n c : Nat) (l : List UInt8) (hb : Arg w a n c l) (hn : n ≤ 140737488351232) :
    Calls Tryd.prog 65 #[.slice a n c] w fun e w' => ∃ g d, e = .returned (.agg #[.slice (some ⟨g, 0, none⟩) n d, .int .i64 0]) ∧ w'.ownsRow w.heap.size 5 1 (.slice (some ⟨g, 0, none⟩) n d) n (bv l) ∧ Below w.heap.size w w' := by
  have b0 : Below w.heap.size w (w.alloc (.cells #[.slice none 0 0, .int .i64 0] 93)) := (Below.refl _ _).alloc (Nat.le_refl _) _
  have hl0 := heap_alloc_last w (.cells #[.slice none 0 0, .int .i64 0] 93)
  have hown : ((w.alloc (.cells #[.slice none 0 0, .int .i64 0] 93)).alloc (.cells #[] 5)).ownsRow (w.heap.size + 1) 5 1 (.slice (some ⟨w.heap.size + 1, 0, none⟩) 0 0) 0 (bv []) := by
    have := World.ownsRow_made (base := w.heap.size + 1) (e := 5) (size := 1) (w.alloc (.cells #[.slice none 0 0, .int .i64 0] 93)) #[] 0 (by simp) (by simp) rfl
    simpa [bv] using this
  have b1 : Below w.heap.size w ((w.alloc (.cells #[.slice none 0 0, .int .i64 0] 93)).alloc (.cells #[] 5)) := b0.alloc (by simp) _
  have hl1 : ((w.alloc (.cells #[.slice none 0 0, .int .i64 0] 93)).alloc (.cells #[] 5)).heap[w.heap.size]? = _ := (heap_alloc_old _ _ (by simp)).trans hl0
  have hsz : w.heap.size + 1 ≤ ((w.alloc (.cells #[.slice none 0 0, .int .i64 0] 93)).alloc (.cells #[] 5)).heap.size := by simp
  have HB := hide (hb.bs.below b1)
  have HN := hide hb.nil
  have HO0 := hide hown
  have HL1 := hide hl1
  have B1 := hide b1
  have HS := hide hsz
  clear hb hown b0 hl0 b1 hl1 hsz
  go_enter Tryd.func65, Tryd.ntmps65
  go_wp2_with (at_builtin; refine listN_append rfl _ _ rfl (w.heap.size + 1) (w.heap.size + 1) 0 0 [] rfl (unhide HO0) a n c l rfl (unhide HB) (unhide HN) (by omega) (unhide HS) ?_)
  intro g d w1 o1 g1
  have hb1 : Below w.heap.size w w1 := (unhide B1).grown g1 (by have := unhide HS; omega) (fun k hk => by simp at hk; omega)
  have hl2 : w1.heap[w.heap.size]? = _ := (g1.block w.heap.size (by have := unhide HS; omega) (by simp)).trans (unhide HL1)
  have hgb := o1.lt g rfl
  have cc0 : w1.cell? ⟨w.heap.size, 0, none⟩ = some (.slice none 0 0) := by rw [cell_of_row _ _ _ _ _ _ hl2]; rfl
  have cc1 : w1.cell? ⟨w.heap.size, 1, none⟩ = some (.int .i64 0) := by rw [cell_of_row _ _ _ _ _ _ hl2]; rfl
  have f0 : ∀ j, w1.frozen? ⟨w.heap.size, j, none⟩ = false := fun j => frozen_of_row _ _ _ _ _ hl2
  have HO := hide o1
  have HB1 := hide hb1
  have HL2 := hide hl2
  clear o1 g1 hb1 hl2 HB HN HO0 HL1 B1 HS
  go_wp2
  refine bodyPost_ret (v := .agg #[.slice (some ⟨g, 0, none⟩) n d, .int .i64 0]) ?_ rfl ⟨g, d, rfl, ?_, ?_⟩
  · exact results_cell_row Tryd.results65 _ _ w.heap.size 93 _ (0, 0) _ rfl (pair_set _ _ (unhide HL2)) Tryd.underlying93 rfl sizeSp
  · refine own_of_block (own_base (unhide HO) (by omega)) (fun k hk => ?_)
    simp [Value.ownBlock] at hk
    subst hk
    have hne : g ≠ w.heap.size := by omega
    exact (Below.heap_setCell _ _ _ _ hne).trans (Below.heap_setCell _ _ _ _ hne)
  · exact ((unhide HB1).setCell (p := ⟨w.heap.size, 0, none⟩) (Nat.le_refl _) _).setCell (p := ⟨w.heap.size, 1, none⟩) (Nat.le_refl _) _

end Go.Proofs.YtpmhcignenfhgaaDoor

/- The landed word: the reader's calls. -/
namespace Go.Proofs.YtpmhcignenfhgaaDoor
open Go.RowKit
set_option linter.unusedVariables false

theorem Sp.drewN {T : TypeId} {w : World} {B x y c : Nat} {bs : List UInt8} {i : Nat} (h : Sp T w B x y c bs i) (k : Nat) : Sp T (w.drewN k) B x y c bs i := h.below (below_drewN (Below.refl _ _) k)

set_option maxHeartbeats 1600000 in
theorem dRead_any (w : World) (a : Option Addr) (n c : Nat) (bs : List UInt8) (h : Arg w a n c bs) (hn : n ≤ 140737488351232) :
    Calls Tryd.prog 47 #[.slice a n c] w fun e w' => ∃ x F, e = .returned (.pointer (some ⟨x, 0, none⟩)) ∧ RD F w' w.heap.size x bs 0 ∧ Below w.heap.size w w' := by
  have H1 := hide (dspanOf_any w a n c bs h hn)
  have hlen := h.bs.1
  clear h
  go_enter Tryd.func47, Tryd.ntmps47
  go_wp2_with fail
  refine (unhide H1).mono ?_
  rintro e w1 ⟨g, d, rfl, o1, f1⟩
  have b2 : Below w1.heap.size w1 (w1.alloc (.cells #[.slice (some ⟨g, 0, none⟩) n d, .int .i64 0] 95)) := (Below.refl _ _).alloc (Nat.le_refl _) _
  have hb := heap_alloc_last w1 (.cells #[.slice (some ⟨g, 0, none⟩) n d, .int .i64 0] 95)
  have hg := o1.lt g rfl
  have P1 : Hid (∃ F, RD F (w1.alloc (.cells #[.slice (some ⟨g, 0, none⟩) n d, .int .i64 0] 95)) w.heap.size w1.heap.size bs 0) := by
    refine ⟨_, g, d, rfl, f1.size, by omega, ?_, ?_⟩
    · rw [hlen]; exact hb
    · rw [hlen]; exact own_below o1 b2
  have F1 := hide (f1.trans (b2.mono f1.size))
  clear o1 f1 b2 hb hg H1
  go_wp2
  go_ret
  obtain ⟨F, hF⟩ := unhide P1
  exact ⟨_, F, rfl, hF, unhide F1⟩

/-- What look answers. -/
def lookR (bs : List UInt8) (i : Nat) (k : Int) : Nat × Int :=
  if wide k then (if (bs.length : Int) - i < k then (0, 7) else (numB ((bs.drop i).take k.toNat), 0)) else (0, 2)

set_option maxHeartbeats 3200000 in
theorem dlook_any (w : World) (B x y c : Nat) (bs : List UInt8) (i : Nat) (k : Int) (h : Sp 95 w B x y c bs i) (hs : bs.length ≤ 140737488351232) (hi : i ≤ bs.length) :
    Calls Tryd.prog 92 #[.pointer (some ⟨x, 0, none⟩), .int .i64 k] w fun e w' => e = .returned (.tuple #[.int .u64 ((lookR bs i k).1 : Int), .int .i64 (lookR bs i k).2]) ∧ ∃ j, w' = w.drewN j := by
  have HM := hide (dmade_any w B x y c bs i h)
  have HW := hide (disSize_any w k)
  have HLf : Hid (∀ j, Calls Tryd.prog 59 #[.pointer (some ⟨x, 0, none⟩)] (w.drewN j) fun e w' => e = .returned (.int .i64 ((bs.length : Int) - i)) ∧ ∃ k, w' = (w.drewN j).drewN k) := fun j => dleft_any (w.drewN j) x _ _ c i (h.drewN j).c0 (h.drewN j).c1 hi hs
  by_cases hw : wide k
  · rw [decide_eq_true hw] at HW
    by_cases hsh : (bs.length : Int) - i < k
    · have e1 : Hid (lookR bs i k = (0, 7)) := by
        show lookR bs i k = _
        unfold lookR
        rw [if_pos hw, if_pos hsh]
      clear h hw
      generalize bs.length = n at *
      go_enter Tryd.func92, Tryd.ntmps92
      go_wp2_with fail
      refine (unhide HM).mono ?_
      rintro e w1 ⟨rfl, e0⟩
      have e0' := e0.symm
      clear e0
      subst e0'
      go_wp2_with fail
      refine (unhide HW).mono ?_
      rintro e w1 ⟨rfl, e0⟩
      have e0' := e0.symm
      clear e0
      subst e0'
      clear HM HW
      go_wp2_with fail
      refine (unhide HLf 0).mono ?_
      rintro e w2 ⟨rfl, j, rfl⟩
      clear HLf
      go_wp2
      go_ret2
      exact ⟨by rw [unhide e1]; rfl, j, rfl⟩
    · obtain ⟨m, rfl, hm⟩ := wide_nat hw
      have hmn : i + m ≤ bs.length := by omega
      have e1 : Hid (lookR bs i (m : Int) = (numB ((bs.drop i).take m), 0)) := by
        show lookR bs i (m : Int) = _
        unfold lookR
        rw [if_pos hw, if_neg hsh, Int.toNat_natCast]
      have hcap := own_cap h.row
      have HN : Hid (∀ j, Calls Tryd.prog 99 #[.pointer (some ⟨x, 0, none⟩), .int .i64 (m : Int)] (w.drewN j) fun e w' => e = .returned (.slice (some ⟨y, i, none⟩) m (c - i)) ∧ ∃ k, w' = (w.drewN j).drewN k) := fun j => by
        have := dnext_any (w.drewN j) x _ _ c i m (h.drewN j).c0 (h.drewN j).c1 hmn hcap.1 hcap.2
        rw [if_neg (by omega)] at this
        simpa [Addr.add_mid] using this
      have HJ : Hid (∀ j, Calls Tryd.prog 98 #[.slice (some ⟨y, i, none⟩) m (c - i)] (w.drewN j) fun e w' => e = .returned (.int .u64 (numB ((bs.drop i).take m) : Int)) ∧ w' = w.drewN j) := fun j => by
        refine djoined_any (w.drewN j) y i (c - i) ((bs.drop i).take m) m (by rw [List.length_take, List.length_drop]; omega) (by omega) ?_
        refine bytes_take ⟨(fun e => by cases e), fun ad e q u hu => ?_⟩ m
        injection e with e
        subst e
        have hu' : (bv bs)[i + q]? = some u := by
          simp only [bv, List.map_drop, List.getElem?_drop] at hu ⊢
          exact hu
        have := (own_bytes (h.drewN j).row).2 ⟨y, 0, none⟩ rfl (i + q) u hu'
        rw [Addr.add_mid] at this ⊢
        rw [Nat.zero_add] at this
        exact this
      clear h hw hcap
      generalize numB ((bs.drop i).take m) = N at *
      generalize bs.length = n at *
      go_enter Tryd.func92, Tryd.ntmps92
      go_wp2_with fail
      refine (unhide HM).mono ?_
      rintro e w1 ⟨rfl, e0⟩
      have e0' := e0.symm
      clear e0
      subst e0'
      go_wp2_with fail
      refine (unhide HW).mono ?_
      rintro e w1 ⟨rfl, e0⟩
      have e0' := e0.symm
      clear e0
      subst e0'
      clear HM HW
      go_wp2_with fail
      refine (unhide HLf 0).mono ?_
      rintro e w2 ⟨rfl, j, rfl⟩
      have HN1 := hide (unhide HN j)
      clear HLf HN
      go_wp2_with fail
      refine (unhide HN1).mono ?_
      rintro e w3 ⟨rfl, j3, rfl⟩
      clear HN1
      rw [World.drewN_drewN]
      go_wp2_with fail
      refine (unhide HJ _).mono ?_
      rintro e w4 ⟨rfl, rfl⟩
      clear HJ
      go_wp2
      go_ret2
      exact ⟨by rw [unhide e1]; rfl, _, rfl⟩
  · rw [decide_eq_false hw] at HW
    have e1 : Hid (lookR bs i k = (0, 2)) := by
      show lookR bs i k = _
      unfold lookR
      rw [if_neg hw]
    clear h hw HLf
    go_enter Tryd.func92, Tryd.ntmps92
    go_wp2_with fail
    refine (unhide HM).mono ?_
    rintro e w1 ⟨rfl, e0⟩
    have e0' := e0.symm
    clear e0
    subst e0'
    go_wp2_with fail
    refine (unhide HW).mono ?_
    rintro e w1 ⟨rfl, e0⟩
    have e0' := e0.symm
    clear e0
    subst e0'
    go_wp2
    go_ret2
    exact ⟨by rw [unhide e1]; rfl, 0, rfl⟩

/-- All blocks but x are as they were. -/
def Kx (x : Nat) (w w' : World) : Prop := ∀ k, k < w.heap.size → k ≠ x → w'.heap[k]? = w.heap[k]?
theorem kx_drewN (x : Nat) (w : World) (q : Nat) : Kx x w (w.drewN q) := fun k hk _ => (below_drewN (Below.refl _ _) q).block k hk
theorem Kx.of_below {x : Nat} {w w' : World} (f : Below w.heap.size w w') : Kx x w w' := fun k hk _ => f.block k hk
theorem Kx.trans {x : Nat} {w w1 w2 : World} (h : Kx x w w1) (hs : w.heap.size ≤ w1.heap.size) (g : Kx x w1 w2) : Kx x w w2 := fun k hk hx => (g k (Nat.lt_of_lt_of_le hk hs) hx).trans (h k hk hx)
theorem rd_moved {w : World} {B x y c : Nat} {bs : List UInt8} {i : Nat} (h : Sp 95 w B x y c bs i) (q K : Nat) :
    (∃ F', RD F' ((w.drewN q).setCell ⟨x, 1, none⟩ (.int .i64 (K : Int))) B x bs K ∧ ∀ j, F' j → (j = x ∨ j = y) ∨ w.heap.size ≤ j) ∧ Fr6 (fun k => k = x ∨ k = y) B w ((w.drewN q).setCell ⟨x, 1, none⟩ (.int .i64 (K : Int))) ∧ Kx x w ((w.drewN q).setCell ⟨x, 1, none⟩ (.int .i64 (K : Int))) :=
  ⟨⟨_, ⟨y, c, rfl, (h.drewN q).move K⟩, fun j hj => .inl hj⟩, ⟨(below_drewN (Below.refl _ _) q).setCell (p := ⟨x, 1, none⟩) h.hx _, fun k _ hF => Below.heap_setCell _ _ _ _ (fun e => hF (.inl e))⟩, fun k _ hF => Below.heap_setCell _ _ _ _ hF⟩
theorem rlen_pow {m : Nat} (l : List UInt8) (h : l.length = m) : numB l < 256 ^ m := by rw [← h]; exact numB_lt l
theorem lookR_lt (bs : List UInt8) (i : Nat) (k : Int) : (lookR bs i k).1 < 18446744073709551616 := by
  unfold lookR
  split
  · rename_i hw
    split
    · show (0 : Nat) < _
      omega
    · have h := numB_small (l := (bs.drop i).take k.toNat) (k := 8) (m := 0) (by
        rw [List.length_take]
        obtain ⟨m, rfl, hm⟩ := wide_nat hw
        omega)
      show numB _ < _
      omega
  · show (0 : Nat) < _
    omega

set_option maxHeartbeats 3200000 in
theorem dU_all (F : Nat → Prop) (w : World) (B x : Nat) (bs : List UInt8) (i : Nat) (k : Int) (h : RD F w B x bs i) (hs : bs.length ≤ 140737488351232) (hi : i ≤ bs.length) (hk : -9223372036854775808 ≤ k ∧ k ≤ 9223372036854775807) :
    Calls Tryd.prog 77 #[.pointer (some ⟨x, 0, none⟩), .int .i64 k] w fun e w' => e = .returned (.tuple #[.int .i64 (getW bs i k false).1, .int .i64 (getW bs i k false).2.1]) ∧ (∃ F', RD F' w' B x bs (getW bs i k false).2.2 ∧ ∀ j, F' j → F j ∨ w.heap.size ≤ j) ∧ Fr6 F B w w' ∧ Kx x w w' := by
  obtain ⟨y, c, rfl, h⟩ := h
  have HK := hide (dlook_any w B x y c bs i k h hs hi)
  have HS := hide h
  have keep : ∀ q, (∃ F', RD F' (w.drewN q) B x bs i ∧ ∀ j, F' j → (j = x ∨ j = y) ∨ w.heap.size ≤ j) ∧ Fr6 (fun k => k = x ∨ k = y) B w (w.drewN q) ∧ Kx x w (w.drewN q) := fun q => ⟨⟨_, ⟨y, c, rfl, h.drewN q⟩, fun j hj => .inl hj⟩, Fr6.of_below (below_drewN (Below.refl _ _) q) (Nat.le_trans h.hx (Nat.le_of_lt h.xlt)), kx_drewN _ _ _⟩
  by_cases hw : wide k
  · by_cases hsh : (bs.length : Int) - i < k
    · have e1 : lookR bs i k = (0, 7) := by unfold lookR; rw [if_pos hw, if_pos hsh]
      have e2 : Hid (getW bs i k false = (0, 7, i)) := by
        show getW bs i k false = _
        unfold getW
        rw [if_pos hw, if_pos hsh]
      rw [e1] at HK
      have KP := hide keep
      clear e1 h keep hw
      go_enter Tryd.func77, Tryd.ntmps77
      go_wp2_with fail
      refine (unhide HK).mono ?_
      rintro e w1 ⟨rfl, q, rfl⟩
      go_wp2
      go_ret2
      rw [unhide e2]
      exact ⟨rfl, unhide KP q⟩
    · obtain ⟨m, rfl, hm⟩ := wide_nat hw
      have e1 : lookR bs i (m : Int) = (numB ((bs.drop i).take m), 0) := by unfold lookR; rw [if_pos hw, if_neg hsh, Int.toNat_natCast]
      have hlt := lookR_lt bs i (m : Int)
      rw [e1] at HK hlt
      have hll : ((bs.drop i).take m).length = m := by rw [List.length_take, List.length_drop]; omega
      have hpow := rlen_pow _ hll
      have hval : valW ((bs.drop i).take m) false = if 9223372036854775808 ≤ numB ((bs.drop i).take m) then none else some (numB ((bs.drop i).take m) : Int) := by
        unfold valW
        rw [hll]
        by_cases h8 : m = 8
        · rw [if_pos h8, if_neg (by decide)]
          by_cases hb : numB ((bs.drop i).take m) < 9223372036854775808
          · rw [if_pos hb, if_neg (by omega)]
          · rw [if_neg hb, if_pos (by omega)]
        · rw [if_neg h8, if_neg (by simp), if_neg]
          have : numB ((bs.drop i).take m) < 256 ^ 4 := Nat.lt_of_lt_of_le hpow (Nat.pow_le_pow_right (by omega) (by omega))
          omega
      by_cases hb : 9223372036854775808 ≤ numB ((bs.drop i).take m)
      · have e2 : Hid (getW bs i (m : Int) false = (0, 3, i)) := by
          show getW bs i (m : Int) false = _
          unfold getW
          rw [if_pos hw, if_neg hsh, Int.toNat_natCast, hval, if_pos hb]
        have KP := hide keep
        clear e1 h keep hw hval hpow hll
        generalize numB ((bs.drop i).take m) = N at *
        have hN : (9223372036854775807 : Int) < (N : Int) := by omega
        go_enter Tryd.func77, Tryd.ntmps77
        go_wp2_with fail
        refine (unhide HK).mono ?_
        rintro e w1 ⟨rfl, q, rfl⟩
        go_wp2
        go_ret2
        rw [unhide e2]
        exact ⟨rfl, unhide KP q⟩
      · have e2 : Hid (getW bs i (m : Int) false = ((numB ((bs.drop i).take m) : Int), 0, i + m)) := by
          show getW bs i (m : Int) false = _
          unfold getW
          rw [if_pos hw, if_neg hsh, Int.toNat_natCast, hval, if_neg hb]
        have c1 := h.c1
        have fz := h.fz 1
        obtain ⟨K, hK⟩ : ∃ K, K = i + m := ⟨_, rfl⟩
        rw [← hK] at e2
        have k1 : (i : Int) + (m : Int) = (K : Int) := by omega
        have k2 : IntKind.i64.wrap (K : Int) = (K : Int) := by rw [IntKind.wrap_i64]; omega
        have k3 : (K : Int) ≤ 9223372036854775807 := by omega
        clear e1 h keep hw hval hpow hll hK
        generalize numB ((bs.drop i).take m) = N at *
        have hN : ¬ (9223372036854775807 : Int) < (N : Int) := by omega
        have hN2 : (N : Int) ≤ 9223372036854775807 := by omega
        go_enter Tryd.func77, Tryd.ntmps77
        go_wp2_with fail
        refine (unhide HK).mono ?_
        rintro e w1 ⟨rfl, q, rfl⟩
        clear HK
        go_wp2
        go_ret2
        rw [unhide e2]
        exact ⟨rfl, rd_moved (unhide HS) q K⟩
  · have e1 : lookR bs i k = (0, 2) := by unfold lookR; rw [if_neg hw]
    have e2 : Hid (getW bs i k false = (0, 2, i)) := by
      show getW bs i k false = _
      unfold getW
      rw [if_neg hw]
    rw [e1] at HK
    have KP := hide keep
    clear e1 h keep hw
    go_enter Tryd.func77, Tryd.ntmps77
    go_wp2_with fail
    refine (unhide HK).mono ?_
    rintro e w1 ⟨rfl, q, rfl⟩
    go_wp2
    go_ret2
    rw [unhide e2]
    exact ⟨rfl, unhide KP q⟩

set_option maxHeartbeats 3200000 in
theorem dS_all (F : Nat → Prop) (w : World) (B x : Nat) (bs : List UInt8) (i : Nat) (k : Int) (h : RD F w B x bs i) (hs : bs.length ≤ 140737488351232) (hi : i ≤ bs.length) (hk : -9223372036854775808 ≤ k ∧ k ≤ 9223372036854775807) :
    Calls Tryd.prog 76 #[.pointer (some ⟨x, 0, none⟩), .int .i64 k] w fun e w' => e = .returned (.tuple #[.int .i64 (getW bs i k true).1, .int .i64 (getW bs i k true).2.1]) ∧ (∃ F', RD F' w' B x bs (getW bs i k true).2.2 ∧ ∀ j, F' j → F j ∨ w.heap.size ≤ j) ∧ Fr6 F B w w' ∧ Kx x w w' := by
  obtain ⟨y, c, rfl, h⟩ := h
  have HK := hide (dlook_any w B x y c bs i k h hs hi)
  have HS := hide h
  have keep : ∀ q, (∃ F', RD F' (w.drewN q) B x bs i ∧ ∀ j, F' j → (j = x ∨ j = y) ∨ w.heap.size ≤ j) ∧ Fr6 (fun k => k = x ∨ k = y) B w (w.drewN q) ∧ Kx x w (w.drewN q) := fun q => ⟨⟨_, ⟨y, c, rfl, h.drewN q⟩, fun j hj => .inl hj⟩, Fr6.of_below (below_drewN (Below.refl _ _) q) (Nat.le_trans h.hx (Nat.le_of_lt h.xlt)), kx_drewN _ _ _⟩
  by_cases hw : wide k
  · by_cases hsh : (bs.length : Int) - i < k
    · have e1 : lookR bs i k = (0, 7) := by unfold lookR; rw [if_pos hw, if_pos hsh]
      have e2 : Hid (getW bs i k true = (0, 7, i)) := by
        show getW bs i k true = _
        unfold getW
        rw [if_pos hw, if_pos hsh]
      rw [e1] at HK
      have KP := hide keep
      clear e1 h keep hw
      go_enter Tryd.func76, Tryd.ntmps76
      go_wp2_with fail
      refine (unhide HK).mono ?_
      rintro e w1 ⟨rfl, q, rfl⟩
      go_wp2
      go_ret2
      rw [unhide e2]
      exact ⟨rfl, unhide KP q⟩
    · obtain ⟨m, rfl, hm⟩ := wide_nat hw
      have e1 : lookR bs i (m : Int) = (numB ((bs.drop i).take m), 0) := by unfold lookR; rw [if_pos hw, if_neg hsh, Int.toNat_natCast]
      have hlt := lookR_lt bs i (m : Int)
      rw [e1] at HK hlt
      have hll : ((bs.drop i).take m).length = m := by rw [List.length_take, List.length_drop]; omega
      have hpow := rlen_pow _ hll
      have hval : valW ((bs.drop i).take m) true = some (sgn m (numB ((bs.drop i).take m))) := by
        unfold valW sgn
        rw [hll]
        by_cases h8 : m = 8
        · rw [if_pos h8, if_pos rfl]
          subst h8
          have h256 : (256 : Nat) ^ 8 = 18446744073709551616 := by decide
          rw [h256]
          by_cases hb : numB ((bs.drop i).take 8) < 9223372036854775808
          · rw [if_pos hb, if_neg (by omega)]
          · rw [if_neg hb, if_pos (by omega)]; rfl
        · rw [if_neg h8]
          by_cases hb : 256 ^ m ≤ 2 * numB ((bs.drop i).take m)
          · rw [if_pos ⟨rfl, hb⟩, if_pos hb]
          · rw [if_neg (fun h => hb h.2), if_neg hb]
      have e2 : Hid (getW bs i (m : Int) true = (sgn m (numB ((bs.drop i).take m)), 0, i + m)) := by
        show getW bs i (m : Int) true = _
        unfold getW
        rw [if_pos hw, if_neg hsh, Int.toNat_natCast, hval]
      have c1 := h.c1
      have fz := h.fz 1
      obtain ⟨K, hK⟩ : ∃ K, K = i + m := ⟨_, rfl⟩
      rw [← hK] at e2
      have k1 : (i : Int) + (m : Int) = (K : Int) := by omega
      have k2 : IntKind.i64.wrap (K : Int) = (K : Int) := by rw [IntKind.wrap_i64]; omega
      have k3 : (K : Int) ≤ 9223372036854775807 := by omega
      have HG : Hid (∀ W, Calls Tryd.prog 93 #[.int .i64 (m : Int), .int .u64 (numB ((bs.drop i).take m) : Int)] W fun e w' => e = .returned (.int .i64 (sgn m (numB ((bs.drop i).take m)))) ∧ w' = W) := fun W => dwithSign_any W m _ hm hpow
      clear e1 h keep hw hval hpow hll hK
      generalize sgn m (numB ((bs.drop i).take m)) = R at *
      generalize numB ((bs.drop i).take m) = N at *
      go_enter Tryd.func76, Tryd.ntmps76
      go_wp2_with fail
      refine (unhide HK).mono ?_
      rintro e w1 ⟨rfl, q, rfl⟩
      clear HK
      go_wp2_with fail
      refine (unhide HG _).mono ?_
      rintro e w2 ⟨rfl, rfl⟩
      clear HG
      go_wp2
      go_ret2
      rw [unhide e2]
      exact ⟨rfl, rd_moved (unhide HS) q K⟩
  · have e1 : lookR bs i k = (0, 2) := by unfold lookR; rw [if_neg hw]
    have e2 : Hid (getW bs i k true = (0, 2, i)) := by
      show getW bs i k true = _
      unfold getW
      rw [if_neg hw]
    rw [e1] at HK
    have KP := hide keep
    clear e1 h keep hw
    go_enter Tryd.func76, Tryd.ntmps76
    go_wp2_with fail
    refine (unhide HK).mono ?_
    rintro e w1 ⟨rfl, q, rfl⟩
    go_wp2
    go_ret2
    rw [unhide e2]
    exact ⟨rfl, unhide KP q⟩

set_option maxHeartbeats 1600000 in
theorem dAt_any (F : Nat → Prop) (w : World) (B x : Nat) (bs : List UInt8) (i : Nat) (h : RD F w B x bs i) :
    Calls Tryd.prog 60 #[.pointer (some ⟨x, 0, none⟩)] w fun e w' => e = .returned (.int .i64 (i : Int)) ∧ Below w.heap.size w w' := by
  obtain ⟨y, c, rfl, h⟩ := h
  have HM := hide (dmade_any w B x y c bs i h)
  have c1 := h.c1
  clear h
  go_enter Tryd.func60, Tryd.ntmps60
  go_wp2_with fail
  refine (unhide HM).mono ?_
  rintro e w1 ⟨rfl, e0⟩
  have e0' := e0.symm
  clear e0
  subst e0'
  go_wp2
  go_ret
  exact ⟨rfl, Below.refl _ _⟩

set_option maxHeartbeats 1600000 in
theorem dLeft_any (F : Nat → Prop) (w : World) (B x : Nat) (bs : List UInt8) (i : Nat) (h : RD F w B x bs i) (hi : i ≤ bs.length) (hs : bs.length ≤ 140737488351232) :
    Calls Tryd.prog 37 #[.pointer (some ⟨x, 0, none⟩)] w fun e w' => e = .returned (.int .i64 ((bs.length : Int) - i)) ∧ Below w.heap.size w w' := by
  obtain ⟨y, c, rfl, h⟩ := h
  have HM := hide (dmade_any w B x y c bs i h)
  have HL := hide (dleft_any w x _ _ c i h.c0 h.c1 hi hs)
  clear h
  go_enter Tryd.func37, Tryd.ntmps37
  go_wp2_with fail
  refine (unhide HM).mono ?_
  rintro e w1 ⟨rfl, e0⟩
  have e0' := e0.symm
  clear e0
  subst e0'
  go_wp2_with fail
  refine (unhide HL).mono ?_
  rintro e w1 ⟨rfl, q, rfl⟩
  go_wp2
  go_ret
  exact ⟨rfl, below_drewN (Below.refl _ _) q⟩

theorem dU_any (F : Nat → Prop) (w : World) (B x : Nat) (bs : List UInt8) (i : Nat) (k : Int) (h : RD F w B x bs i) (hs : bs.length ≤ 140737488351232) (hi : i ≤ bs.length) (hk : -9223372036854775808 ≤ k ∧ k ≤ 9223372036854775807) :
    Calls Tryd.prog 77 #[.pointer (some ⟨x, 0, none⟩), .int .i64 k] w fun e w' => e = .returned (.tuple #[.int .i64 (getW bs i k false).1, .int .i64 (getW bs i k false).2.1]) ∧ (∃ F', RD F' w' B x bs (getW bs i k false).2.2 ∧ ∀ j, F' j → F j ∨ w.heap.size ≤ j) ∧ Fr6 F B w w' :=
  (dU_all F w B x bs i k h hs hi hk).mono fun e w' h => ⟨h.1, h.2.1, h.2.2.1⟩
theorem dS_any (F : Nat → Prop) (w : World) (B x : Nat) (bs : List UInt8) (i : Nat) (k : Int) (h : RD F w B x bs i) (hs : bs.length ≤ 140737488351232) (hi : i ≤ bs.length) (hk : -9223372036854775808 ≤ k ∧ k ≤ 9223372036854775807) :
    Calls Tryd.prog 76 #[.pointer (some ⟨x, 0, none⟩), .int .i64 k] w fun e w' => e = .returned (.tuple #[.int .i64 (getW bs i k true).1, .int .i64 (getW bs i k true).2.1]) ∧ (∃ F', RD F' w' B x bs (getW bs i k true).2.2 ∧ ∀ j, F' j → F j ∨ w.heap.size ≤ j) ∧ Fr6 F B w w' :=
  (dS_all F w B x bs i k h hs hi hk).mono fun e w' h => ⟨h.1, h.2.1, h.2.2.1⟩
end Go.Proofs.YtpmhcignenfhgaaDoor

/- The landed word: the writer's calls. -/
namespace Go.Proofs.YtpmhcignenfhgaaDoor
open Go.RowKit
set_option linter.unusedVariables false

theorem step_copy_none {P : Program} {ops : Array Oper} {o : Oper} {a : Act} {w : World} {K : Act → World → Prop} {Q : Exit → Act → World → Prop} {E : Prop} (hgd : o.guard = none) (d s : Operand) (dT sT : TypeId)
    (ho : o.op = .call { callee := .builtin .copy, args := #[d, s], argTypes := #[dT, sT] }) (elem : TypeId) (hu : P.underlying dT = some (.slice elem)) (hsz : (P.info? elem).map (·.size) = some 1)
    (dp sp : Option Addr) (dLen dCap sLen sCap : Nat) (hd : a.eval d = .slice dp dLen dCap) (hs : a.eval s = .slice sp sLen sCap) (hn : Nat.min sLen dLen = 0)
    (h : K (a.put o.dst (goInt 0)) w) : if Region.wanted o (yielded ops a.tmps) = true then Oper.wp P o a w K Q else E := by
  rw [if_pos (by simp [Region.wanted, hgd])]
  have hrun := run_copy_none (P := P) w dT sT o.type elem dp sp dLen dCap sLen sCap hu hsz hn
  unfold Oper.wp
  simp [execOp, ho, resolve, invoke, builtin, hd, hs, hrun, Result.andThen]
  exact h

/-- An append to bytes of one's own that are not nil, in a region that draws: where the new slice lies. -/
theorem stepN_append {w : World} {ops : Array Oper} {o : Oper} {a : Act} {K : Act → World → Prop} {Q : Exit → Act → World → Prop} {E : Prop} (hgd : o.guard = none) (s x : Operand) (ho : o.op = .call { callee := .builtin .append, args := #[s, x], argTypes := #[22, 22] })
    (base g n cap : Nat) (xs : List UInt8) (hs : a.eval s = .slice (some ⟨g, 0, none⟩) n cap) (hown : w.ownsRow base 5 1 (.slice (some ⟨g, 0, none⟩) n cap) n (bv xs)) (src : Option Addr) (m c : Nat) (ys : List UInt8) (hx : a.eval x = .slice src m c) (hb : Bs w src m ys) (hnil : src = none → m = 0 ∧ c = 0)
    (hsm : n + m ≤ 140737488355328) (hbase : base ≤ w.heap.size) (h : ∀ g' c' w', w'.ownsRow base 5 1 (.slice (some ⟨g', 0, none⟩) (n + m) c') (n + m) (bv (xs ++ ys)) → w.grownBy w' (some g) → (g' = g ∨ w.heap.size ≤ g') → K (a.put o.dst (.slice (some ⟨g', 0, none⟩) (n + m) c')) w') :
    if Region.wanted o (yielded ops a.tmps) = true then Oper.wp Tryd.prog o a w K Q else E := by
  rw [if_pos (by simp [Region.wanted, hgd])]
  obtain ⟨i0, hi, hz0, hz1, hz2⟩ := info_parts infoB
  cases src with
  | none =>
    obtain ⟨rfl, rfl⟩ := hnil rfl
    have h0 : ys = [] := List.eq_nil_of_length_eq_zero hb.1
    subst h0
    have hrun := run_append_owned_none (P := Tryd.prog) (w := w) base 22 o.type 5 i0 1 Tryd.underlying22 hi _ n (bv xs) hown
    unfold Oper.wp
    simp [execOp, ho, resolve, invoke, builtin, hs, hx, hrun, Result.andThen]
    exact h g cap w (by rw [List.append_nil]; exact hown) ⟨rfl, rfl, rfl, Nat.le_refl _, fun _ _ _ => rfl⟩ (.inl rfl)
  | some ad =>
    obtain ⟨v', w', hr, h2, h3, h4, h5⟩ := run_append_own_at (P := Tryd.prog) w base 22 o.type 5 i0 (.int .u8 0) 1 1 Tryd.underlying22 hi hz0 hz1 hz2 rfl (by decide) _ n (bv xs) hown ad m c (bv ys) (by rw [bv_length, hb.1]; omega) (hb.at.2 ad rfl) (bv_one _) (by unfold maxLen; omega) (by omega) hbase
    unfold Oper.wp
    simp [execOp, ho, resolve, invoke, builtin, hs, hx, hr, Result.andThen]
    rcases h2.2 with ⟨e, _⟩ | ⟨g', c', cur, rfl, _⟩
    · have := (h4.1 e).1
      cases this
    · refine h g' c' w' (by rw [bv_append]; exact h2) h3 ?_
      rcases h5 with h5 | h5
      · simp [Value.ownBlock] at h5
        exact .inl h5
      · simp [Value.ownBlock] at h5
        exact .inr (by omega)

theorem Sp.stored {T : TypeId} {W : World} {B x y n c : Nat} {bs : List UInt8} {v0 v1 : Value} (hx : B ≤ x) (hb : W.heap[x]? = some (.cells #[v0, v1] T (0, 0))) (ho : W.ownsRow B 5 1 (.slice (some ⟨y, 0, none⟩) n c) n (bv bs)) (hl : bs.length = n) (hne : x ≠ y) (K : Nat) :
    Sp T ((W.setCell ⟨x, 0, none⟩ (.slice (some ⟨y, 0, none⟩) n c)).setCell ⟨x, 1, none⟩ (.int .i64 (K : Int))) B x y c bs K := by
  subst hl
  refine ⟨hx, hne, pair_set _ _ hb, own_of_block ho (fun k hk => ?_)⟩
  simp [Value.ownBlock] at hk
  subst hk
  exact (Below.heap_setCell _ _ _ _ hne.symm).trans (Below.heap_setCell _ _ _ _ hne.symm)

/-- What put leaves: a span of the new bytes, its place behind them. -/
structure PutOk (T : TypeId) (w : World) (B x y : Nat) (bs : List UInt8) (K : Nat) (W : World) : Prop where
  sp : ∃ y' c', Sp T W B x y' c' bs K ∧ (y' = y ∨ w.heap.size ≤ y')
  bel : Below B w W
  oth : ∀ k, k < w.heap.size → k ≠ x → k ≠ y → W.heap[k]? = w.heap[k]?

set_option maxHeartbeats 1600000 in
theorem dput_end (T : TypeId) (w : World) (B x y c : Nat) (bs : List UInt8) (h : Sp T w B x y c bs bs.length) (a : Option Addr) (m d : Nat) (ys : List UInt8) (hb : Arg w a m d ys) (hfar : ∀ b o, a = some ⟨b, o, none⟩ → 0 < m → b ≠ x ∧ b ≠ y) (hn : bs.length + m ≤ 140737488355328) :
    Calls Tryd.prog 100 #[.pointer (some ⟨x, 0, none⟩), .slice a m d] w fun e w' => e = .returned (.tuple #[]) ∧ PutOk T w B x y (bs ++ ys) (bs.length + m) w' := by
  have c0 := h.c0
  have c1 := h.c1
  have hcap := own_cap h.row
  have f0 := h.fz 0
  have f1 := h.fz 1
  have HS := hide h
  have HA := hide hb
  have hr := hb.room
  have hmo := hb.most
  have hyl := hb.bs.1
  have hBw : B ≤ w.heap.size := Nat.le_trans h.hx (Nat.le_of_lt h.xlt)
  have hxlt := h.xlt
  have hr1 : (m : Int) ≤ (d : Int) := by omega
  have hr2 : (d : Int) ≤ 9223372036854775807 := by omega
  have hBx := h.hx
  have HEND : Hid (∀ (j : Nat) (g' c' : Nat) (W : World), W.ownsRow B 5 1 (.slice (some ⟨g', 0, none⟩) (bs.length + m) c') (bs.length + m) (bv (bs ++ ys)) → (w.drewN j).grownBy W (some y) → (g' = y ∨ w.heap.size ≤ g') →
      (W.cell? ⟨x, 1, none⟩ = some (.int .i64 (bs.length : Int)) ∧ (∀ q, W.frozen? ⟨x, q, none⟩ = false) ∧ (∃ u, W.cell? ⟨x, 0, none⟩ = some u)) ∧
      PutOk T w B x y (bs ++ ys) (bs.length + m) ((W.setCell ⟨x, 0, none⟩ (.slice (some ⟨g', 0, none⟩) (bs.length + m) c')).setCell ⟨x, 1, none⟩ (.int .i64 ((bs.length + m : Nat) : Int)))) := fun j g' c' W o1 g1 hat => by
    have hblk : W.heap[x]? = _ := (g1.block x hxlt (by simpa using h.ne)).trans h.blk
    have hne : x ≠ g' := by
      rcases hat with e | e
      · rw [e]; exact h.ne
      · omega
    refine ⟨⟨by rw [cell_of_row _ _ _ _ _ _ hblk]; rfl, fun q => frozen_of_row _ _ _ _ _ hblk, _, by rw [cell_of_row _ _ _ _ _ _ hblk]; rfl⟩, ⟨g', c', Sp.stored hBx hblk o1 (by rw [List.length_append, hyl]) hne _, hat⟩, ?_, fun k hk h1 h2 => ?_⟩
    · have f : Below B w W := ((below_drewN (Below.refl _ _) j).grown g1 (by simpa using hBw) (fun k hk => by simp at hk; rw [← hk]; exact h.y.1))
      exact (f.setCell (p := ⟨x, 0, none⟩) hBx _).setCell (p := ⟨x, 1, none⟩) hBx _
    · exact ((Below.heap_setCell _ _ _ _ h1).trans (Below.heap_setCell _ _ _ _ h1)).trans (g1.block k hk (by simpa using h2))
  have hown : Hid (∀ j, (w.drewN j).ownsRow B 5 1 (.slice (some ⟨y, 0, none⟩) bs.length c) bs.length (bv bs)) := fun j => (h.drewN j).row
  have hsrc : Hid (∀ j, Bs (w.drewN j) a m ys) := fun j => hb.bs.below (below_drewN (Below.refl _ _) j)
  have hnl := hide hb.nil
  clear h hb hfar
  obtain ⟨M, hM⟩ : ∃ M, M = bs.length + m := ⟨_, rfl⟩
  rw [← hM] at HEND
  have k1 : (bs.length : Int) + (m : Int) = (M : Int) := by omega
  have k2 : IntKind.i64.wrap (M : Int) = (M : Int) := by rw [IntKind.wrap_i64]; omega
  have k3 : (M : Int) ≤ 9223372036854775807 := by omega
  generalize hnb : bs.length = n at *
  clear hnb
  have l1 : (n : Int) ≤ (c : Int) := by omega
  have l2 : (c : Int) ≤ 9223372036854775807 := by omega
  have HM := hide hM
  clear hM
  go_enter Tryd.func100, Tryd.ntmps100
  go_wp2_with fail
  go_region_held_law (fun W => W.cell? ⟨x, 0, none⟩ = some (.slice (some ⟨y, 0, none⟩) n c) ∧ W.cell? ⟨x, 1, none⟩ = some (.int .i64 (n : Int))) (go_keep)
    (first | (refine step_copy_none rfl (.tmp 13) (.tmp 14) 22 22 rfl 5 Tryd.underlying22 (by kernel_rfl) _ _ _ _ _ _ (by rfl) (by rfl) (by simp) ?_))
  go_simp
  go_upto_region 1 with fail
  go_region_law (first | (refine stepN_append rfl (.tmp 20) (.tmp 23) rfl B y n c bs (by rfl) (by exact unhide hown 2) _ m d ys (by rfl) (by first | exact unhide hsrc 2) (by exact unhide hnl) (by omega) (by first | exact hBw) ?_; intro g6 c6 w6; rw [← unhide HM]; intro o6 gr6 hat6; have q6 := unhide HEND 2 g6 c6 w6 o6 gr6 hat6; have k61 := q6.1.1; have k62 := q6.1.2.1 0; have k63 := q6.1.2.1 1; obtain ⟨u6, k60⟩ := q6.1.2.2; have Q6 := hide q6.2; clear q6 o6 gr6 hat6))
  clear HEND hown hsrc hnl c0 c1 f0 f1 HS HA
  go_wp2
  all_goals
    go_end0
    exact ⟨rfl, by rw [← unhide HM]; exact unhide Q6⟩

/-- One byte copied into bytes of one's own, in a region that draws. -/
theorem stepP_copy {w : World} {ops : Array Oper} {o : Oper} {a : Act} {K : Act → World → Prop} {Q : Exit → Act → World → Prop} {E : Prop} (hgd : o.guard = none) (d s : Operand)
    (ho : o.op = .call { callee := .builtin .copy, args := #[d, s], argTypes := #[22, 22] }) (B y n c i : Nat) (bs : List UInt8) (u : UInt8) (hown : w.ownsRow B 5 1 (.slice (some ⟨y, 0, none⟩) n c) n (bv bs)) (hi : i < n)
    (dLen dCap : Nat) (hd : a.eval d = .slice (some ⟨y, i, none⟩) dLen dCap) (hdl : 0 < dLen) (z sCap : Nat) (hs : a.eval s = .slice (some ⟨z, 0, none⟩) 1 sCap) (hz : w.cell? ⟨z, 0, none⟩ = some (.int .u8 (u.toNat : Int)))
    (h : ∀ w', w'.ownsRow B 5 1 (.slice (some ⟨y, 0, none⟩) n c) n (bv (bs.set i u)) → (∀ k, k ≠ y → w'.heap[k]? = w.heap[k]?) → w'.heap.size = w.heap.size → Below B w w' → K (a.put o.dst (.int .i64 1)) w') :
    if Region.wanted o (yielded ops a.tmps) = true then Oper.wp Tryd.prog o a w K Q else E := by
  rw [if_pos (by simp [Region.wanted, hgd])]
  rcases hown.2 with ⟨e, _⟩ | ⟨g, cap, cur, e, hB, hg, hnc, hcm, hcs, htake⟩
  · cases e
  · simp only [Value.slice.injEq, Option.some.injEq, Addr.mk.injEq, and_true, true_and] at e
    obtain ⟨rfl, rfl⟩ := e
    have hl := hown.1
    rw [Nat.mul_one] at hl hcs htake
    have hrun := run_copy_row (P := Tryd.prog) w 22 22 o.type 5 y i dLen dCap ⟨z, 0, none⟩ 1 sCap cur 5 [.int .u8 (u.toNat : Int)] Tryd.underlying22 (by kernel_rfl) hg (by show 1 = min 1 dLen; omega) (fun j v hj => by
      match j with
      | 0 =>
        simp at hj
        subst hj
        simpa [Addr.add_mid] using hz
      | j + 1 => simp at hj) (by show i + 1 ≤ _; omega) (by simp [Value.oneCell'])
    unfold Oper.wp
    simp [execOp, ho, resolve, invoke, builtin, hd, hs, hrun, Result.andThen]
    refine h _ ⟨?_, .inr ⟨y, c, _, rfl, hB, setRow_heap w y cur _ _ _ hg, hnc, hcm, ?_, ?_⟩⟩ (fun k hk => setRow_other w y k _ hk) (by simp [World.setRow]) ⟨rfl, rfl, rfl, by simp [World.setRow], fun k hk => setRow_other w y k _ (by omega)⟩
    · rw [bv_length, List.length_set]
      rw [bv_length] at hl
      omega
    · simp
      omega
    · have h2 : bv (bs.set i u) = (bv bs).set i (.int .u8 (u.toNat : Int)) := by simp [bv, List.map_set]
      rw [h2, ← htake, Nat.mul_one]
      have h3 : cur.toList.take i ++ (Value.int .u8 (u.toNat : Int) :: cur.toList.drop (i + 1)) = cur.toList.set i (.int .u8 (u.toNat : Int)) := by
        rw [List.set_eq_take_append_cons_drop, if_pos (by rw [Array.length_toList]; omega)]
      show List.take n (cur.toList.take i ++ (Value.int .u8 (u.toNat : Int) :: cur.toList.drop (i + 1))) = _
      rw [h3, List.take_set]

/-- An append of nothing, in a region that draws. -/
theorem stepF_append {w : World} {ops : Array Oper} {o : Oper} {a : Act} {K : Act → World → Prop} {Q : Exit → Act → World → Prop} {E : Prop} (hgd : o.guard = none) (s x : Operand) (ho : o.op = .call { callee := .builtin .append, args := #[s, x], argTypes := #[22, 22] })
    (base g n cap : Nat) (xs : List UInt8) (hs : a.eval s = .slice (some ⟨g, 0, none⟩) n cap) (hown : w.ownsRow base 5 1 (.slice (some ⟨g, 0, none⟩) n cap) n (bv xs)) (ad : Addr) (c : Nat) (hx : a.eval x = .slice (some ad) 0 c)
    (h : ∀ w', w'.ownsRow base 5 1 (.slice (some ⟨g, 0, none⟩) n cap) n (bv xs) → w.grownBy w' (some g) → K (a.put o.dst (.slice (some ⟨g, 0, none⟩) n cap)) w') :
    if Region.wanted o (yielded ops a.tmps) = true then Oper.wp Tryd.prog o a w K Q else E := by
  rw [if_pos (by simp [Region.wanted, hgd])]
  obtain ⟨i0, hi, hz0, hz1, hz2⟩ := info_parts infoB
  obtain ⟨w', hr, h2, h3⟩ := run_append_fits (P := Tryd.prog) w base 22 o.type 5 i0 1 Tryd.underlying22 hi hz1 g n cap (bv xs) hown ad 0 c [] rfl (fun j u hu => by simp at hu) (fun u hu => by simp at hu) (own_cap hown).1
  unfold Oper.wp
  simp [execOp, ho, resolve, invoke, builtin, hs, hx, hr, Result.andThen]
  rw [Nat.add_zero, List.append_nil] at h2
  exact h w' h2 h3

structure PutIn (T : TypeId) (w : World) (B x y c : Nat) (bs : List UInt8) (K : Nat) (W : World) : Prop where
  sp : Sp T W B x y c bs K
  bel : Below B w W
  oth : ∀ k, k < w.heap.size → k ≠ x → k ≠ y → W.heap[k]? = w.heap[k]?

set_option maxHeartbeats 1600000 in
theorem dput_in (T : TypeId) (w : World) (B x y c i : Nat) (bs : List UInt8) (h : Sp T w B x y c bs i) (hi : i < bs.length) (z : Nat) (u : UInt8) (hz : w.cell? ⟨z, 0, none⟩ = some (.int .u8 (u.toNat : Int))) (hn : bs.length ≤ 140737488355328) :
    Calls Tryd.prog 100 #[.pointer (some ⟨x, 0, none⟩), .slice (some ⟨z, 0, none⟩) 1 1] w fun e w' => e = .returned (.tuple #[]) ∧ PutIn T w B x y c (bs.set i u) (i + 1) w' := by
  have c0 := h.c0
  have c1 := h.c1
  have hcap := own_cap h.row
  have hBx := h.hx
  have hBw : B ≤ w.heap.size := Nat.le_trans h.hx (Nat.le_of_lt h.xlt)
  have hown : Hid (∀ j, (w.drewN j).ownsRow B 5 1 (.slice (some ⟨y, 0, none⟩) bs.length c) bs.length (bv bs)) := fun j => (h.drewN j).row
  have hci : ¬ c = i := by omega
  have HA : Hid (∀ j (W : World), (∀ k, k ≠ y → W.heap[k]? = (w.drewN j).heap[k]?) → W.cell? ⟨x, 0, none⟩ = some (.slice (some ⟨y, 0, none⟩) bs.length c) ∧ W.cell? ⟨x, 1, none⟩ = some (.int .i64 (i : Int)) ∧ W.frozen? ⟨x, 0, none⟩ = false ∧ W.frozen? ⟨x, 1, none⟩ = false) := fun j W hW => by
    have hblk : W.heap[x]? = _ := (hW x h.ne).trans h.blk
    exact ⟨by rw [cell_of_row _ _ _ _ _ _ hblk]; rfl, by rw [cell_of_row _ _ _ _ _ _ hblk]; rfl, frozen_of_row _ _ _ _ _ hblk, frozen_of_row _ _ _ _ _ hblk⟩
  have HE : Hid (∀ (j j' : Nat) (W W' : World), (∀ k, k ≠ y → W.heap[k]? = (w.drewN j).heap[k]?) → W.heap.size = (w.drewN j).heap.size → Below B (w.drewN j) W → (W.drewN j').grownBy W' (some y) → W'.ownsRow B 5 1 (.slice (some ⟨y, 0, none⟩) bs.length c) bs.length (bv (bs.set i u)) →
      W'.cell? ⟨x, 0, none⟩ = some (.slice (some ⟨y, 0, none⟩) bs.length c) ∧ W'.cell? ⟨x, 1, none⟩ = some (.int .i64 (i : Int)) ∧ W'.frozen? ⟨x, 0, none⟩ = false ∧ W'.frozen? ⟨x, 1, none⟩ = false ∧
      PutIn T w B x y c (bs.set i u) (i + 1) ((W'.setCell ⟨x, 0, none⟩ (.slice (some ⟨y, 0, none⟩) bs.length c)).setCell ⟨x, 1, none⟩ (.int .i64 ((i + 1 : Nat) : Int)))) := fun j j' W W' hW hsz hb g1 o1 => by
    have hlW : ∀ k, k < w.heap.size → k ≠ y → W'.heap[k]? = w.heap[k]? := fun k hk hy => (g1.block k (by show k < W.heap.size; rw [hsz]; exact hk) (by simpa using hy)).trans (hW k hy)
    have hblk : W'.heap[x]? = _ := (hlW x h.xlt h.ne).trans h.blk
    refine ⟨by rw [cell_of_row _ _ _ _ _ _ hblk]; rfl, by rw [cell_of_row _ _ _ _ _ _ hblk]; rfl, frozen_of_row _ _ _ _ _ hblk, frozen_of_row _ _ _ _ _ hblk, ?_, ?_, fun k hk h1 h2 => ?_⟩
    · have := Sp.stored (bs := bs.set i u) hBx hblk o1 (by rw [List.length_set]) h.ne (i + 1)
      exact this
    · have f1 : Below B w W := (below_drewN (Below.refl _ _) j).trans hb
      have f2 : Below B w W' := (below_drewN f1 j').grown g1 (by show B ≤ W.heap.size; rw [hsz]; exact hBw) (fun k hk => by simp at hk; rw [← hk]; exact h.y.1)
      exact (f2.setCell (p := ⟨x, 0, none⟩) hBx _).setCell (p := ⟨x, 1, none⟩) hBx _
    · exact ((Below.heap_setCell _ _ _ _ h1).trans (Below.heap_setCell _ _ _ _ h1)).trans (hlW k hk h2)
  have HZ := hide hz
  clear h hz
  obtain ⟨M, hM⟩ : ∃ M, M = i + 1 := ⟨_, rfl⟩
  rw [← hM] at HE ⊢
  have k1 : (i : Int) + 1 = (M : Int) := by omega
  have k2 : IntKind.i64.wrap (M : Int) = (M : Int) := by rw [IntKind.wrap_i64]; omega
  have k3 : (M : Int) ≤ 9223372036854775807 := by omega
  generalize hnb : bs.length = n at *
  have k4 : (n : Int) ≤ (c : Int) := by omega
  have k5 : (i : Int) ≤ (n : Int) := by omega
  have k6 : (c : Int) ≤ 9223372036854775807 := by omega
  clear hnb hM
  go_enter Tryd.func100, Tryd.ntmps100
  go_wp2_with fail
  go_region_held_law (fun W => W.cell? ⟨x, 0, none⟩ = some (.slice (some ⟨y, 0, none⟩) n c) ∧ W.cell? ⟨x, 1, none⟩ = some (.int .i64 (i : Int))) (go_keep)
    (first | (refine stepP_copy rfl (.tmp 13) (.tmp 14) rfl B y n c i bs u (by exact unhide hown 1) hi (n - i) (c - i) (by rfl) (by omega) z 1 (by rfl) (by exact unhide HZ) ?_; intro w5 o5 oth5 sz5 f5; obtain ⟨k50, k51, k52, k53⟩ := unhide HA 1 w5 oth5; have O5 := hide o5; have OT5 := hide oth5; have SZ5 := hide sz5; have F5 := hide f5; clear o5 oth5 sz5 f5))
  clear HA hown HZ c0 c1
  go_simp
  go_upto_region 1 with fail
  go_region_law (first | (refine stepF_append rfl (.tmp 20) (.tmp 23) rfl B y n c (bs.set i u) (by rfl) (by exact unhide O5) _ 0 (by rfl) ?_; intro w6 o6 g6; obtain ⟨k60, k61, k62, k63, q6⟩ := unhide HE 1 1 w5 w6 (unhide OT5) (unhide SZ5) (unhide F5) g6 o6; have Q6 := hide q6; clear q6 o6 g6))
  clear HE O5 OT5 SZ5 F5 k50 k51 k52 k53
  go_wp2
  go_end0
  exact ⟨rfl, unhide Q6⟩

end Go.Proofs.YtpmhcignenfhgaaDoor

/- The landed word: putNumber. -/
namespace Go.Proofs.YtpmhcignenfhgaaDoor
open Go.RowKit
set_option linter.unusedVariables false

/-- Bytes laid over others, from a place on. -/
def ovr (bs : List UInt8) (i : Nat) (l : List UInt8) : List UInt8 := bs.take i ++ l ++ bs.drop (i + l.length)
theorem ovr_nil (bs : List UInt8) (i : Nat) : ovr bs i [] = bs := by simp [ovr]
theorem ovr_end (bs l : List UInt8) : ovr bs bs.length l = bs ++ l := by
  unfold ovr
  rw [List.take_of_length_le (Nat.le_refl _), List.drop_eq_nil_of_le (by omega), List.append_nil]
theorem ovr_len (bs : List UInt8) (i : Nat) (l : List UInt8) (hi : i ≤ bs.length) : (ovr bs i l).length = max bs.length (i + l.length) := by
  unfold ovr
  simp
  omega
/-- One byte more. -/
def put1 (bs : List UInt8) (i : Nat) (u : UInt8) : List UInt8 := if i < bs.length then bs.set i u else bs ++ [u]
theorem ovr_put (bs : List UInt8) (i : Nat) (l : List UInt8) (u : UInt8) (hi : i ≤ bs.length) : put1 (ovr bs i l) (i + l.length) u = ovr bs i (l ++ [u]) := by
  unfold put1
  rw [ovr_len bs i l hi]
  by_cases h : i + l.length < bs.length
  · rw [if_pos (by omega)]
    unfold ovr
    have hl : (bs.take i ++ l).length = i + l.length := by simp; omega
    rw [List.set_append_right _ _ (by omega), hl, Nat.sub_self, List.append_assoc (bs.take i), List.append_assoc (bs.take i), List.append_assoc l]
    congr 2
    rw [List.length_append, List.length_singleton]
    rw [← Nat.add_assoc, List.drop_eq_getElem_cons h]
    rfl
  · rw [if_neg (by omega)]
    unfold ovr
    rw [List.drop_eq_nil_of_le (by omega), List.drop_eq_nil_of_le (by simp; omega)]
    simp

structure PutB (T : TypeId) (w : World) (B x y c i n : Nat) (bs : List UInt8) (W : World) : Prop where
  sp : ∃ y' c', Sp T W B x y' c' bs (i + 1) ∧ (y' = y ∨ w.heap.size ≤ y') ∧ (i < n → y' = y ∧ c' = c)
  bel : Below B w W
  oth : ∀ k, k < w.heap.size → k ≠ x → k ≠ y → W.heap[k]? = w.heap[k]?
theorem dput_one (T : TypeId) (w : World) (B x y c i : Nat) (bs : List UInt8) (h : Sp T w B x y c bs i) (hi : i ≤ bs.length) (z : Nat) (u : UInt8) (hz : w.cell? ⟨z, 0, none⟩ = some (.int .u8 (u.toNat : Int))) (hzx : z ≠ x) (hzy : z ≠ y) (hn : bs.length + 1 ≤ 140737488355328) :
    Calls Tryd.prog 100 #[.pointer (some ⟨x, 0, none⟩), .slice (some ⟨z, 0, none⟩) 1 1] w fun e w' => e = .returned (.tuple #[]) ∧ PutB T w B x y c i bs.length (put1 bs i u) w' := by
  unfold put1
  by_cases hlt : i < bs.length
  · rw [if_pos hlt]
    refine (dput_in T w B x y c i bs h hlt z u hz (by omega)).mono ?_
    rintro e w' ⟨rfl, r⟩
    exact ⟨rfl, ⟨y, c, r.sp, .inl rfl, fun _ => ⟨rfl, rfl⟩⟩, r.bel, r.oth⟩
  · obtain rfl : i = bs.length := by omega
    rw [if_neg hlt]
    have hb : Arg w (some ⟨z, 0, none⟩) 1 1 [u] := ⟨⟨rfl, .inr ⟨z, 0, rfl, (fun e => by cases e), fun ad e j v hv => by
      injection e with e
      subst e
      match j with
      | 0 =>
        simp [bv] at hv
        subst hv
        simpa [Addr.add_mid] using hz
      | j + 1 => simp [bv] at hv⟩⟩, by omega, by omega, fun e => by cases e⟩
    refine (dput_end T w B x y c bs h (some ⟨z, 0, none⟩) 1 1 [u] hb (fun b o e _ => by
      injection e with e
      injection e with e1
      subst e1
      exact ⟨hzx, hzy⟩) hn).mono ?_
    rintro e w' ⟨rfl, r⟩
    obtain ⟨y', c', h1, h2⟩ := r.sp
    exact ⟨rfl, ⟨y', c', h1, h2, fun h => absurd h hlt⟩, r.bel, r.oth⟩

/-- The byte of a number behind so many others. -/
def byteAt (n : Int) (j : Nat) : UInt8 := UInt8.ofNat ((n % 18446744073709551616).toNat / 256 ^ j)
theorem byteAt_eq (n : Int) (j : Nat) (hj : j < 8) : IntKind.u8.wrap (n / 2 ^ (8 * j)) = ((byteAt n j).toNat : Int) := by
  have hp : (2 : Int) ^ (8 * j) = ((256 ^ j : Nat) : Int) := by
    rw [Int.pow_mul]
    simp
  rw [hp, IntKind.wrap_u8]
  unfold byteAt
  rw [UInt8.toNat_ofNat']
  have : j = 0 ∨ j = 1 ∨ j = 2 ∨ j = 3 ∨ j = 4 ∨ j = 5 ∨ j = 6 ∨ j = 7 := by omega
  rcases this with rfl | rfl | rfl | rfl | rfl | rfl | rfl | rfl <;> (simp; omega)
theorem bytesW_take (m : Nat) (n : Int) (i : Nat) (hi : i < m) : (bytesW m n).take (i + 1) = (bytesW m n).take i ++ [byteAt n (m - 1 - i)] := by
  have key : ∀ (m : Nat) (x i : Nat), i < m → (beK m x)[i]? = some (UInt8.ofNat (x / 256 ^ (m - 1 - i))) := by
    intro m
    induction m with
    | zero => intro x i h; omega
    | succ m ih =>
      intro x i h
      rw [beK_cons]
      match i with
      | 0 => simp
      | i + 1 =>
        rw [List.getElem?_cons_succ, ih x i (by omega)]
        congr 4
        omega
  unfold bytesW
  rw [Int.toNat_natCast, List.take_add_one, key m _ i hi]
  rfl

/-- Between the rounds of putNumber. -/
structure PN (T : TypeId) (w : World) (B x y c i m : Nat) (bs : List UInt8) (n : Int) (k : Nat) (W : World) : Prop where
  sp : ∃ y' c', Sp T W B x y' c' (ovr bs i ((bytesW m n).take k)) (i + k) ∧ (y' = y ∨ w.heap.size ≤ y') ∧ (i + m ≤ bs.length → y' = y ∧ c' = c)
  bel : Below B w W
  oth : ∀ q, q < w.heap.size → q ≠ x → q ≠ y → W.heap[q]? = w.heap[q]?
theorem PN.start {T : TypeId} {w : World} {B x y c i : Nat} {bs : List UInt8} (h : Sp T w B x y c bs i) (m : Nat) (n : Int) : PN T w B x y c i m bs n 0 w :=
  ⟨⟨y, c, by rw [List.take_zero, ovr_nil]; exact h, .inl rfl, fun _ => ⟨rfl, rfl⟩⟩, Below.refl _ _, fun _ _ _ _ => rfl⟩
theorem ovr_room {bs : List UInt8} {i k m : Nat} {n : Int} (hi : i ≤ bs.length) (hk : k < m) (hn : bs.length + 8 ≤ 140737488355328) (hm : m ≤ 8) : (ovr bs i ((bytesW m n).take k)).length + 1 ≤ 140737488355328 ∧ i + k ≤ (ovr bs i ((bytesW m n).take k)).length ∧ ((bytesW m n).take k).length = k := by
  have hl : ((bytesW m n).take k).length = k := by rw [List.length_take, bytesW_len, Int.toNat_natCast]; omega
  rw [ovr_len bs i _ hi, hl]
  omega
theorem PN.call {T : TypeId} {w W : World} {B x y c i m : Nat} {bs : List UInt8} {n : Int} {k : Nat} (h : PN T w B x y c i m bs n k W) (hi : i ≤ bs.length) (hk : k < m) (hm : m ≤ 8) (hn : bs.length + 8 ≤ 140737488355328) (hBw : B ≤ w.heap.size) :
    Calls Tryd.prog 100 #[.pointer (some ⟨x, 0, none⟩), .slice (some ⟨W.heap.size, 0, none⟩) 1 1] (W.alloc (.cells #[.int .u8 ((byteAt n (m - 1 - k)).toNat : Int)] 5)) fun e w' => e = .returned (.tuple #[]) ∧ PN T w B x y c i m bs n (k + 1) w' := by
  obtain ⟨y', c', hs, hy, hc⟩ := h.sp
  obtain ⟨hr1, hr2, hr3⟩ := ovr_room (n := n) hi hk hn hm
  have b1 : Below W.heap.size W (W.alloc (.cells #[.int .u8 ((byteAt n (m - 1 - k)).toNat : Int)] 5)) := (Below.refl _ _).alloc (Nat.le_refl _) _
  have hx := hs.xlt
  have hyl := hs.y.2
  refine (dput_one T _ B x y' c' (i + k) _ (hs.below b1) hr2 W.heap.size (byteAt n (m - 1 - k)) (by rw [cell_of_row _ _ _ _ _ _ (heap_alloc_last W _)]; rfl) (by omega) (by omega) hr1).mono ?_
  rintro e w' ⟨rfl, r⟩
  obtain ⟨y2, c2, h2, h3, h4⟩ := r.sp
  have hsz := h.bel.size
  refine ⟨rfl, ⟨y2, c2, ?_, ?_, fun h5 => ?_⟩, (h.bel.alloc (Nat.le_trans hBw hsz) _).trans r.bel, fun q hq h5 h6 => ?_⟩
  · have e1 := ovr_put bs i ((bytesW m n).take k) (byteAt n (m - 1 - k)) hi
    rw [hr3, ← bytesW_take m n k hk] at e1
    rw [← e1]
    exact h2
  · rcases h3 with e | e
    · rw [e]; exact hy
    · right
      simp at e
      omega
  · obtain ⟨e1, e2⟩ := hc h5
    obtain ⟨e3, e4⟩ := h4 (by rw [ovr_len bs i _ hi, hr3]; omega)
    exact ⟨e3.trans e1, e4.trans e2⟩
  · have hqW : q < W.heap.size := by omega
    have hy2 : q ≠ y' := by
      rcases hy with e | e
      · rw [e]; exact h6
      · omega
    exact (r.oth q (by simp; omega) h5 hy2).trans ((heap_alloc_old W _ hqW).trans (h.oth q hq h5 h6))

set_option maxHeartbeats 3200000 in
theorem dputN_any (T : TypeId) (w : World) (B x y c i m : Nat) (bs : List UInt8) (h : Sp T w B x y c bs i) (hi : i ≤ bs.length) (hm : m = 1 ∨ m = 2 ∨ m = 4 ∨ m = 8) (n : Int) (hnn : -9223372036854775808 ≤ n ∧ n ≤ 9223372036854775807) (hn : bs.length + 8 ≤ 140737488355328) :
    Calls Tryd.prog 96 #[.pointer (some ⟨x, 0, none⟩), .int .i64 (m : Int), .int .i64 n] w fun e w' => e = .returned (.tuple #[]) ∧ PN T w B x y c i m bs n m w' := by
  have HP := hide (PN.start h m n)
  have hBw : B ≤ w.heap.size := Nat.le_trans h.hx (Nat.le_of_lt h.xlt)
  have hm8 : m ≤ 8 := by omega
  clear h
  go_enter Tryd.func96, Tryd.ntmps96
  go_wp2
  go_loopw [8] (fun q wr => ∃ k : Nat, k ≤ m ∧ q = .int .i64 k ∧ PN T w B x y c i m bs n k wr) (fun q _ => m - (intOf q).toNat)
  case atStart => exact ⟨0, by omega, rfl, unhide HP⟩
  case round =>
    obtain ⟨k, hk, rfl, hP⟩ := hrel
    by_cases hlt : k < m
    · have HC := hide (hP.call hi hlt hm8 hn hBw)
      obtain ⟨J, hJ⟩ : ∃ J, J = m - 1 - k := ⟨_, rfl⟩
      rw [← hJ] at HC
      have hby := byteAt_eq n J (by omega)
      generalize ((byteAt n J).toNat : Int) = by_ at *
      obtain ⟨S, hS⟩ : ∃ S, S = 8 * J := ⟨_, rfl⟩
      rw [← hS] at hby
      obtain ⟨m1, hm1⟩ : ∃ m1, m = m1 + 1 := ⟨m - 1, by omega⟩
      have a0 : (k : Int) < (m : Int) := by omega
      have a1 : (m : Int) - 1 = (m1 : Int) := by omega
      have a2 : (m1 : Int) - (k : Int) = (J : Int) := by omega
      have a3 : 8 * (J : Int) = (S : Int) := by omega
      have a4 : (S : Int) ≤ 64 := by omega
      have a5 : (m : Int) ≤ 8 := by omega
      have a6 : min S 64 = S := by omega
      clear hP HP hJ hS hm1 hm
      go_wp2_with fail
      refine (unhide HC).mono ?_
      rintro e w1 ⟨rfl, hP1⟩
      have HP1 := hide hP1
      clear hP1 HC
      go_wp2
      go_roundw
      case rel => exact ⟨k + 1, by omega, by go_num, unhide HP1⟩
      case measure => simp [intOf]; omega
    · obtain rfl : k = m := by omega
      have HP2 := hide hP
      clear hP HP
      go_wp2
      go_end0
      exact ⟨rfl, unhide HP2⟩

end Go.Proofs.YtpmhcignenfhgaaDoor

/- The landed word: the writer's calls. -/
namespace Go.Proofs.YtpmhcignenfhgaaDoor
open Go.RowKit
set_option linter.unusedVariables false

set_option maxHeartbeats 1600000 in
theorem eMake_any (w : World) :
    Calls Tryd.prog 41 #[] w fun e w' => ∃ x F, e = .returned (.pointer (some ⟨x, 0, none⟩)) ∧ WR F w' w.heap.size x [] ∧ Below w.heap.size w w' := by
  have H1 := hide (dspanOf_any w none 0 0 [] ⟨⟨rfl, .inl rfl⟩, by omega, by omega, fun _ => ⟨rfl, rfl⟩⟩ (by omega))
  go_enter Tryd.func41, Tryd.ntmps41
  go_wp2_with fail
  refine (unhide H1).mono ?_
  rintro e w1 ⟨g, d, rfl, o1, f1⟩
  have b2 : Below w1.heap.size w1 (w1.alloc (.cells #[.slice (some ⟨g, 0, none⟩) 0 d, .int .i64 0] 105)) := (Below.refl _ _).alloc (Nat.le_refl _) _
  have hb := heap_alloc_last w1 (.cells #[.slice (some ⟨g, 0, none⟩) 0 d, .int .i64 0] 105)
  have hg := o1.lt g rfl
  have P1 : Hid (∃ F, WR F (w1.alloc (.cells #[.slice (some ⟨g, 0, none⟩) 0 d, .int .i64 0] 105)) w.heap.size w1.heap.size []) := by
    exact ⟨_, g, d, rfl, f1.size, by omega, hb, own_below o1 b2⟩
  have F1 := hide (f1.trans (b2.mono f1.size))
  clear o1 f1 b2 hb hg H1
  go_wp2
  go_ret
  obtain ⟨F, hF⟩ := unhide P1
  exact ⟨_, F, rfl, hF, unhide F1⟩

set_option maxHeartbeats 1600000 in
theorem eLen_any (F : Nat → Prop) (w : World) (B x : Nat) (bs : List UInt8) (h : WR F w B x bs) :
    Calls Tryd.prog 97 #[.pointer (some ⟨x, 0, none⟩)] w fun e w' => e = .returned (.int .i64 (bs.length : Int)) ∧ Below w.heap.size w w' := by
  obtain ⟨y, c, rfl, h⟩ := h
  have HM := hide (emade_any w B x y c bs _ h)
  have c1 := h.c1
  clear h
  go_enter Tryd.func97, Tryd.ntmps97
  go_wp2_with fail
  refine (unhide HM).mono ?_
  rintro e w1 ⟨rfl, e0⟩
  have e0' := e0.symm
  clear e0
  subst e0'
  go_wp2
  go_ret
  exact ⟨rfl, Below.refl _ _⟩

set_option maxHeartbeats 1600000 in
theorem eAll_any (F : Nat → Prop) (w : World) (B x : Nat) (bs : List UInt8) (h : WR F w B x bs) (hs : bs.length ≤ 140737488351232) :
    Calls Tryd.prog 43 #[.pointer (some ⟨x, 0, none⟩)] w fun e w' => ∃ v, e = .returned v ∧ w'.ownsRow w.heap.size 5 1 v bs.length (bv bs) ∧ Below w.heap.size w w' := by
  obtain ⟨y, c, rfl, h⟩ := h
  have HM := hide (emade_any w B x y c bs _ h)
  have c0 := h.c0
  have HC : Hid (∀ j, Calls Tryd.prog 72 #[.slice (some ⟨y, 0, none⟩) bs.length c] (w.drewN j) fun e w' => ∃ g d, e = .returned (.slice (some ⟨g, 0, none⟩) bs.length d) ∧ w'.ownsRow w.heap.size 5 1 (.slice (some ⟨g, 0, none⟩) bs.length d) bs.length (bv bs) ∧ Below w.heap.size (w.drewN j) w') := fun j => bClone_any (w.drewN j) _ _ c bs (bs_of_own rfl (h.drewN j).row) hs
  clear h
  generalize bs.length = n at *
  go_enter Tryd.func43, Tryd.ntmps43
  go_wp2_with fail
  refine (unhide HM).mono ?_
  rintro e w1 ⟨rfl, e0⟩
  have e0' := e0.symm
  clear e0
  subst e0'
  clear HM
  go_wp2_with fail
  refine (unhide HC 0).mono ?_
  rintro e w2 ⟨g, d, rfl, o2, f2⟩
  have O2 := hide o2
  have F2 := hide f2
  clear o2 f2 HC
  go_wp2
  go_ret
  exact ⟨_, rfl, unhide O2, unhide F2⟩

/-- Between the rounds of write. -/
structure WN (w : World) (B x y m : Nat) (bs : List UInt8) (zs : List Int) (i : Nat) (W : World) : Prop where
  sp : ∃ y' c', Sp 105 W B x y' c' (bs ++ (zs.take i).flatMap (bytesW m)) (bs ++ (zs.take i).flatMap (bytesW m)).length ∧ (y' = y ∨ w.heap.size ≤ y')
  bel : Below B w W
  oth : ∀ q, q < w.heap.size → q ≠ x → q ≠ y → W.heap[q]? = w.heap[q]?
theorem WN.start {w : World} {B x y d : Nat} {bs : List UInt8} (h : Sp 105 w B x y d bs bs.length) (m : Nat) (zs : List Int) : WN w B x y m bs zs 0 w :=
  ⟨⟨y, d, by simpa using h, .inl rfl⟩, Below.refl _ _, fun _ _ _ _ => rfl⟩
theorem WN.call {w W : World} {B x y m : Nat} {bs : List UInt8} {zs : List Int} {i : Nat} {z : Int} (h : WN w B x y m bs zs i W) (hm : m = 1 ∨ m = 2 ∨ m = 4 ∨ m = 8) (hz : zs[i]? = some z) (hzr : -9223372036854775808 ≤ z ∧ z ≤ 9223372036854775807) (hs : bs.length + 8 * zs.length ≤ 140737488351232) :
    Calls Tryd.prog 96 #[.pointer (some ⟨x, 0, none⟩), .int .i64 (m : Int), .int .i64 z] W fun e w' => e = .returned (.tuple #[]) ∧ WN w B x y m bs zs (i + 1) w' := by
  obtain ⟨y', c', hsp, hy⟩ := h.sp
  have hil : i < zs.length := (List.getElem?_eq_some_iff.1 hz).1
  have hfl := flat_len m (zs.take i)
  rw [List.length_take, Nat.min_eq_left (by omega), Int.toNat_natCast] at hfl
  have him : i * m ≤ 8 * i := by
    rw [Nat.mul_comm 8 i]
    exact Nat.mul_le_mul_left i (by omega)
  refine (dputN_any _ W B x y' c' _ m _ hsp (Nat.le_refl _) hm z hzr (by rw [List.length_append, hfl]; omega)).mono ?_
  rintro e w' ⟨rfl, r⟩
  obtain ⟨y2, c2, h2, h3, _⟩ := r.sp
  have hfull : (bytesW m z).take m = bytesW m z := List.take_of_length_le (by rw [bytesW_len, Int.toNat_natCast]; omega)
  rw [hfull, ovr_end] at h2
  have hnext : bs ++ (zs.take i).flatMap (bytesW m) ++ bytesW m z = bs ++ (zs.take (i + 1)).flatMap (bytesW m) := by
    rw [List.take_add_one, hz]
    simp
  have hlen : (bs ++ (zs.take i).flatMap (bytesW m)).length + m = (bs ++ (zs.take (i + 1)).flatMap (bytesW m)).length := by
    rw [← hnext, List.length_append (bs := bytesW m z), bytesW_len, Int.toNat_natCast]
  rw [hnext, hlen] at h2
  have hsz := h.bel.size
  refine ⟨rfl, ⟨y2, c2, h2, ?_⟩, h.bel.trans r.bel, fun q hq h5 h6 => ?_⟩
  · rcases h3 with e | e
    · rw [e]; exact hy
    · right
      omega
  · have hy2 : q ≠ y' := by
      rcases hy with e | e
      · rw [e]; exact h6
      · omega
    exact (r.oth q (by omega) h5 hy2).trans (h.oth q hq h5 h6)

/-- What the writer's U and S leave. -/
structure WEnd (w : World) (B x y : Nat) (bs : List UInt8) (W : World) : Prop where
  sp : ∃ y' c', Sp 105 W B x y' c' bs bs.length ∧ (y' = y ∨ w.heap.size ≤ y')
  bel : Below B w W
  oth : ∀ q, q < w.heap.size → q ≠ x → q ≠ y → W.heap[q]? = w.heap[q]?

set_option maxHeartbeats 3200000 in
theorem ewriteU_any (w : World) (B x y d : Nat) (bs : List UInt8) (k : Int) (a : Option Addr) (n c : Nat) (zs : List Int)
    (h : Sp 105 w B x y d bs bs.length) (hl : Nums w a n zs) (hfar : ∀ b o, a = some ⟨b, o, none⟩ → 0 < n → b ≠ x ∧ b ≠ y) (hz : ∀ z ∈ zs, -9223372036854775808 ≤ z ∧ z ≤ 9223372036854775807) (hs : bs.length + 8 * n ≤ 140737488351232) (hk : -9223372036854775808 ≤ k ∧ k ≤ 9223372036854775807) :
    Calls Tryd.prog 87 #[.pointer (some ⟨x, 0, none⟩), .func (.func 88) #[] #[], .int .i64 k, .slice a n c] w fun e w' => e = .returned (.int .i64 (putW bs k false zs).2) ∧ WEnd w B x y (putW bs k false zs).1 w' := by
  have HM := hide (emade_any w B x y d bs _ h)
  have HW := hide (disSize_any w k)
  have HK : Hid (WEnd w B x y bs w) := ⟨⟨y, d, h, .inl rfl⟩, Below.refl _ _, fun _ _ _ _ => rfl⟩
  by_cases hw : wide k
  · rw [decide_eq_true hw] at HW
    obtain ⟨m, rfl, hm⟩ := wide_nat hw
    have HF := hide (fun W z hz => dfitsU_any W (m : Int) z hw hz)
    have HS := hide (WN.start h m zs)
    have hzl := hl.1
    have HL := hide hl
    clear h hw hl
    go_enter Tryd.func87, Tryd.ntmps87
    go_wp2_with fail
    refine (unhide HM).mono ?_
    rintro e w1 ⟨rfl, e0⟩
    have e0' := e0.symm
    clear e0
    subst e0'
    go_wp2_with fail
    refine (unhide HW).mono ?_
    rintro e w1 ⟨rfl, e0⟩
    have e0' := e0.symm
    clear e0
    subst e0'
    clear HM HW
    go_wp2
    go_loopw [21] (fun q wr => ∃ i : Nat, i ≤ n ∧ q = .int .i64 i ∧ (∀ j z, j < i → zs[j]? = some z → fitsW m z false) ∧ wr = w) (fun q _ => n - (intOf q).toNat)
    case atStart => exact ⟨0, by omega, rfl, fun j z hj => by omega, rfl⟩
    case round =>
      obtain ⟨i, hi, rfl, hall, e0⟩ := hrel
      have e0' := e0.symm
      clear e0
      subst e0'
      by_cases hlt : i < n
      · have hlt1 : (i : Int) < (n : Int) := by omega
        obtain ⟨z, hzi⟩ : ∃ z, zs[i]? = some z := ⟨_, List.getElem?_eq_getElem (by omega)⟩
        obtain ⟨b, o, rfl, hcs⟩ := (unhide HL).2.resolve_left (by omega)
        have cz := hcs i z hzi
        have HF1 := hide (unhide HF w z (hz z (List.mem_of_getElem? hzi)))
        have hnb : (n : Int) ≤ 140737488351232 := by omega
        by_cases hfit : fitsW m z false
        · rw [decide_eq_true hfit] at HF1
          have HALL : Hid (∀ j z, j < i + 1 → zs[j]? = some z → fitsW m z false) := fun j z' hj hz' => by
            by_cases hji : j = i
            · subst hji
              rw [hzi] at hz'
              injection hz' with hz'
              subst hz'
              exact hfit
            · exact hall j z' (by omega) hz'
          clear hall hfit hcs HF HL HS HK hz
          go_wp2_with fail
          refine (unhide HF1).mono ?_
          rintro e w1 ⟨rfl, rfl⟩
          go_wp2
          go_roundw
          case rel => exact ⟨i + 1, by omega, by go_num, unhide HALL, by first | rfl | trivial⟩
          case measure => simp [intOf]; omega
        · rw [decide_eq_false hfit] at HF1
          have e1 : Hid (putW bs m false zs = (bs, 2)) := putW_no (fun h => hfit (h.2 z (List.mem_of_getElem? hzi)))
          clear hall hfit hcs HF HL HS hz
          go_wp2_with fail
          refine (unhide HF1).mono ?_
          rintro e w1 ⟨rfl, rfl⟩
          go_wp2
          go_ret
          rw [unhide e1]
          exact ⟨rfl, unhide HK⟩
      · obtain rfl : i = n := by omega
        have e1 : Hid (putW bs m false zs = (bs ++ zs.flatMap (bytesW m), 0)) := putW_ok (by rcases hm with rfl | rfl | rfl | rfl <;> (unfold wide; omega)) (fun z hz => by
          obtain ⟨j, hj⟩ := List.mem_iff_getElem?.1 hz
          exact hall j z (by have := (List.getElem?_eq_some_iff.1 hj).1; omega) hj)
        clear hall HF HK
        go_wp2
        go_loopw [33] (fun q W => ∃ j : Nat, j ≤ i ∧ q = .int .i64 j ∧ WN w B x y m bs zs j W) (fun q _ => i - (intOf q).toNat)
        case atStart => exact ⟨0, by omega, rfl, unhide HS⟩
        case round =>
          obtain ⟨j, hj, rfl, hN⟩ := hrel
          by_cases hlt2 : j < i
          · have hlt1 : (j : Int) < (i : Int) := by omega
            obtain ⟨z, hzi⟩ : ∃ z, zs[j]? = some z := ⟨_, List.getElem?_eq_getElem (by omega)⟩
            obtain ⟨b, o, rfl, hcs⟩ := (unhide HL).2.resolve_left (by omega)
            have cz0 := hcs j z hzi
            have hbf := hfar b o rfl (by omega)
            have cz := (World.cell?_of_block (a := ⟨b, o + j, none⟩) (hN.oth b (World.block_lt_of_cell? w _ cz0) hbf.1 hbf.2)).trans cz0
            have HC := hide (hN.call hm hzi (hz z (List.mem_of_getElem? hzi)) (by omega))
            have hnb : (i : Int) ≤ 140737488351232 := by omega
            clear hN hcs cz0 hbf HL HS hz hfar e1 hm
            go_wp2_with fail
            refine (unhide HC).mono ?_
            rintro e w1 ⟨rfl, hN1⟩
            have HN1 := hide hN1
            clear HC hN1 cz
            go_wp2
            go_roundw
            case rel => exact ⟨j + 1, by omega, by go_num, unhide HN1⟩
            case measure => simp [intOf]; omega
          · obtain rfl : j = i := by omega
            have ht : zs.take j = zs := List.take_of_length_le (by omega)
            have HN : Hid (WEnd w B x y (bs ++ zs.flatMap (bytesW m)) wr) := by
              obtain ⟨h1, h2, h3⟩ := hN
              rw [ht] at h1
              exact ⟨h1, h2, h3⟩
            clear hN HS HL hz hfar
            go_wp2
            go_ret
            rw [unhide e1]
            exact ⟨rfl, unhide HN⟩
  · rw [decide_eq_false hw] at HW
    have e1 : Hid (putW bs k false zs = (bs, 2)) := putW_no (fun h => hw h.1)
    clear h hw
    go_enter Tryd.func87, Tryd.ntmps87
    go_wp2_with fail
    refine (unhide HM).mono ?_
    rintro e w1 ⟨rfl, e0⟩
    have e0' := e0.symm
    clear e0
    subst e0'
    go_wp2_with fail
    refine (unhide HW).mono ?_
    rintro e w1 ⟨rfl, e0⟩
    have e0' := e0.symm
    clear e0
    subst e0'
    go_wp2
    go_ret
    rw [unhide e1]
    exact ⟨rfl, unhide HK⟩

end Go.Proofs.YtpmhcignenfhgaaDoor

/- The landed word: the writer's U, S, Patch (written by mk/mkword8.py); words. -/
namespace Go.Proofs.YtpmhcignenfhgaaDoor
open Go.RowKit
set_option linter.unusedVariables false

set_option maxHeartbeats 3200000 in
theorem ewriteS_any (w : World) (B x y d : Nat) (bs : List UInt8) (k : Int) (a : Option Addr) (n c : Nat) (zs : List Int)
    (h : Sp 105 w B x y d bs bs.length) (hl : Nums w a n zs) (hfar : ∀ b o, a = some ⟨b, o, none⟩ → 0 < n → b ≠ x ∧ b ≠ y) (hz : ∀ z ∈ zs, -9223372036854775808 ≤ z ∧ z ≤ 9223372036854775807) (hs : bs.length + 8 * n ≤ 140737488351232) (hk : -9223372036854775808 ≤ k ∧ k ≤ 9223372036854775807) :
    Calls Tryd.prog 87 #[.pointer (some ⟨x, 0, none⟩), .func (.func 89) #[] #[], .int .i64 k, .slice a n c] w fun e w' => e = .returned (.int .i64 (putW bs k true zs).2) ∧ WEnd w B x y (putW bs k true zs).1 w' := by
  have HM := hide (emade_any w B x y d bs _ h)
  have HW := hide (disSize_any w k)
  have HK : Hid (WEnd w B x y bs w) := ⟨⟨y, d, h, .inl rfl⟩, Below.refl _ _, fun _ _ _ _ => rfl⟩
  by_cases hw : wide k
  · rw [decide_eq_true hw] at HW
    obtain ⟨m, rfl, hm⟩ := wide_nat hw
    have HF := hide (fun W z hz => dfitsS_any W (m : Int) z hw hz)
    have HS := hide (WN.start h m zs)
    have hzl := hl.1
    have HL := hide hl
    clear h hw hl
    go_enter Tryd.func87, Tryd.ntmps87
    go_wp2_with fail
    refine (unhide HM).mono ?_
    rintro e w1 ⟨rfl, e0⟩
    have e0' := e0.symm
    clear e0
    subst e0'
    go_wp2_with fail
    refine (unhide HW).mono ?_
    rintro e w1 ⟨rfl, e0⟩
    have e0' := e0.symm
    clear e0
    subst e0'
    clear HM HW
    go_wp2
    go_loopw [21] (fun q wr => ∃ i : Nat, i ≤ n ∧ q = .int .i64 i ∧ (∀ j z, j < i → zs[j]? = some z → fitsW m z true) ∧ wr = w) (fun q _ => n - (intOf q).toNat)
    case atStart => exact ⟨0, by omega, rfl, fun j z hj => by omega, rfl⟩
    case round =>
      obtain ⟨i, hi, rfl, hall, e0⟩ := hrel
      have e0' := e0.symm
      clear e0
      subst e0'
      by_cases hlt : i < n
      · have hlt1 : (i : Int) < (n : Int) := by omega
        obtain ⟨z, hzi⟩ : ∃ z, zs[i]? = some z := ⟨_, List.getElem?_eq_getElem (by omega)⟩
        obtain ⟨b, o, rfl, hcs⟩ := (unhide HL).2.resolve_left (by omega)
        have cz := hcs i z hzi
        have HF1 := hide (unhide HF w z (hz z (List.mem_of_getElem? hzi)))
        have hnb : (n : Int) ≤ 140737488351232 := by omega
        by_cases hfit : fitsW m z true
        · rw [decide_eq_true hfit] at HF1
          have HALL : Hid (∀ j z, j < i + 1 → zs[j]? = some z → fitsW m z true) := fun j z' hj hz' => by
            by_cases hji : j = i
            · subst hji
              rw [hzi] at hz'
              injection hz' with hz'
              subst hz'
              exact hfit
            · exact hall j z' (by omega) hz'
          clear hall hfit hcs HF HL HS HK hz
          go_wp2_with fail
          refine (unhide HF1).mono ?_
          rintro e w1 ⟨rfl, rfl⟩
          go_wp2
          go_roundw
          case rel => exact ⟨i + 1, by omega, by go_num, unhide HALL, by first | rfl | trivial⟩
          case measure => simp [intOf]; omega
        · rw [decide_eq_false hfit] at HF1
          have e1 : Hid (putW bs m true zs = (bs, 2)) := putW_no (fun h => hfit (h.2 z (List.mem_of_getElem? hzi)))
          clear hall hfit hcs HF HL HS hz
          go_wp2_with fail
          refine (unhide HF1).mono ?_
          rintro e w1 ⟨rfl, rfl⟩
          go_wp2
          go_ret
          rw [unhide e1]
          exact ⟨rfl, unhide HK⟩
      · obtain rfl : i = n := by omega
        have e1 : Hid (putW bs m true zs = (bs ++ zs.flatMap (bytesW m), 0)) := putW_ok (by rcases hm with rfl | rfl | rfl | rfl <;> (unfold wide; omega)) (fun z hz => by
          obtain ⟨j, hj⟩ := List.mem_iff_getElem?.1 hz
          exact hall j z (by have := (List.getElem?_eq_some_iff.1 hj).1; omega) hj)
        clear hall HF HK
        go_wp2
        go_loopw [33] (fun q W => ∃ j : Nat, j ≤ i ∧ q = .int .i64 j ∧ WN w B x y m bs zs j W) (fun q _ => i - (intOf q).toNat)
        case atStart => exact ⟨0, by omega, rfl, unhide HS⟩
        case round =>
          obtain ⟨j, hj, rfl, hN⟩ := hrel
          by_cases hlt2 : j < i
          · have hlt1 : (j : Int) < (i : Int) := by omega
            obtain ⟨z, hzi⟩ : ∃ z, zs[j]? = some z := ⟨_, List.getElem?_eq_getElem (by omega)⟩
            obtain ⟨b, o, rfl, hcs⟩ := (unhide HL).2.resolve_left (by omega)
            have cz0 := hcs j z hzi
            have hbf := hfar b o rfl (by omega)
            have cz := (World.cell?_of_block (a := ⟨b, o + j, none⟩) (hN.oth b (World.block_lt_of_cell? w _ cz0) hbf.1 hbf.2)).trans cz0
            have HC := hide (hN.call hm hzi (hz z (List.mem_of_getElem? hzi)) (by omega))
            have hnb : (i : Int) ≤ 140737488351232 := by omega
            clear hN hcs cz0 hbf HL HS hz hfar e1 hm
            go_wp2_with fail
            refine (unhide HC).mono ?_
            rintro e w1 ⟨rfl, hN1⟩
            have HN1 := hide hN1
            clear HC hN1 cz
            go_wp2
            go_roundw
            case rel => exact ⟨j + 1, by omega, by go_num, unhide HN1⟩
            case measure => simp [intOf]; omega
          · obtain rfl : j = i := by omega
            have ht : zs.take j = zs := List.take_of_length_le (by omega)
            have HN : Hid (WEnd w B x y (bs ++ zs.flatMap (bytesW m)) wr) := by
              obtain ⟨h1, h2, h3⟩ := hN
              rw [ht] at h1
              exact ⟨h1, h2, h3⟩
            clear hN HS HL hz hfar
            go_wp2
            go_ret
            rw [unhide e1]
            exact ⟨rfl, unhide HN⟩
  · rw [decide_eq_false hw] at HW
    have e1 : Hid (putW bs k true zs = (bs, 2)) := putW_no (fun h => hw h.1)
    clear h hw
    go_enter Tryd.func87, Tryd.ntmps87
    go_wp2_with fail
    refine (unhide HM).mono ?_
    rintro e w1 ⟨rfl, e0⟩
    have e0' := e0.symm
    clear e0
    subst e0'
    go_wp2_with fail
    refine (unhide HW).mono ?_
    rintro e w1 ⟨rfl, e0⟩
    have e0' := e0.symm
    clear e0
    subst e0'
    go_wp2
    go_ret
    rw [unhide e1]
    exact ⟨rfl, unhide HK⟩

set_option maxHeartbeats 1600000 in
theorem eU_any (F : Nat → Prop) (w : World) (B x : Nat) (bs : List UInt8) (k : Int) (a : Option Addr) (n c : Nat) (zs : List Int) (h : WR F w B x bs) (hl : Nums w a n zs) (hfar : ∀ b o, a = some ⟨b, o, none⟩ → 0 < n → ¬ F b) (hz : ∀ z ∈ zs, -9223372036854775808 ≤ z ∧ z ≤ 9223372036854775807) (hs : bs.length + 8 * n ≤ 140737488351232) (hk : -9223372036854775808 ≤ k ∧ k ≤ 9223372036854775807) :
    Calls Tryd.prog 66 #[.pointer (some ⟨x, 0, none⟩), .int .i64 k, .slice a n c] w fun e w' => e = .returned (.int .i64 (putW bs k false zs).2) ∧ (∃ F', WR F' w' B x (putW bs k false zs).1 ∧ ∀ j, F' j → F j ∨ w.heap.size ≤ j) ∧ Fr6 F B w w' := by
  obtain ⟨y, d, rfl, h⟩ := h
  have H := hide (ewriteU_any w B x y d bs k a n c zs h hl (fun b o e hn => ⟨fun e1 => hfar b o e hn (.inl e1), fun e1 => hfar b o e hn (.inr e1)⟩) hz hs hk)
  clear h hl hfar hz
  go_enter Tryd.func66, Tryd.ntmps66
  go_wp2_with fail
  refine (unhide H).mono ?_
  rintro e w1 ⟨rfl, r⟩
  have R := hide r
  clear r H
  go_wp2
  go_ret
  obtain ⟨⟨y', c', h1, h2⟩, h3, h4⟩ := unhide R
  refine ⟨rfl, ⟨_, ⟨y', c', rfl, h1⟩, fun j hj => ?_⟩, h3, fun k hk hF => h4 k hk (fun e => hF (.inl e)) (fun e => hF (.inr e))⟩
  rcases hj with e | e
  · exact .inl (.inl e)
  · rcases h2 with e2 | e2
    · exact .inl (.inr (e.trans e2))
    · right
      omega

set_option maxHeartbeats 1600000 in
theorem eS_any (F : Nat → Prop) (w : World) (B x : Nat) (bs : List UInt8) (k : Int) (a : Option Addr) (n c : Nat) (zs : List Int) (h : WR F w B x bs) (hl : Nums w a n zs) (hfar : ∀ b o, a = some ⟨b, o, none⟩ → 0 < n → ¬ F b) (hz : ∀ z ∈ zs, -9223372036854775808 ≤ z ∧ z ≤ 9223372036854775807) (hs : bs.length + 8 * n ≤ 140737488351232) (hk : -9223372036854775808 ≤ k ∧ k ≤ 9223372036854775807) :
    Calls Tryd.prog 67 #[.pointer (some ⟨x, 0, none⟩), .int .i64 k, .slice a n c] w fun e w' => e = .returned (.int .i64 (putW bs k true zs).2) ∧ (∃ F', WR F' w' B x (putW bs k true zs).1 ∧ ∀ j, F' j → F j ∨ w.heap.size ≤ j) ∧ Fr6 F B w w' := by
  obtain ⟨y, d, rfl, h⟩ := h
  have H := hide (ewriteS_any w B x y d bs k a n c zs h hl (fun b o e hn => ⟨fun e1 => hfar b o e hn (.inl e1), fun e1 => hfar b o e hn (.inr e1)⟩) hz hs hk)
  clear h hl hfar hz
  go_enter Tryd.func67, Tryd.ntmps67
  go_wp2_with fail
  refine (unhide H).mono ?_
  rintro e w1 ⟨rfl, r⟩
  have R := hide r
  clear r H
  go_wp2
  go_ret
  obtain ⟨⟨y', c', h1, h2⟩, h3, h4⟩ := unhide R
  refine ⟨rfl, ⟨_, ⟨y', c', rfl, h1⟩, fun j hj => ?_⟩, h3, fun k hk hF => h4 k hk (fun e => hF (.inl e)) (fun e => hF (.inr e))⟩
  rcases hj with e | e
  · exact .inl (.inl e)
  · rcases h2 with e2 | e2
    · exact .inl (.inr (e.trans e2))
    · right
      omega

end Go.Proofs.YtpmhcignenfhgaaDoor
