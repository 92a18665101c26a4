/- What the walks of stage 6's laws ask of the program's reader and writer, whatever their inner functions and their memory are. -/
import Derived.Test.YtkmcpedhcdgnoaaWdB
namespace Go.Proofs.Ytkmcpedhcdgnoaa
open Go.RowKit
set_option linter.unusedVariables false

/-- Numbers in memory. -/
def Nums (w : World) (a : Option Addr) (n : Nat) (zs : List Int) : Prop := zs.length = n ∧ (n = 0 ∨ ∃ b o, a = some ⟨b, o, none⟩ ∧ ∀ (j : Nat) (z : Int), zs[j]? = some z → w.cell? ⟨b, o + j, none⟩ = some (.int .i64 z))
theorem Nums.below {w w' : World} {a : Option Addr} {n : Nat} {zs : List Int} (h : Nums w a n zs) (f : Below w.heap.size w w') : Nums w' a n zs := by
  rcases h with ⟨h1, h2 | ⟨b, o, e, h2⟩⟩
  · exact ⟨h1, .inl h2⟩
  · exact ⟨h1, .inr ⟨b, o, e, fun j z hz => by
      have h3 := h2 j z hz
      exact (f.cell (World.block_lt_of_cell? w _ h3)).trans h3⟩⟩
theorem Nums.lt {w : World} {a : Option Addr} {n : Nat} {zs : List Int} (h : Nums w a n zs) {b o : Nat} (e : a = some ⟨b, o, none⟩) (hn : 0 < n) : b < w.heap.size := by
  obtain ⟨b', o', e', hc⟩ := h.2.resolve_left (by omega)
  have hl := h.1
  rw [e] at e'
  injection e' with e'
  injection e' with e1 e2
  subst e1
  exact World.block_lt_of_cell? w _ (hc 0 _ (List.getElem?_eq_getElem (by omega)))
theorem nums_one (w : World) (z : Int) : Nums (w.alloc (.cells #[.int .i64 z] 3)) (some ⟨w.heap.size, 0, none⟩) 1 [z] := by
  refine ⟨rfl, .inr ⟨_, _, rfl, fun j y hy => ?_⟩⟩
  have h := heap_alloc_last w (.cells #[.int .i64 z] 3)
  match j with
  | 0 =>
    simp at hy
    subst hy
    rw [cell_of_row _ _ _ _ _ _ h]
    rfl
  | j + 1 => simp at hy
/-- What a step on a reader or a writer (its blocks: F) may turn. -/
structure Fr6 (F : Nat → Prop) (B : Nat) (w w' : World) : Prop where
  below : Below B w w'
  other : ∀ k, k < w.heap.size → ¬ F k → w'.heap[k]? = w.heap[k]?
theorem Fr6.of_below {F : Nat → Prop} {B : Nat} {w w' : World} (f : Below w.heap.size w w') (hB : B ≤ w.heap.size) : Fr6 F B w w' := ⟨f.mono hB, fun k hk _ => f.block k hk⟩

/-- The contracts of the program's words. RD F w B x bs i: at block x lies a reader of bs, at i, in the blocks F; WR: a writer that wrote bs. -/
structure Words (RD : (Nat → Prop) → World → Nat → Nat → List UInt8 → Nat → Prop) (WR : (Nat → Prop) → World → Nat → Nat → List UInt8 → Prop) : Prop where
  rkeep : ∀ {F : Nat → Prop} {w w' : World} {B x : Nat} {bs : List UInt8} {i : Nat}, RD F w B x bs i → (∀ k, F k → w'.heap[k]? = w.heap[k]?) → w.heap.size ≤ w'.heap.size → RD F w' B x bs i
  rlt : ∀ {F : Nat → Prop} {w : World} {B x : Nat} {bs : List UInt8} {i : Nat}, RD F w B x bs i → ∀ k, F k → B ≤ k ∧ k < w.heap.size
  rbase : ∀ {F : Nat → Prop} {w : World} {B B' x : Nat} {bs : List UInt8} {i : Nat}, RD F w B x bs i → B' ≤ B → RD F w B' x bs i
  wkeep : ∀ {F : Nat → Prop} {w w' : World} {B x : Nat} {bs : List UInt8}, WR F w B x bs → (∀ k, F k → w'.heap[k]? = w.heap[k]?) → w.heap.size ≤ w'.heap.size → WR F w' B x bs
  wlt : ∀ {F : Nat → Prop} {w : World} {B x : Nat} {bs : List UInt8}, WR F w B x bs → ∀ k, F k → B ≤ k ∧ k < w.heap.size
  wbase : ∀ {F : Nat → Prop} {w : World} {B B' x : Nat} {bs : List UInt8}, WR F w B x bs → B' ≤ B → WR F w B' x bs
  read : ∀ (w : World) (a : Option Addr) (n c : Nat) (bs : List UInt8), Arg w a n c bs → n ≤ 140737488351232 →
    Calls Try.prog 9 #[.slice a n c] w fun e w' => ∃ x F, e = .returned (.pointer (some ⟨x, 0, none⟩)) ∧ RD F w' w.heap.size x bs 0 ∧ Below w.heap.size w w'
  ru : ∀ (F : Nat → Prop) (w : World) (B x : Nat) (bs : List UInt8) (i : Nat) (k : Int), RD F w B x bs i → bs.length ≤ 140737488351232 → i ≤ bs.length → (-9223372036854775808 ≤ k ∧ k ≤ 9223372036854775807) →
    Calls Try.prog 11 #[.pointer (some ⟨x, 0, none⟩), .int .i64 k] w fun e w' => e = .returned (.tuple #[.int .i64 (getW bs i k false).1, .int .i64 (getW bs i k false).2.1]) ∧ (∃ F', RD F' w' B x bs (getW bs i k false).2.2 ∧ ∀ j, F' j → F j ∨ w.heap.size ≤ j) ∧ Fr6 F B w w'
  rs : ∀ (F : Nat → Prop) (w : World) (B x : Nat) (bs : List UInt8) (i : Nat) (k : Int), RD F w B x bs i → bs.length ≤ 140737488351232 → i ≤ bs.length → (-9223372036854775808 ≤ k ∧ k ≤ 9223372036854775807) →
    Calls Try.prog 13 #[.pointer (some ⟨x, 0, none⟩), .int .i64 k] w fun e w' => e = .returned (.tuple #[.int .i64 (getW bs i k true).1, .int .i64 (getW bs i k true).2.1]) ∧ (∃ F', RD F' w' B x bs (getW bs i k true).2.2 ∧ ∀ j, F' j → F j ∨ w.heap.size ≤ j) ∧ Fr6 F B w w'
  rbytes : ∀ (F : Nat → Prop) (w : World) (B x : Nat) (bs : List UInt8) (i : Nat) (n : Int), RD F w B x bs i → bs.length ≤ 140737488351232 → i ≤ bs.length → (-9223372036854775808 ≤ n ∧ n ≤ 9223372036854775807) →
    Calls Try.prog 14 #[.pointer (some ⟨x, 0, none⟩), .int .i64 n] w fun e w' => ∃ v, e = .returned (.tuple #[v, .int .i64 (takeW bs i n).2.1]) ∧ w'.ownsRow w.heap.size 5 1 v (takeW bs i n).1.length (bv (takeW bs i n).1) ∧ (∃ F', RD F' w' B x bs (takeW bs i n).2.2 ∧ (∀ j, F' j → F j ∨ w.heap.size ≤ j) ∧ ∀ j, v.ownBlock = some j → ¬ F' j) ∧ Fr6 F B w w'
  rat : ∀ (F : Nat → Prop) (w : World) (B x : Nat) (bs : List UInt8) (i : Nat), RD F w B x bs i → i ≤ bs.length → bs.length ≤ 140737488351232 →
    Calls Try.prog 17 #[.pointer (some ⟨x, 0, none⟩)] w fun e w' => e = .returned (.int .i64 (i : Int)) ∧ Below w.heap.size w w'
  rleft : ∀ (F : Nat → Prop) (w : World) (B x : Nat) (bs : List UInt8) (i : Nat), RD F w B x bs i → i ≤ bs.length → bs.length ≤ 140737488351232 →
    Calls Try.prog 18 #[.pointer (some ⟨x, 0, none⟩)] w fun e w' => e = .returned (.int .i64 ((bs.length : Int) - i)) ∧ Below w.heap.size w w'
  make : ∀ (w : World), Calls Try.prog 20 #[] w fun e w' => ∃ x F, e = .returned (.pointer (some ⟨x, 0, none⟩)) ∧ WR F w' w.heap.size x [] ∧ Below w.heap.size w w'
  wu : ∀ (F : Nat → Prop) (w : World) (B x : Nat) (bs : List UInt8) (k : Int) (a : Option Addr) (n c : Nat) (zs : List Int), WR F w B x bs → Nums w a n zs → (∀ b o, a = some ⟨b, o, none⟩ → 0 < n → ¬ F b) → (∀ z ∈ zs, -9223372036854775808 ≤ z ∧ z ≤ 9223372036854775807) → bs.length + 8 * n ≤ 140737488351232 → (-9223372036854775808 ≤ k ∧ k ≤ 9223372036854775807) →
    Calls Try.prog 21 #[.pointer (some ⟨x, 0, none⟩), .int .i64 k, .slice a n c] w fun e w' => e = .returned (.int .i64 (putW bs k false zs).2) ∧ (∃ F', WR F' w' B x (putW bs k false zs).1 ∧ ∀ j, F' j → F j ∨ w.heap.size ≤ j) ∧ Fr6 F B w w'
  ws : ∀ (F : Nat → Prop) (w : World) (B x : Nat) (bs : List UInt8) (k : Int) (a : Option Addr) (n c : Nat) (zs : List Int), WR F w B x bs → Nums w a n zs → (∀ b o, a = some ⟨b, o, none⟩ → 0 < n → ¬ F b) → (∀ z ∈ zs, -9223372036854775808 ≤ z ∧ z ≤ 9223372036854775807) → bs.length + 8 * n ≤ 140737488351232 → (-9223372036854775808 ≤ k ∧ k ≤ 9223372036854775807) →
    Calls Try.prog 24 #[.pointer (some ⟨x, 0, none⟩), .int .i64 k, .slice a n c] w fun e w' => e = .returned (.int .i64 (putW bs k true zs).2) ∧ (∃ F', WR F' w' B x (putW bs k true zs).1 ∧ ∀ j, F' j → F j ∨ w.heap.size ≤ j) ∧ Fr6 F B w w'
  wbytes : ∀ (F : Nat → Prop) (w : World) (B x : Nat) (bs : List UInt8) (a : Option Addr) (n c : Nat) (ys : List UInt8), WR F w B x bs → Arg w a n c ys → (∀ b o, a = some ⟨b, o, none⟩ → 0 < n → ¬ F b) → bs.length + n ≤ 140737488351232 →
    Calls Try.prog 25 #[.pointer (some ⟨x, 0, none⟩), .slice a n c] w fun e w' => e = .returned (.int .i64 0) ∧ (∃ F', WR F' w' B x (bs ++ ys) ∧ ∀ j, F' j → F j ∨ w.heap.size ≤ j) ∧ Fr6 F B w w'
  wpatch : ∀ (F : Nat → Prop) (w : World) (B x : Nat) (bs : List UInt8) (at_ k n : Int), WR F w B x bs → bs.length ≤ 140737488351232 → (-9223372036854775808 ≤ at_ ∧ at_ ≤ 9223372036854775807) → (-9223372036854775808 ≤ k ∧ k ≤ 9223372036854775807) → (-9223372036854775808 ≤ n ∧ n ≤ 9223372036854775807) →
    Calls Try.prog 26 #[.pointer (some ⟨x, 0, none⟩), .int .i64 at_, .int .i64 k, .int .i64 n] w fun e w' => e = .returned (.int .i64 (patchW bs at_ k n).2) ∧ (∃ F', WR F' w' B x (patchW bs at_ k n).1 ∧ ∀ j, F' j → F j ∨ w.heap.size ≤ j) ∧ Fr6 F B w w'
  wlen : ∀ (F : Nat → Prop) (w : World) (B x : Nat) (bs : List UInt8), WR F w B x bs → bs.length ≤ 140737488351232 →
    Calls Try.prog 28 #[.pointer (some ⟨x, 0, none⟩)] w fun e w' => e = .returned (.int .i64 (bs.length : Int)) ∧ Below w.heap.size w w'
  wall : ∀ (F : Nat → Prop) (w : World) (B x : Nat) (bs : List UInt8), WR F w B x bs → bs.length ≤ 140737488351232 →
    Calls Try.prog 29 #[.pointer (some ⟨x, 0, none⟩)] w fun e w' => ∃ v, e = .returned v ∧ w'.ownsRow w.heap.size 5 1 v bs.length (bv bs) ∧ Below w.heap.size w w'

section
variable {RD : (Nat → Prop) → World → Nat → Nat → List UInt8 → Nat → Prop} {WR : (Nat → Prop) → World → Nat → Nat → List UInt8 → Prop}
theorem Words.rbelow (S : Words RD WR) {F : Nat → Prop} {w w' : World} {B x : Nat} {bs : List UInt8} {i : Nat} (h : RD F w B x bs i) (f : Below w.heap.size w w') : RD F w' B x bs i := S.rkeep h (fun k hk => f.block k (S.rlt h k hk).2) f.size
theorem Words.wbelow (S : Words RD WR) {F : Nat → Prop} {w w' : World} {B x : Nat} {bs : List UInt8} (h : WR F w B x bs) (f : Below w.heap.size w w') : WR F w' B x bs := S.wkeep h (fun k hk => f.block k (S.wlt h k hk).2) f.size
theorem Arg.len {w : World} {a : Option Addr} {n c : Nat} {bs : List UInt8} (h : Arg w a n c bs) : bs.length = n := h.bs.1

theorem works6_any (S : Words RD WR) (w : World) :
    Calls Try.prog 19 #[] w fun e w' => e = .returned (.bool true) ∧ Below w.heap.size w w' := by
  have p1 : putW [] 2 false [258] = ([1, 2], 0) := by decide +kernel
  have p2 : putW [1, 2] 1 true [-1] = ([1, 2, 255], 0) := by decide +kernel
  have p3 : getW [1, 2, 255] 0 2 false = (258, 0, 2) := by decide +kernel
  have p4 : getW [1, 2, 255] 2 1 true = (-1, 0, 3) := by decide +kernel
  have P1 := hide p1
  have P2 := hide p2
  have P3 := hide p3
  have P4 := hide p4
  clear p1 p2 p3 p4
  go_enter Try.func19, Try.ntmps19
  go_wp2_with fail
  refine (S.make w).mono ?_
  rintro e w1 ⟨x, F, rfl, h1, f1⟩
  have b1 : Below w1.heap.size w1 (w1.alloc (.cells #[.int .i64 258] 3)) := (Below.refl _ _).alloc (Nat.le_refl _) _
  have HU := S.wu F _ w.heap.size x [] 2 _ 1 1 [258] (S.wbelow h1 b1) (nums_one w1 258) (fun b o e _ hF => by
    injection e with e
    injection e with e
    have := (S.wlt h1 b hF).2
    omega) (by intro z hz; simp at hz; omega) (by simp) (by decide)
  rw [unhide P1] at HU
  have HU := hide HU
  have F1 := hide (f1.trans (b1.mono f1.size))
  clear h1 f1 b1
  go_wp2_with fail
  refine (unhide HU).mono ?_
  rintro e w2 ⟨rfl, ⟨F2, h2, _⟩, f2⟩
  have f2' := (unhide F1).trans f2.below
  have b2 : Below w2.heap.size w2 (w2.alloc (.cells #[.int .i64 (-1)] 3)) := (Below.refl _ _).alloc (Nat.le_refl _) _
  have HS := S.ws F2 _ w.heap.size x [1, 2] 1 _ 1 1 [-1] (S.wbelow h2 b2) (nums_one w2 (-1)) (fun b o e _ hF => by
    injection e with e
    injection e with e
    have := (S.wlt h2 b hF).2
    omega) (by intro z hz; simp at hz; omega) (by simp) (by decide)
  rw [unhide P2] at HS
  have HS := hide HS
  have F2' := hide (f2'.trans (b2.mono f2'.size))
  clear h2 f2 f2' b2 HU F1
  go_wp2_with fail
  refine (unhide HS).mono ?_
  rintro e w3 ⟨rfl, ⟨F3, h3, _⟩, f3⟩
  have f3' := (unhide F2').trans f3.below
  have HA := hide (S.wall F3 w3 w.heap.size x [1, 2, 255] h3 (by simp))
  have F3' := hide f3'
  have W3 := hide h3
  clear h3 f3 f3' HS F2'
  go_wp2_with fail
  refine (unhide HA).mono ?_
  rintro e w4 ⟨v4, rfl, o4, f4⟩
  obtain ⟨a4, c4, rfl, _⟩ := own_form o4
  have HR := hide (S.read w4 a4 3 c4 [1, 2, 255] (arg_of_own rfl o4) (by omega))
  have F4 := hide ((unhide F3').trans (f4.mono (unhide F3').size))
  have W4 := hide (S.wbelow (unhide W3) f4)
  clear o4 f4 HA F3' W3
  go_wp2_with fail
  refine (unhide HR).mono ?_
  rintro e w5 ⟨y, G, rfl, h5, f5⟩
  have HG := S.ru G w5 _ y [1, 2, 255] 0 2 h5 (by simp) (by simp) (by decide)
  rw [unhide P3] at HG
  have HG := hide HG
  have F5 := hide ((unhide F4).trans (f5.mono (unhide F4).size))
  have W5 := hide (S.wbelow (unhide W4) f5)
  have hsz5 : w4.heap.size ≤ w5.heap.size := f5.size
  have AP : Hid (∀ k, G k → ¬ F3 k) := fun k hk h3 => by
    have h6 := (S.rlt h5 k hk).1
    have h7 := (S.wlt (unhide W4) k h3).2
    omega
  have hB4 : w.heap.size ≤ w4.heap.size := (unhide F4).size
  clear h5 f5 HR F4 W4
  go_wp2_with fail
  refine (unhide HG).mono ?_
  rintro e w6 ⟨rfl, ⟨G6, h6, hG6⟩, f6⟩
  have HH := S.rs G6 w6 _ y [1, 2, 255] 2 1 h6 (by simp) (by simp) (by decide)
  rw [unhide P4] at HH
  have HH := hide HH
  have W6 := hide (S.wkeep (unhide W5) (fun k hk => f6.other k (S.wlt (unhide W5) k hk).2 (fun hg => unhide AP k hg hk)) f6.below.size)
  have AP6 : Hid (∀ k, G6 k → ¬ F3 k) := fun k hk h3 => by
    rcases hG6 k hk with h | h
    · exact unhide AP k h h3
    · have := (S.wlt (unhide W5) k h3).2
      omega
  have F6 := hide ((unhide F5).trans (f6.below.mono hB4))
  clear h6 f6 hG6 HG F5 W5 AP
  go_wp2_with fail
  refine (unhide HH).mono ?_
  rintro e w7 ⟨rfl, ⟨G7, h7, _⟩, f7⟩
  have W7 := S.wkeep (unhide W6) (fun k hk => f7.other k (S.wlt (unhide W6) k hk).2 (fun hg => unhide AP6 k hg hk)) f7.below.size
  have HA7 := hide (S.wall F3 w7 w.heap.size x [1, 2, 255] W7 (by simp))
  have R7 := hide h7
  have F7 := hide ((unhide F6).trans (f7.below.mono hB4))
  clear h7 f7 HH W6 AP6 F6 W7
  go_wp2_with fail
  refine (unhide HA7).mono ?_
  rintro e w8 ⟨v8, rfl, o8, f8⟩
  have b9 : Below w8.heap.size w8 (w8.alloc (.cells (bv [1, 2, 255]).toArray 5)) := (Below.refl _ _).alloc (Nat.le_refl _) _
  obtain ⟨a8, c8, rfl, _⟩ := own_form o8
  have HS9 := hide (SameBytes_n (w8.alloc (.cells (bv [1, 2, 255]).toArray 5)) a8 (some ⟨w8.heap.size, 0, none⟩) [1, 2, 255] [1, 2, 255] 3 3 c8 3 ((own_bytes o8).below b9) (bytes_of_block (heap_alloc_last w8 _)) rfl rfl)
  have f9 := f8.trans (b9.mono f8.size)
  have HL := hide (S.rleft G7 _ w4.heap.size y [1, 2, 255] 3 (S.rbelow (unhide R7) f9) (by simp) (by simp))
  have HT : Hid (∀ W, Below w7.heap.size w7 W → Calls Try.prog 17 #[.pointer (some ⟨y, 0, none⟩)] W fun e w' => e = .returned (.int .i64 ((3 : Nat) : Int)) ∧ Below W.heap.size W w') := fun W f => S.rat G7 W w4.heap.size y [1, 2, 255] 3 (S.rbelow (unhide R7) f) (by simp) (by simp)
  have F9 := hide f9
  clear o8 f8 b9 f9 R7 HA7
  go_wp2_with fail
  refine (unhide HS9).mono ?_
  rintro e w9 ⟨rfl, rfl⟩
  go_wp2_with fail
  refine (unhide HL).mono ?_
  rintro e w10 ⟨rfl, f10⟩
  have f10' := (unhide F9).trans (f10.mono (unhide F9).size)
  have HT' := hide (unhide HT _ f10')
  have F10 := hide f10'
  clear f10 f10' HT HL HS9 F9
  go_wp2_with fail
  refine (unhide HT').mono ?_
  rintro e w11 ⟨rfl, f11⟩
  have F11 := hide ((unhide F7).trans (((unhide F10).trans (f11.mono (unhide F10).size)).mono (unhide F7).size))
  clear f11 HT' F10 F7
  go_wp2
  go_ret
  exact ⟨rfl, unhide F11⟩
end

end Go.Proofs.Ytkmcpedhcdgnoaa
