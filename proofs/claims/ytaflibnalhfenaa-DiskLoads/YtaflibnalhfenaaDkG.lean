/- The contract of Store. -/
import Derived.Test.YtaflibnalhfenaaDkF
namespace Go.Proofs.Ytaflibnalhfenaa
open Go.RowKit
set_option linter.unusedVariables false

set_option maxRecDepth 100000 in
set_option maxHeartbeats 400000 in
theorem Store_out (w : World) (B p g : Nat) (vs : Nat → Value) (D : Dk) (h : IsDisk w B p g vs D) (at_ : Int) (a : Option Addr) (m c : Nat) (hat : ¬ (0 ≤ at_ ∧ at_ < D.secs.length)) :
    Calls Try.prog 16 #[.pointer (some ⟨p, 0, none⟩), .int .i64 at_, .slice a m c] w fun e w' => e = .returned (.int .i64 2) ∧ w' = w := by
  have hd : decide (0 ≤ at_ ∧ at_ < (D.secs.length : Int)) = false := by simpa using hat
  go_enter Try.func16, Try.ntmps16
  go_wp2_with fail
  refine (made_any w B p g vs D h).mono ?_
  rintro e w' ⟨rfl, rfl⟩
  go_wp2_with fail
  refine (has_at p _ _ _ _ at_ h.cells.1).mono ?_
  rintro e w' ⟨rfl, rfl⟩
  go_wp2
  go_ret
  exact ⟨rfl, rfl⟩

set_option maxRecDepth 100000 in
set_option maxHeartbeats 400000 in
theorem Store_len (w : World) (B p g : Nat) (vs : Nat → Value) (D : Dk) (h : IsDisk w B p g vs D) (at_ : Int) (a : Option Addr) (m c : Nat) (hat : 0 ≤ at_ ∧ at_ < D.secs.length) (hm : m ≠ 256) :
    Calls Try.prog 16 #[.pointer (some ⟨p, 0, none⟩), .int .i64 at_, .slice a m c] w fun e w' => e = .returned (.int .i64 2) ∧ w' = w := by
  have hd : decide (0 ≤ at_ ∧ at_ < (D.secs.length : Int)) = true := by simpa using hat
  have hm' : ((m : Int) != 256) = true := by rw [bne_iff_ne]; omega
  go_enter Try.func16, Try.ntmps16
  go_wp2_with fail
  refine (made_any w B p g vs D h).mono ?_
  rintro e w' ⟨rfl, rfl⟩
  go_wp2_with fail
  refine (has_at p _ _ _ _ at_ h.cells.1).mono ?_
  rintro e w' ⟨rfl, rfl⟩
  go_wp2
  go_ret
  exact ⟨rfl, rfl⟩

set_option maxRecDepth 100000 in
set_option maxHeartbeats 400000 in
theorem Store_dark (w : World) (B p g : Nat) (vs : Nat → Value) (D : Dk) (h : IsDisk w B p g vs D) (at_ : Int) (a : Option Addr) (c : Nat) (hat : 0 ≤ at_ ∧ at_ < D.secs.length) (hc : D.can = false) :
    Calls Try.prog 16 #[.pointer (some ⟨p, 0, none⟩), .int .i64 at_, .slice a 256 c] w fun e w' => e = .returned (.int .i64 10) ∧ IsDisk w' B p g vs D.moved ∧ Fr B w w' := by
  have hd : decide (0 ≤ at_ ∧ at_ < (D.secs.length : Int)) = true := by simpa using hat
  go_enter Try.func16, Try.ntmps16
  go_wp2_with fail
  refine (made_any w B p g vs D h).mono ?_
  rintro e w' ⟨rfl, rfl⟩
  go_wp2_with fail
  refine (has_at p _ _ _ _ at_ h.cells.1).mono ?_
  rintro e w' ⟨rfl, rfl⟩
  go_wp2_with fail
  refine (move_any _ B p g vs D h).mono ?_
  rw [hc]
  rintro e w' ⟨rfl, h1, h2, _⟩
  go_wp2
  go_ret
  exact ⟨rfl, h1, h2⟩

set_option maxHeartbeats 400000 in
set_option maxRecDepth 100000 in
theorem Store_ok (w : World) (B p g : Nat) (vs : Nat → Value) (D : Dk) (h : IsDisk w B p g vs D) (i : Nat) (s : Sec) (hi : D.secs[i]? = some s) (ad : Addr) (c : Nat) (hc : D.can = true) (hn : s.wait.length ≤ 1000000)
    (x : List UInt8) (hx : x.length = 256) (hsrc : ∀ j u, (bv x)[j]? = some u → w.cell? (ad.add j) = some u) (hap : ad.block ≠ p) :
    Calls Try.prog 16 #[.pointer (some ⟨p, 0, none⟩), .int .i64 i, .slice (some ad) 256 c] w fun e w' => e = .returned (.int .i64 0) ∧ (∃ vs', IsDisk w' B p g vs' (D.moved.put i (s.add x))) ∧ Fr B w w' := by
  have hil := (List.getElem?_eq_some_iff.1 hi).1
  have hd : decide (0 ≤ (i : Int) ∧ (i : Int) < (D.secs.length : Int)) = true := by simp; omega
  have hmost := h.most
  go_enter Try.func16, Try.ntmps16
  go_wp2_with fail
  refine (made_any w B p g vs D h).mono ?_
  rintro e w' ⟨rfl, rfl⟩
  go_wp2_with fail
  refine (has_at p _ _ _ _ i h.cells.1).mono ?_
  rintro e w' ⟨rfl, rfl⟩
  go_wp2_with fail
  refine (move_any _ B p g vs D h).mono ?_
  rw [hc]
  rintro e w1 ⟨rfl, h1, f1, ho⟩
  have hi1 : D.moved.secs[i]? = some s := by rw [Dk.moved_secs]; exact hi
  have c0 := h1.cells.1
  rw [Dk.moved_secs] at c0
  have hs1 := h1.sec i s hi1
  obtain ⟨cur, hcur, hcs⟩ := h1.row
  have ng : some g ≠ (vs i).ownBlock := fun e => (h1.kinds.2 i g (by rw [Dk.moved_secs]; exact hil) e.symm).2 rfl
  have hsrc1 : ∀ j u, (bv x)[j]? = some u → w1.cell? (ad.add j) = some u := fun j u hu => by
    have hb : (ad.add j).block = ad.block := by unfold Addr.add; split <;> rfl
    rw [World.cell?_of_block (w := w') (ho _ (by rw [hb]; exact hap))]
    exact hsrc j u hu
  have hadd := add_at g (i * 257) B w1 (vs i) s.wait.length (s.wait.flatMap bv) hs1.cell (frozen_of_row _ _ _ _ _ hcur) ng hs1.own h1.bw hn ad c (bv x) (by rw [bv_length]; exact hx) (bv_one _) hsrc1
  have H := fun q cap w3 hown hg hw => h1.added i s hi1 x hx q cap (w1 := w3) hown hg hw
  have HH := hide hadd
  have H2 := hide H
  clear hadd H hsrc1 ng hcs hcur hs1 hi1 ho hsrc hx hap hi
  go_wp2_with fail
  refine (unhide HH).mono ?_
  rintro e w2 ⟨rfl, q, cap, w3, hown, hg, hw, rfl⟩
  obtain ⟨r1, r2⟩ := (unhide H2) q cap w3 hown hg hw
  go_wp2
  go_ret
  exact ⟨rfl, ⟨_, r1⟩, f1.trans r2⟩

end Go.Proofs.Ytaflibnalhfenaa
