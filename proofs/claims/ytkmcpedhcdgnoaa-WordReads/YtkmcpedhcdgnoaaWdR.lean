/- The document's own reading of numbers: wide, full, Number. -/
import Derived.Test.YtkmcpedhcdgnoaaWdA
import Derived.Test.YtkmcpedhcdgnoaaBsB
namespace Go.Proofs.Ytkmcpedhcdgnoaa
open Go.RowKit
set_option linter.unusedVariables false

set_option maxHeartbeats 1600000 in
theorem hwide_any (w : World) (k : Int) :
    Calls Try.prog 32 #[.int .i64 k] w fun e w' => e = .returned (.bool (decide (wide k))) ∧ w' = w := by
  by_cases h1 : k = 1
  · subst h1
    go_enter Try.func32, Try.ntmps32
    go_wp2
    go_ret
    exact ⟨rfl, rfl⟩
  by_cases h2 : k = 2
  · subst h2
    go_enter Try.func32, Try.ntmps32
    go_wp2
    go_ret
    exact ⟨rfl, rfl⟩
  by_cases h4 : k = 4
  · subst h4
    go_enter Try.func32, Try.ntmps32
    go_wp2
    go_ret
    exact ⟨rfl, rfl⟩
  by_cases h8 : k = 8
  · subst h8
    go_enter Try.func32, Try.ntmps32
    go_wp2
    go_ret
    exact ⟨rfl, rfl⟩
  · have b1 : (k == 1) = false := by simpa using h1
    have b2 : (k == 2) = false := by simpa using h2
    have b4 : (k == 4) = false := by simpa using h4
    have b8 : (k == 8) = false := by simpa using h8
    have hd : decide (wide k) = false := decide_eq_false (fun h => by rcases h with h | h | h | h <;> omega)
    rw [hd]
    clear hd
    go_enter Try.func32, Try.ntmps32
    go_wp2
    go_ret
    exact ⟨rfl, rfl⟩

theorem pow_small {i : Nat} (h : i ≤ 4) : 256 ^ i ≤ 4294967296 := by
  have := Nat.pow_le_pow_right (n := 256) (by omega) h
  omega
set_option maxHeartbeats 1600000 in
theorem hfull_any (w : World) (m : Nat) (hm : m ≤ 4) :
    Calls Try.prog 46 #[.int .i64 (m : Int)] w fun e w' => e = .returned (.int .i64 ((256 ^ m : Nat) : Int)) ∧ w' = w := by
  go_enter Try.func46, Try.ntmps46
  go_wp2
  go_loopw [3, 4] (fun n i wr => ∃ k : Nat, k ≤ m ∧ i = .int .i64 k ∧ n = .int .i64 ((256 ^ k : Nat) : Int) ∧ wr = w) (fun _ i _ => m - (intOf i).toNat)
  case atStart => exact ⟨0, by omega, rfl, rfl, rfl⟩
  case round =>
    obtain ⟨k, hk, rfl, rfl, rfl⟩ := hrel
    by_cases hlt : k < m
    · have hlt1 : (k : Int) < (m : Int) := by omega
      have hp := pow_small (i := k) (by omega)
      have hs : ((256 ^ (k + 1) : Nat) : Int) = ((256 ^ k : Nat) : Int) * 256 := by rw [Nat.pow_succ]; exact Int.natCast_mul _ _
      obtain ⟨P, hP⟩ : ∃ P, P = 256 ^ k := ⟨_, rfl⟩
      rw [← hP] at hp hs ⊢
      have hP1 : (P : Int) ≤ 4294967296 := by omega
      clear hP
      go_wp2
      go_roundw
      case rel => exact ⟨k + 1, by omega, by go_num, by (rw [hs]; try rfl; try go_num), by first | rfl | trivial⟩
      case measure => simp [intOf]; omega
    · obtain rfl : k = m := by omega
      go_wp2
      go_ret
      exact ⟨rfl, rfl⟩

theorem numB_take {l : List UInt8} {k : Nat} (hk : k < l.length) : numB (l.take (k + 1)) = numB (l.take k) * 256 + (l[k]).toNat := by
  rw [List.take_add_one, List.getElem?_eq_getElem hk]
  exact numB_snoc _ _
theorem numB_small {l : List UInt8} {k m : Nat} (hk : l.length ≤ k) : numB l < 256 ^ k := by
  have h1 := numB_lt l
  have h2 := Nat.pow_le_pow_right (n := 256) (by omega) hk
  omega
def valR (l : List UInt8) (sg : Bool) : Int × Int := match valW l sg with
  | none => (0, 3)
  | some n => (n, 0)
theorem half_pow {m : Nat} (h : m = 1 ∨ m = 2 ∨ m = 4) : ∃ H : Nat, 256 ^ m = 2 * H ∧ H ≤ 2147483648 := by
  rcases h with rfl | rfl | rfl
  · exact ⟨128, by decide, by omega⟩
  · exact ⟨32768, by decide, by omega⟩
  · exact ⟨2147483648, by decide, by omega⟩

set_option maxHeartbeats 3200000 in
set_option maxRecDepth 100000 in
theorem hNumber_any (w : World) (b o c : Nat) (l : List UInt8) (m : Nat) (hl : l.length = m) (hm : m = 1 ∨ m = 2 ∨ m = 4 ∨ m = 8) (sg : Bool) (h : BytesAt w (some ⟨b, o, none⟩) l) :
    Calls Try.prog 33 #[.slice (some ⟨b, o, none⟩) m c, .bool sg] w fun e w' => e = .returned (.tuple #[.int .i64 (valR l sg).1, .int .i64 (valR l sg).2]) ∧ w' = w := by
  have HB := hide h
  have hm8 : m ≤ 8 := by omega
  clear h
  go_enter Try.func33, Try.ntmps33
  go_wp2
  go_loopw [6, 7] (fun x i wr => ∃ k : Nat, k ≤ m ∧ i = .int .i64 k ∧ x = .int .u64 (numB (l.take k) : Int) ∧ wr = w) (fun _ i _ => m - (intOf i).toNat)
  case atStart => exact ⟨0, by omega, rfl, rfl, rfl⟩
  case round =>
    obtain ⟨k, hk, rfl, rfl, rfl⟩ := hrel
    by_cases hlt : k < m
    · have hlt1 : (k : Int) < (m : Int) := by omega
      have hkl : k < l.length := by omega
      have c0 := bytes_get (unhide HB) hkl
      have hs := numB_take hkl
      have hb := (l[k]).toNat_lt
      have h7 := numB_small (l := l.take (k + 1)) (k := 8) (m := 0) (by rw [List.length_take]; omega)
      obtain ⟨Q, hQQ⟩ : ∃ Q, Q = numB (l.take (k + 1)) := ⟨_, rfl⟩
      rw [← hQQ] at hs h7
      generalize numB (l.take k) = P at *
      generalize (l[k]).toNat = x at *
      have hQ : (Q : Int) = (P : Int) * 256 + (x : Int) := by omega
      have hQ2 : (Q : Int) ≤ 18446744073709551615 := by omega
      have hP2 : (P : Int) * 256 ≤ 18446744073709551615 := by omega
      have hx2 : (x : Int) ≤ 255 := by omega
      clear h7
      go_wp2
      go_roundw
      case rel => exact ⟨k + 1, by omega, by go_num, by (rw [← hQQ, hQ]; try rfl; try go_num), by first | rfl | trivial⟩
      case measure => simp [intOf]; omega
    · obtain rfl : k = m := by omega
      have ht : l.take k = l := List.take_of_length_le (by omega)
      rw [ht]
      have h7 := numB_small (l := l) (k := 8) (m := 0) (by omega)
      have hk4 := numB_lt l
      have hv : valR l sg = valR l sg := rfl
      have hle : l.length = k := by omega
      by_cases h8 : k = 8
      · have hk8 : ((k : Int) == 8) = true := by rw [h8]; rfl
        obtain ⟨N, hN⟩ : ∃ N : Int, N = if numB l < 9223372036854775808 then (numB l : Int) else (numB l : Int) - 18446744073709551616 := ⟨_, rfl⟩
        have hwr : IntKind.i64.wrap (numB l : Int) = N := by rw [IntKind.wrap_i64, hN]; split <;> omega
        have hlo : N < 0 ↔ ¬ numB l < 9223372036854775808 := by rw [hN]; split <;> omega
        cases sg with
        | true =>
          have e1 : valR l true = (N, 0) := by
            unfold valR valW
            rw [if_pos (by omega), if_pos rfl, ← hN]
          have E1 := hide e1
          clear e1 hlo hN hv h7 hk4 ht
          generalize numB l = X at *
          go_wp2
          go_ret2
          exact ⟨by rw [unhide E1]; rfl, rfl⟩
        | false =>
          by_cases hbig : numB l < 9223372036854775808
          · have e1 : valR l false = (N, 0) := by
              unfold valR valW
              rw [if_pos (by omega), if_neg (by decide), if_pos hbig]
              rw [if_pos hbig] at hN
              rw [hN]
            have hn : ¬ N < 0 := fun h => (hlo.1 h) hbig
            have E1 := hide e1
            clear e1 hlo hN hv h7 hk4 ht
            generalize numB l = X at *
            go_wp2
            go_ret2
            exact ⟨by rw [unhide E1]; rfl, rfl⟩
          · have e1 : valR l false = (0, 3) := by
              unfold valR valW
              rw [if_pos (by omega), if_neg (by decide), if_neg hbig]
            have hn : N < 0 := hlo.2 hbig
            have E1 := hide e1
            clear e1 hlo hN hv h7 hk4 ht
            generalize numB l = X at *
            go_wp2
            go_ret2
            exact ⟨by rw [unhide E1]; rfl, rfl⟩
      · have hk8 : ((k : Int) == 8) = false := by simp; omega
        obtain ⟨H, hH, hH2⟩ := half_pow (m := k) (by omega)
        rw [hle, hH] at hk4
        have hwr : IntKind.i64.wrap (numB l : Int) = (numB l : Int) := by rw [IntKind.wrap_i64]; omega
        have HF := hide (hfull_any wr k (by omega))
        rw [hH] at HF
        cases sg with
        | false =>
          have e1 : valR l false = ((numB l : Int), 0) := by
            unfold valR valW
            rw [if_neg (by omega), if_neg (by simp)]
          have E1 := hide e1
          clear e1 hv h7 ht HF
          generalize numB l = X at *
          go_wp2
          go_ret2
          exact ⟨by rw [unhide E1]; rfl, rfl⟩
        | true =>
          have q1 : (((2 * H : Nat) : Int)).tdiv 2 = (H : Int) := by
            have h2 : ((2 * H : Nat) : Int) = 2 * (H : Int) := by omega
            rw [h2, Int.mul_tdiv_cancel_left _ (by decide)]
          by_cases hbig : H ≤ numB l
          · have e1 : valR l true = ((numB l : Int) - ((2 * H : Nat) : Int), 0) := by
              unfold valR valW
              rw [if_neg (by omega), if_pos ⟨rfl, by rw [hle, hH]; omega⟩, hle, hH]
            have hb2 : (H : Int) ≤ (numB l : Int) := by omega
            have E1 := hide e1
            clear e1 hv h7 ht
            generalize numB l = X at *
            generalize hF2 : 2 * H = F2 at *
            go_wp2_with fail
            refine (unhide HF).mono ?_
            rintro e w1 ⟨rfl, rfl⟩
            go_wp2_with fail
            refine (unhide HF).mono ?_
            rintro e w2 ⟨rfl, rfl⟩
            go_wp2
            go_ret2
            exact ⟨by rw [unhide E1]; rfl, rfl⟩
          · have e1 : valR l true = ((numB l : Int), 0) := by
              unfold valR valW
              rw [if_neg (by omega), if_neg (by rw [hle, hH]; intro h; omega)]
            have hb2 : ¬ (H : Int) ≤ (numB l : Int) := by omega
            have E1 := hide e1
            clear e1 hv h7 ht
            generalize numB l = X at *
            generalize hF2 : 2 * H = F2 at *
            go_wp2_with fail
            refine (unhide HF).mono ?_
            rintro e w1 ⟨rfl, rfl⟩
            go_wp2
            go_ret2
            exact ⟨by rw [unhide E1]; rfl, rfl⟩

end Go.Proofs.Ytkmcpedhcdgnoaa
