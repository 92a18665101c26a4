/- The landed word: fitsS, left, next, joined, withSign, spanOf. -/
import Derived.Test.YtkmcpedhcdgnoaaWdL1
namespace Go.Proofs.Ytkmcpedhcdgnoaa
open Go.RowKit
set_option linter.unusedVariables false

set_option maxHeartbeats 1600000 in
theorem dfitsS_any (w : World) (k n : Int) (hw : wide k) (hn : -9223372036854775808 ≤ n ∧ n ≤ 9223372036854775807) :
    Calls Try.prog 41 #[.int .i64 k, .int .i64 n] w fun e w' => e = .returned (.bool (decide (fitsW k n true))) ∧ w' = w := by
  rcases hw with rfl | rfl | rfl | rfl
  · have hk : fitsW 1 n true ↔ (n / 128 = 0 ∨ n / 128 = -1) := by
      unfold fitsW
      rw [if_neg (by decide), if_pos rfl]
      constructor
      · rintro ⟨_, h1, h2⟩
        simp at h1 h2
        omega
      · intro h
        refine ⟨by unfold wide; omega, ?_⟩
        simp
        omega
    rw [fitsS_key hk]
    clear hk
    by_cases h0 : n / 128 = 0
    · have b0 : (n / 128 == 0) = true := by simpa using h0
      clear h0
      go_enter Try.func41, Try.ntmps41
      go_wp2
      go_ret
      exact ⟨by rw [b0]; rfl, rfl⟩
    · have b0 : (n / 128 == 0) = false := by simpa using h0
      clear h0
      go_enter Try.func41, Try.ntmps41
      go_wp2
      go_ret
      exact ⟨by rw [b0]; rfl, rfl⟩
  · have hk : fitsW 2 n true ↔ (n / 32768 = 0 ∨ n / 32768 = -1) := by
      unfold fitsW
      rw [if_neg (by decide), if_pos rfl]
      constructor
      · rintro ⟨_, h1, h2⟩
        simp at h1 h2
        omega
      · intro h
        refine ⟨by unfold wide; omega, ?_⟩
        simp
        omega
    rw [fitsS_key hk]
    clear hk
    by_cases h0 : n / 32768 = 0
    · have b0 : (n / 32768 == 0) = true := by simpa using h0
      clear h0
      go_enter Try.func41, Try.ntmps41
      go_wp2
      go_ret
      exact ⟨by rw [b0]; rfl, rfl⟩
    · have b0 : (n / 32768 == 0) = false := by simpa using h0
      clear h0
      go_enter Try.func41, Try.ntmps41
      go_wp2
      go_ret
      exact ⟨by rw [b0]; rfl, rfl⟩
  · have hk : fitsW 4 n true ↔ (n / 2147483648 = 0 ∨ n / 2147483648 = -1) := by
      unfold fitsW
      rw [if_neg (by decide), if_pos rfl]
      constructor
      · rintro ⟨_, h1, h2⟩
        simp at h1 h2
        omega
      · intro h
        refine ⟨by unfold wide; omega, ?_⟩
        simp
        omega
    rw [fitsS_key hk]
    clear hk
    by_cases h0 : n / 2147483648 = 0
    · have b0 : (n / 2147483648 == 0) = true := by simpa using h0
      clear h0
      go_enter Try.func41, Try.ntmps41
      go_wp2
      go_ret
      exact ⟨by rw [b0]; rfl, rfl⟩
    · have b0 : (n / 2147483648 == 0) = false := by simpa using h0
      clear h0
      go_enter Try.func41, Try.ntmps41
      go_wp2
      go_ret
      exact ⟨by rw [b0]; rfl, rfl⟩
  · have hk : fitsW 8 n true ↔ (n / 9223372036854775808 = 0 ∨ n / 9223372036854775808 = -1) := by
      unfold fitsW
      rw [if_pos rfl]
      constructor
      · intro h
        omega
      · intro h
        exact ⟨by unfold wide; omega, .inl rfl⟩
    rw [fitsS_key hk]
    clear hk
    by_cases h0 : n / 9223372036854775808 = 0
    · have b0 : (n / 9223372036854775808 == 0) = true := by simpa using h0
      clear h0
      go_enter Try.func41, Try.ntmps41
      go_wp2
      go_ret
      exact ⟨by rw [b0]; rfl, rfl⟩
    · have b0 : (n / 9223372036854775808 == 0) = false := by simpa using h0
      clear h0
      go_enter Try.func41, Try.ntmps41
      go_wp2
      go_ret
      exact ⟨by rw [b0]; rfl, rfl⟩

theorem dleft_any (w : World) (x : Nat) (a : Option Addr) (n c i : Nat) (c0 : w.cell? ⟨x, 0, none⟩ = some (.slice a n c)) (c1 : w.cell? ⟨x, 1, none⟩ = some (.int .i64 (i : Int))) (hi : i ≤ n) (hn : n ≤ 140737488351232) :
    Calls Try.prog 36 #[.pointer (some ⟨x, 0, none⟩)] w fun e w' => e = .returned (.int .i64 ((n : Int) - i)) ∧ ∃ k, w' = w.drewN k := by
  have y1 : IntKind.i64.wrap ((n : Int) - i) = (n : Int) - i := by rw [IntKind.wrap_i64]; omega
  have l1 : (i : Int) ≤ n := by omega
  have l2 : (n : Int) ≤ 140737488351232 := by omega
  clear hi hn
  go_enter Try.func36, Try.ntmps36
  go_wp2_with fail
  go_quiet (fail)
  go_wp2
  go_ret
  exact ⟨rfl, _, rfl⟩

set_option maxHeartbeats 1600000 in
theorem dnext_any (w : World) (x : Nat) (a : Option Addr) (n c i m : Nat) (c0 : w.cell? ⟨x, 0, none⟩ = some (.slice a n c)) (c1 : w.cell? ⟨x, 1, none⟩ = some (.int .i64 (i : Int))) (hi : i + m ≤ n) (hn : n ≤ c) (hc : c ≤ 9223372036854775807) :
    Calls Try.prog 38 #[.pointer (some ⟨x, 0, none⟩), .int .i64 (m : Int)] w fun e w' => e = .returned (.slice (if c = i then a else Option.map (fun x => x.add i) a) m (c - i)) ∧ ∃ k, w' = w.drewN k := by
  obtain ⟨K, hK⟩ : ∃ K, K = i + m := ⟨_, rfl⟩
  have k1 : (i : Int) + (m : Int) = (K : Int) := by omega
  have k2 : (K : Int) ≤ (n : Int) := by omega
  have k3 : (K : Int) ≤ (c : Int) := by omega
  have k4 : (i : Int) ≤ (K : Int) := by omega
  have k5 : K - i = m := by omega
  have k7 : (c : Int) ≤ 9223372036854775807 := by omega
  have y2 : IntKind.i64.wrap (K : Int) = (K : Int) := by rw [IntKind.wrap_i64]; omega
  clear hK hi hn hc
  obtain ⟨AD, hAd⟩ : ∃ AD, (if c = i then a else Option.map (fun x => x.add i) a) = AD := ⟨_, rfl⟩
  rw [hAd]
  go_enter Try.func38, Try.ntmps38
  go_wp2_with fail
  go_quiet (fail)
  go_wp2
  go_ret
  exact ⟨by simp, _, rfl⟩

def sgn (m N : Nat) : Int := if 256 ^ m ≤ 2 * N then (N : Int) - ((256 ^ m : Nat) : Int) else (N : Int)
set_option maxHeartbeats 1600000 in
theorem dwithSign_any (w : World) (m N : Nat) (hm : m = 1 ∨ m = 2 ∨ m = 4 ∨ m = 8) (hN : N < 256 ^ m) :
    Calls Try.prog 34 #[.int .i64 (m : Int), .int .u64 (N : Int)] w fun e w' => e = .returned (.int .i64 (sgn m N)) ∧ w' = w := by
  rcases hm with rfl | rfl | rfl | rfl
  · have h1 : (N : Int) < 256 := by simp at hN; omega
    have y1 : IntKind.u64.wrap ((N : Int) * 72057594037927936) = (N : Int) * 72057594037927936 := by rw [IntKind.wrap_u64]; omega
    have y2 : wrap64 ((N : Int) * 72057594037927936) / 72057594037927936 = sgn 1 N := by
      unfold sgn wrap64
      split <;> (simp at *; omega)
    generalize sgn 1 N = R at *
    clear hN
    go_enter Try.func34, Try.ntmps34
    go_wp2
    go_ret
    exact ⟨by first | rfl | (rw [← y2]; rfl) | simp [y2], rfl⟩
  · have h1 : (N : Int) < 65536 := by simp at hN; omega
    have y1 : IntKind.u64.wrap ((N : Int) * 281474976710656) = (N : Int) * 281474976710656 := by rw [IntKind.wrap_u64]; omega
    have y2 : wrap64 ((N : Int) * 281474976710656) / 281474976710656 = sgn 2 N := by
      unfold sgn wrap64
      split <;> (simp at *; omega)
    generalize sgn 2 N = R at *
    clear hN
    go_enter Try.func34, Try.ntmps34
    go_wp2
    go_ret
    exact ⟨by first | rfl | (rw [← y2]; rfl) | simp [y2], rfl⟩
  · have h1 : (N : Int) < 4294967296 := by simp at hN; omega
    have y1 : IntKind.u64.wrap ((N : Int) * 4294967296) = (N : Int) * 4294967296 := by rw [IntKind.wrap_u64]; omega
    have y2 : wrap64 ((N : Int) * 4294967296) / 4294967296 = sgn 4 N := by
      unfold sgn wrap64
      split <;> (simp at *; omega)
    generalize sgn 4 N = R at *
    clear hN
    go_enter Try.func34, Try.ntmps34
    go_wp2
    go_ret
    exact ⟨by first | rfl | (rw [← y2]; rfl) | simp [y2], rfl⟩
  · have h1 : (N : Int) < 18446744073709551616 := by simp at hN; omega
    have y2 : wrap64 (N : Int) = sgn 8 N := by
      unfold sgn wrap64
      split <;> (simp at *; omega)
    generalize sgn 8 N = R at *
    clear hN
    go_enter Try.func34, Try.ntmps34
    go_wp2
    go_ret
    exact ⟨by first | rfl | (rw [← y2]; rfl) | simp [y2], rfl⟩

end Go.Proofs.Ytkmcpedhcdgnoaa
