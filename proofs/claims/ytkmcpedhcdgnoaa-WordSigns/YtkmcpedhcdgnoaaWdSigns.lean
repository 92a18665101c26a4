/- The walk of WordSigns. -/
import Derived.Test.YtkmcpedhcdgnoaaWdQ
namespace Go.Proofs.Ytkmcpedhcdgnoaa
open Go.RowKit
set_option linter.unusedVariables false

theorem signs_get (bs : List UInt8) (m : Nat) (hm : m = 1 ∨ m = 2 ∨ m = 4) (hl : m ≤ bs.length) : ∃ X : Nat, X < 256 ^ m ∧ getW bs 0 (m : Int) false = ((X : Int), 0, m) ∧ getW bs 0 (m : Int) true = ((if 256 ^ m ≤ 2 * X then (X : Int) - ((256 ^ m : Nat) : Int) else (X : Int)), 0, m) := by
  have hll : ((bs.drop 0).take m).length = m := by rw [List.length_take, List.length_drop]; omega
  have hw : wide (m : Int) := by unfold wide; omega
  have hX := numB_lt ((bs.drop 0).take m)
  rw [hll] at hX
  refine ⟨numB ((bs.drop 0).take m), hX, ?_, ?_⟩
  · unfold getW
    rw [if_pos hw, if_neg (by omega), Int.toNat_natCast]
    unfold valW
    rw [hll, if_neg (by omega), if_neg (by simp), Nat.zero_add]
  · unfold getW
    rw [if_pos hw, if_neg (by omega), Int.toNat_natCast]
    unfold valW
    rw [hll, if_neg (by omega), Nat.zero_add]
    by_cases h : 256 ^ m ≤ 2 * numB ((bs.drop 0).take m)
    · rw [if_pos ⟨rfl, h⟩, if_pos h]
    · rw [if_neg (fun h' => h h'.2), if_neg h]

theorem signs_vals (bs : List UInt8) (k P : Int) (hk : (k = 1 ∧ P = 256) ∨ (k = 2 ∧ P = 65536) ∨ (k = 4 ∧ P = 4294967296)) (hl : k ≤ bs.length) : ∃ X V : Int, getW bs 0 k false = (X, 0, k.toNat) ∧ getW bs 0 k true = (V, 0, k.toNat) ∧ 0 ≤ X ∧ X < P ∧ ((V = X ∧ 2 * X < P) ∨ (V = X - P ∧ P ≤ 2 * X)) := by
  have key : ∀ m : Nat, (m = 1 ∨ m = 2 ∨ m = 4) → (m : Int) ≤ bs.length → ((256 ^ m : Nat) : Int) = P → k = m → ∃ X V : Int, getW bs 0 k false = (X, 0, k.toNat) ∧ getW bs 0 k true = (V, 0, k.toNat) ∧ 0 ≤ X ∧ X < P ∧ ((V = X ∧ 2 * X < P) ∨ (V = X - P ∧ P ≤ 2 * X)) := by
    intro m hm hl hP hkm
    subst hkm
    obtain ⟨X, hX, g1, g2⟩ := signs_get bs m hm (by omega)
    rw [Int.toNat_natCast]
    refine ⟨X, _, g1, g2, by omega, by omega, ?_⟩
    by_cases h : 256 ^ m ≤ 2 * X
    · rw [if_pos h]
      exact .inr ⟨by omega, by omega⟩
    · rw [if_neg h]
      exact .inl ⟨rfl, by omega⟩
  rcases hk with ⟨rfl, rfl⟩ | ⟨rfl, rfl⟩ | ⟨rfl, rfl⟩
  · exact key 1 (by simp) hl rfl rfl
  · exact key 2 (by simp) hl rfl rfl
  · exact key 4 (by simp) hl rfl rfl

section
variable {RD : (Nat → Prop) → World → Nat → Nat → List UInt8 → Nat → Prop} {WR : (Nat → Prop) → World → Nat → Nat → List UInt8 → Prop}
theorem signs_calls (S : Words RD WR) (w W : World) (f : Below w.heap.size w W) (a : Option Addr) (n c : Nat) (bs : List UInt8) (hb : Arg w a n c bs) (hn : n ≤ 140737488351232) (k : Int) (hk : -9223372036854775808 ≤ k ∧ k ≤ 9223372036854775807) :
    Calls Try.prog 9 #[.slice a n c] W fun e w1 => ∃ x, e = .returned (.pointer (some ⟨x, 0, none⟩)) ∧ Calls Try.prog 11 #[.pointer (some ⟨x, 0, none⟩), .int .i64 k] w1 fun e w2 => e = .returned (.tuple #[.int .i64 (getW bs 0 k false).1, .int .i64 (getW bs 0 k false).2.1]) ∧
      Calls Try.prog 9 #[.slice a n c] w2 fun e w3 => ∃ x, e = .returned (.pointer (some ⟨x, 0, none⟩)) ∧ Calls Try.prog 13 #[.pointer (some ⟨x, 0, none⟩), .int .i64 k] w3 fun e w4 => e = .returned (.tuple #[.int .i64 (getW bs 0 k true).1, .int .i64 (getW bs 0 k true).2.1]) ∧ Below w.heap.size w w4 := by
  have hlen := hb.len
  refine (S.read W a n c bs (hb.below f) hn).mono ?_
  rintro e w1 ⟨x, F, rfl, h1, f1⟩
  refine ⟨x, rfl, ?_⟩
  refine (S.ru F w1 _ x bs 0 k h1 (by omega) (by omega) hk).mono ?_
  rintro e w2 ⟨rfl, _, f2⟩
  refine ⟨rfl, ?_⟩
  have g1 := f.trans (f1.mono f.size)
  have g2 : Below w.heap.size w w2 := g1.trans (f2.below.mono f.size)
  refine (S.read w2 a n c bs (hb.below g2) hn).mono ?_
  rintro e w3 ⟨y, G, rfl, h3, f3⟩
  refine ⟨y, rfl, ?_⟩
  refine (S.rs G w3 _ y bs 0 k h3 (by omega) (by omega) hk).mono ?_
  rintro e w4 ⟨rfl, _, f4⟩
  have g3 := g2.trans (f3.mono g2.size)
  exact ⟨rfl, g3.trans (f4.below.mono g2.size)⟩

set_option maxHeartbeats 3200000 in
set_option maxRecDepth 100000 in
theorem signs_walk (S : Words RD WR) (w : World) (a : Option Addr) (n c : Nat) (bs : List UInt8) (hb : Arg w a n c bs) (hn : n ≤ 140737488351232) (kk : Int) :
    Calls Try.prog 6 #[.slice a n c, .int .i64 kk] w fun e w' => e = .returned (.bool true) ∧ Below w.heap.size w w' := by
  have hlen := hb.len
  have HB := hide hb
  have H0 := hide (works6_any S w)
  clear hb
  go_enter Try.func6, Try.ntmps6
  go_wp2_with fail
  refine (unhide H0).mono ?_
  rintro e w1 ⟨rfl, f1⟩
  have hal := among_lt kk 3 (by omega)
  have hT := heap_alloc_last w1 (.cells #[.int .i64 1, .int .i64 2, .int .i64 4] 3)
  have b2 : Below w1.heap.size w1 (w1.alloc (.cells #[.int .i64 1, .int .i64 2, .int .i64 4] 3)) := (Below.refl _ _).alloc (Nat.le_refl _) _
  have F2 := hide (f1.trans (b2.mono f1.size))
  have HAM : Hid (∀ W, Calls Try.prog 10 #[.int .i64 kk, .int .i64 3] W fun e w' => e = .returned (.int .i64 (among kk 3)) ∧ w' = W) := fun W => Among_any W kk 3 (by omega) (by omega)
  have t0 : (w1.alloc (.cells #[.int .i64 1, .int .i64 2, .int .i64 4] 3)).cell? ⟨w1.heap.size, 0, none⟩ = some (.int .i64 1) := by rw [cell_of_row _ _ _ _ _ _ hT]; rfl
  have t1 : (w1.alloc (.cells #[.int .i64 1, .int .i64 2, .int .i64 4] 3)).cell? ⟨w1.heap.size, 1, none⟩ = some (.int .i64 2) := by rw [cell_of_row _ _ _ _ _ _ hT]; rfl
  have t2 : (w1.alloc (.cells #[.int .i64 1, .int .i64 2, .int .i64 4] 3)).cell? ⟨w1.heap.size, 2, none⟩ = some (.int .i64 4) := by rw [cell_of_row _ _ _ _ _ _ hT]; rfl
  clear H0 f1 b2 hT
  go_wp2_with fail
  refine (unhide HAM _).mono ?_
  rintro e w2 ⟨rfl, rfl⟩
  clear HAM
  generalize among kk 3 = d at *
  obtain ⟨k, P, hdk, hk⟩ : ∃ k P : Int, ((d = 0 ∧ k = 1) ∨ (d = 1 ∧ k = 2) ∨ (d = 2 ∧ k = 4)) ∧ ((k = 1 ∧ P = 256) ∨ (k = 2 ∧ P = 65536) ∨ (k = 4 ∧ P = 4294967296)) := by
    match d, hal with
    | 0, _ => exact ⟨1, 256, by simp, by simp⟩
    | 1, _ => exact ⟨2, 65536, by simp, by simp⟩
    | 2, _ => exact ⟨4, 4294967296, by simp, by simp⟩
  have hkb : -9223372036854775808 ≤ k ∧ k ≤ 9223372036854775807 := by omega
  by_cases hlm : k ≤ (n : Int)
  · obtain ⟨X, V, g1, g2, x0, x1, hV⟩ := signs_vals bs k P hk (by omega)
    have HC := signs_calls S w _ (unhide F2) a n c bs (unhide HB) hn k hkb
    rw [g1, g2] at HC
    have HC := hide HC
    clear g1 g2 F2 HB hkb
    generalize w1.alloc (.cells #[.int .i64 1, .int .i64 2, .int .i64 4] 3) = wa at *
    rcases hk with ⟨rfl, rfl⟩ | ⟨rfl, rfl⟩ | ⟨rfl, rfl⟩
    · obtain rfl : d = 0 := by omega
      rcases hV with ⟨rfl, hV⟩ | ⟨hV1, hV⟩
      · have hlt : ¬ (n : Int) < 1 := by omega
        have q1 : V < 256 := by omega
        have q2 : V < 128 := by omega
        clear hV hlm
        go_wp2_with fail
        refine (unhide HC).mono ?_
        rintro e w3 ⟨x3, rfl, h3⟩
        have H3 := hide h3
        clear HC h3
        go_wp2_with fail
        refine (unhide H3).mono ?_
        rintro e w4 ⟨rfl, h4⟩
        have H4 := hide h4
        clear H3 h4
        go_wp2_with fail
        refine (unhide H4).mono ?_
        rintro e w5 ⟨x5, rfl, h5⟩
        have H5 := hide h5
        clear H4 h5
        go_wp2_with fail
        refine (unhide H5).mono ?_
        rintro e w6 ⟨rfl, f6⟩
        have F6 := hide f6
        clear H5 f6
        go_wp2
        go_ret
        exact ⟨rfl, unhide F6⟩
      · have hlt : ¬ (n : Int) < 1 := by omega
        have q1 : X < 256 := by omega
        have q2 : ¬ X < 128 := by omega
        have q3 : 128 ≤ X := by omega
        have q4 : X - V = 256 := by omega
        have q5 : (X == V) = false := by simp; omega
        have q6 : ¬ X = V := by omega
        have q7 : -256 ≤ V := by omega
        have q8 : V < 0 := by omega
        clear hV1
        clear hV hlm
        go_wp2_with fail
        refine (unhide HC).mono ?_
        rintro e w3 ⟨x3, rfl, h3⟩
        have H3 := hide h3
        clear HC h3
        go_wp2_with fail
        refine (unhide H3).mono ?_
        rintro e w4 ⟨rfl, h4⟩
        have H4 := hide h4
        clear H3 h4
        go_wp2_with fail
        refine (unhide H4).mono ?_
        rintro e w5 ⟨x5, rfl, h5⟩
        have H5 := hide h5
        clear H4 h5
        go_wp2_with fail
        refine (unhide H5).mono ?_
        rintro e w6 ⟨rfl, f6⟩
        have F6 := hide f6
        clear H5 f6
        go_wp2
        go_ret
        exact ⟨rfl, unhide F6⟩
    · obtain rfl : d = 1 := by omega
      rcases hV with ⟨rfl, hV⟩ | ⟨hV1, hV⟩
      · have hlt : ¬ (n : Int) < 2 := by omega
        have q1 : V < 65536 := by omega
        have q2 : V < 32768 := by omega
        clear hV hlm
        go_wp2_with fail
        refine (unhide HC).mono ?_
        rintro e w3 ⟨x3, rfl, h3⟩
        have H3 := hide h3
        clear HC h3
        go_wp2_with fail
        refine (unhide H3).mono ?_
        rintro e w4 ⟨rfl, h4⟩
        have H4 := hide h4
        clear H3 h4
        go_wp2_with fail
        refine (unhide H4).mono ?_
        rintro e w5 ⟨x5, rfl, h5⟩
        have H5 := hide h5
        clear H4 h5
        go_wp2_with fail
        refine (unhide H5).mono ?_
        rintro e w6 ⟨rfl, f6⟩
        have F6 := hide f6
        clear H5 f6
        go_wp2
        go_ret
        exact ⟨rfl, unhide F6⟩
      · have hlt : ¬ (n : Int) < 2 := by omega
        have q1 : X < 65536 := by omega
        have q2 : ¬ X < 32768 := by omega
        have q3 : 32768 ≤ X := by omega
        have q4 : X - V = 65536 := by omega
        have q5 : (X == V) = false := by simp; omega
        have q6 : ¬ X = V := by omega
        have q7 : -65536 ≤ V := by omega
        have q8 : V < 0 := by omega
        clear hV1
        clear hV hlm
        go_wp2_with fail
        refine (unhide HC).mono ?_
        rintro e w3 ⟨x3, rfl, h3⟩
        have H3 := hide h3
        clear HC h3
        go_wp2_with fail
        refine (unhide H3).mono ?_
        rintro e w4 ⟨rfl, h4⟩
        have H4 := hide h4
        clear H3 h4
        go_wp2_with fail
        refine (unhide H4).mono ?_
        rintro e w5 ⟨x5, rfl, h5⟩
        have H5 := hide h5
        clear H4 h5
        go_wp2_with fail
        refine (unhide H5).mono ?_
        rintro e w6 ⟨rfl, f6⟩
        have F6 := hide f6
        clear H5 f6
        go_wp2
        go_ret
        exact ⟨rfl, unhide F6⟩
    · obtain rfl : d = 2 := by omega
      rcases hV with ⟨rfl, hV⟩ | ⟨hV1, hV⟩
      · have hlt : ¬ (n : Int) < 4 := by omega
        have q1 : V < 4294967296 := by omega
        have q2 : V < 2147483648 := by omega
        clear hV hlm
        go_wp2_with fail
        refine (unhide HC).mono ?_
        rintro e w3 ⟨x3, rfl, h3⟩
        have H3 := hide h3
        clear HC h3
        go_wp2_with fail
        refine (unhide H3).mono ?_
        rintro e w4 ⟨rfl, h4⟩
        have H4 := hide h4
        clear H3 h4
        go_wp2_with fail
        refine (unhide H4).mono ?_
        rintro e w5 ⟨x5, rfl, h5⟩
        have H5 := hide h5
        clear H4 h5
        go_wp2_with fail
        refine (unhide H5).mono ?_
        rintro e w6 ⟨rfl, f6⟩
        have F6 := hide f6
        clear H5 f6
        go_wp2
        go_ret
        exact ⟨rfl, unhide F6⟩
      · have hlt : ¬ (n : Int) < 4 := by omega
        have q1 : X < 4294967296 := by omega
        have q2 : ¬ X < 2147483648 := by omega
        have q3 : 2147483648 ≤ X := by omega
        have q4 : X - V = 4294967296 := by omega
        have q5 : (X == V) = false := by simp; omega
        have q6 : ¬ X = V := by omega
        have q7 : -4294967296 ≤ V := by omega
        have q8 : V < 0 := by omega
        clear hV1
        clear hV hlm
        go_wp2_with fail
        refine (unhide HC).mono ?_
        rintro e w3 ⟨x3, rfl, h3⟩
        have H3 := hide h3
        clear HC h3
        go_wp2_with fail
        refine (unhide H3).mono ?_
        rintro e w4 ⟨rfl, h4⟩
        have H4 := hide h4
        clear H3 h4
        go_wp2_with fail
        refine (unhide H4).mono ?_
        rintro e w5 ⟨x5, rfl, h5⟩
        have H5 := hide h5
        clear H4 h5
        go_wp2_with fail
        refine (unhide H5).mono ?_
        rintro e w6 ⟨rfl, f6⟩
        have F6 := hide f6
        clear H5 f6
        go_wp2
        go_ret
        exact ⟨rfl, unhide F6⟩
  · have hlm' : (n : Int) < k := by omega
    clear HB
    rcases hk with ⟨rfl, rfl⟩ | ⟨rfl, rfl⟩ | ⟨rfl, rfl⟩
    · obtain rfl : d = 0 := by omega
      go_wp2
      go_ret
      exact ⟨rfl, unhide F2⟩
    · obtain rfl : d = 1 := by omega
      go_wp2
      go_ret
      exact ⟨rfl, unhide F2⟩
    · obtain rfl : d = 2 := by omega
      go_wp2
      go_ret
      exact ⟨rfl, unhide F2⟩
end

end Go.Proofs.Ytkmcpedhcdgnoaa
