/- The document's kind: One of an object's descriptor. -/
import Derived.Test.YtjhiflhmefhogaaKdF
namespace Go.Proofs.Ytjhiflhmefhogaa
open Go.RowKit
set_option linter.unusedVariables false
set_option maxRecDepth 100000

theorem oneP_L (t : List UInt8) (a : Nat) (ha : a ≤ 8) : oneP (76 :: t) a = if Lib.indexByte t 59 = -1 then (ty0, 0) else if clsB (t.take (Lib.indexByte t 59).toNat) = true then (⟨4, t.take (Lib.indexByte t 59).toNat⟩, (Lib.indexByte t 59).toNat + 2) else (ty0, 0) := by
  unfold oneP
  rw [if_neg (show ¬ 8 < a by omega), if_neg (by decide), if_neg (by decide), if_pos rfl]
/-- Where no ; was met. -/
theorem oneP_L0 (t : List UInt8) (a : Nat) (ha : a ≤ 8) (h : ∀ j : Nat, t[j]? ≠ some 59) : oneP (76 :: t) a = (ty0, 0) := by
  rw [oneP_L t a ha]
  by_cases h1 : Lib.indexByte t 59 = -1
  · rw [if_pos h1]
  · exact absurd (idx_lt t 59 h1).2.2 (h _)
theorem oneP_Lk (t : List UInt8) (a k : Nat) (ha : a ≤ 8) (h1 : t[k]? = some 59) (h : ∀ j : Nat, j < k → t[j]? ≠ some 59) : oneP (76 :: t) a = if clsB (t.take k) = true then (⟨4, t.take k⟩, k + 2) else (ty0, 0) := by
  rw [oneP_L t a ha, idx_is t 59 k h1 h, if_neg (by omega)]
  rfl
set_option maxHeartbeats 3200000 in
theorem one_L (t : List UInt8) (w : World) (S : ByteArray) (a : Nat) (hS : Str S (76 :: t)) (hs : (76 :: t).length ≤ 140737488355328) (ha : a ≤ 8) : Calls Try.prog 33 #[.string S, .int .i64 a] w fun e w' => e = .returned (.tuple #[tyV (oneP (76 :: t) a).1, .int .i64 (oneP (76 :: t) a).2]) ∧ Below w.heap.size w w' := by
  obtain ⟨n1, n2, n3, n4⟩ := hS.txt
  obtain ⟨hk, q0⟩ := hS.at 0 76 rfl
  have hz := hS.size
  have h8 : ¬ (8 : Int) < a := by omega
  have h8' : (a : Int) ≤ 8 := by omega
  have HG : Hid (∀ (k : Nat) c, (76 :: t)[k]? = some c → ∃ hk : k < S.size, S[k] = c) := fun k c h => hS.at k c h
  have HK : Hid (∀ (W : World) (k : Nat), 1 ≤ k → Calls Try.prog 15 #[.string (S.extract 1 k)] W fun e w' => e = .returned (.bool (clsB (t.take (k - 1)))) ∧ w' = W) := fun W k hk => by
    have := x10Class_any W _ _ (hS.sub 1 k) (by simp at hs ⊢; omega)
    rw [show ((76 :: t).drop 1).take (k - 1) = t.take (k - 1) by simp] at this
    exact this
  have HV : Hid (∀ k : Nat, (S.extract 1 k) = ⟨(t.take (k - 1)).toArray⟩) := fun k => by
    have := (hS.sub 1 k).eq
    rw [show ((76 :: t).drop 1).take (k - 1) = t.take (k - 1) by simp] at this
    exact this
  have HL0 := hide (oneP_L0 t a ha)
  have HLk := hide (fun k => oneP_Lk t a k ha)
  clear hS
  obtain ⟨n, hn⟩ : ∃ n, n = (76 :: t).length := ⟨_, rfl⟩
  rw [← hn] at hz hs
  have HN := hide hn
  generalize oneP (76 :: t) a = op at *
  obtain ⟨⟨tk, tn⟩, m⟩ := op
  unfold tyV
  simp only
  have hn1 : 1 ≤ n := by rw [hn]; simp
  clear hn
  go_enter Try.func33, Try.ntmps33
  go_wp2
  have HB : Hid (Bx2c (w.alloc (.cells #[.int .i64 0, .string ⟨#[]⟩] 23)) w.heap.size (.int .i64 0) (.string ⟨#[]⟩)) := Bx2c.made _ _ _
  have F0 : Hid (Below w.heap.size w (w.alloc (.cells #[.int .i64 0, .string ⟨#[]⟩] 23))) := bA (Below.refl _ _) _
  generalize w.alloc (.cells #[.int .i64 0, .string ⟨#[]⟩] 23) = w0 at *
  obtain ⟨k0, k1, k2⟩ := (unhide HB).cells
  go_loopw [6] (fun i wr => ∃ k : Nat, 1 ≤ k ∧ k ≤ n ∧ i = .int .i64 k ∧ wr = w0 ∧ Hid (∀ j : Nat, j + 1 < k → t[j]? ≠ some 59)) (fun i _ => n - (intOf i).toNat)
  case atStart => exact ⟨1, by omega, by omega, rfl, rfl, fun j h => by omega⟩
  case round =>
    obtain ⟨k, hk1, hkn, rfl, rfl, HR⟩ := hrel
    by_cases hlt : k < n
    · have hlt1 : (k : Int) < (n : Int) := by omega
      obtain ⟨c, hc⟩ : ∃ c, (76 :: t)[k]? = some c := ⟨_, List.getElem?_eq_getElem (by have := unhide HN; omega)⟩
      obtain ⟨hk2, q1⟩ := unhide HG k c hc
      obtain ⟨j, hj⟩ : ∃ j, k = j + 1 := ⟨k - 1, by omega⟩
      have HKK := hide hj
      have hcj : t[j]? = some c := by rw [hj] at hc; simpa using hc
      have HC := hide hcj
      clear hc hcj HG hj
      by_cases c59 : c = 59
      · subst c59
        have hl := unhide HLk j (unhide HC) (fun i hi => unhide HR i (by have := unhide HKK; omega))
        have HX := hide (unhide HK wr k (by omega))
        rw [show k - 1 = j by have := unhide HKK; omega] at HX
        have hv := unhide HV k
        rw [show k - 1 = j by have := unhide HKK; omega] at hv
        have g1 : (1 : Int) ≤ k := by omega
        have g2 : (k : Int) ≤ n := by omega
        have g3 : k ≤ n := by omega
        cases hb : clsB (t.take j)
        · rw [hb] at HX hl
          rw [if_neg (by decide)] at hl
          injection hl with e1 e2
          injection e1 with e3 e4
          subst e2 e3 e4
          clear hv HK HV HLk HL0 HC HR
          go_wp2_with (go_at_call 15; refine (unhide HX).mono ?_; rintro e w' ⟨rfl, hw⟩; rw [hw]; clear hw)
          exact bodyPost_ret (ty_ret2 Try.results33 _ w.heap.size _ _ (ty_set _ _ (unhide HB).row) _ rfl) rfl ⟨rfl, ty_bel _ _ (unhide F0) (Nat.le_refl _)⟩
        · rw [hb] at HX hl
          rw [if_pos rfl] at hl
          injection hl with e1 e2
          injection e1 with e3 e4
          subst e2 e3 e4
          have hv2 := hide hv
          have HM : Hid ((k : Int) + 1 = ((j + 2 : Nat) : Int)) := by have := unhide HKK; show (k : Int) + 1 = ((j + 2 : Nat) : Int); omega
          clear hv HK HV HLk HL0 HC HR
          go_wp2_with (go_at_call 15; refine (unhide HX).mono ?_; rintro e w' ⟨rfl, hw⟩; rw [hw]; clear hw)
          refine bodyPost_ret (ty_ret2 Try.results33 _ w.heap.size _ _ (ty_set _ _ (unhide HB).row) _ rfl) rfl ⟨?_, ty_bel _ _ (unhide F0) (Nat.le_refl _)⟩
          rw [unhide hv2, ← unhide HM]
          rfl
      · have d1 : ¬ (c.toNat : Int) = 59 := un73 (n := 59) c59 (by decide)
        have d2 : ((c.toNat : Int) == 59) = false := by simpa using d1
        have HR' : Hid (∀ i : Nat, i + 1 < k + 1 → t[i]? ≠ some 59) := fun i hi => by
          by_cases hij : i = j
          · subst hij; rw [unhide HC]; intro e; injection e with e; exact c59 e
          · exact unhide HR i (by have := unhide HKK; omega)
        clear HR HC c59
        go_wp2
        go_roundw
        case rel => exact ⟨k + 1, by omega, by omega, by go_num, (by first | rfl | trivial), HR'⟩
        case measure => simp [intOf]; omega
    · obtain rfl : k = n := by omega
      have hl := unhide HL0 (fun j hj => by
        by_cases hjl : j + 1 < k
        · exact unhide HR j hjl hj
        · have := (List.getElem?_eq_some_iff.1 hj).1
          have hN := unhide HN
          simp at hN
          omega)
      injection hl with e1 e2
      injection e1 with e3 e4
      subst e2 e3 e4
      clear HR HL0 HLk HK HV HG HN
      go_wp2
      exact bodyPost_ret (ty_ret2 Try.results33 _ w.heap.size _ _ (ty_set _ _ (unhide HB).row) _ rfl) rfl ⟨rfl, ty_bel _ _ (unhide F0) (Nat.le_refl _)⟩
end Go.Proofs.Ytjhiflhmefhogaa
