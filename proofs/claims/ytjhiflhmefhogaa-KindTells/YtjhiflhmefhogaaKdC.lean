/- The landed kind and the document's: Class. -/
import Derived.Test.YtjhiflhmefhogaaKdB
namespace Go.Proofs.Ytjhiflhmefhogaa
open Go.RowKit
set_option linter.unusedVariables false
set_option maxRecDepth 100000

/-- A text as the model has it, by name. -/
structure Str (S : ByteArray) (s : List UInt8) : Prop where
  eq : S = ⟨s.toArray⟩
theorem Str.size {S : ByteArray} {s : List UInt8} (h : Str S s) : S.size = s.length := by rw [h.eq]; rfl
theorem Str.at {S : ByteArray} {s : List UInt8} (h : Str S s) (k : Nat) (c : UInt8) (hc : s[k]? = some c) : ∃ hk : k < S.size, S[k] = c := by
  obtain ⟨rfl⟩ := h
  have hk := (List.getElem?_eq_some_iff.1 hc).1
  exact ⟨hk, by have := (List.getElem?_eq_some_iff.1 hc).2; rw [← this]; rfl⟩
theorem Str.data {S : ByteArray} {s : List UInt8} (h : Str S s) : S.data.toList = s := by rw [h.eq]
theorem Str.list {S : ByteArray} {s : List UInt8} (h : Str S s) : S.toList = s := by rw [h.eq]; simp
theorem Str.of (s : List UInt8) : ∃ S, Str S s := ⟨_, ⟨rfl⟩⟩
theorem Str.sub {S : ByteArray} {s : List UInt8} (h : Str S s) (a b : Nat) : Str (S.extract a b) ((s.drop a).take (b - a)) := by
  obtain ⟨rfl⟩ := h
  exact ⟨Lib.extract_eq _ _ _⟩
theorem clsB_at {s : List UInt8} : clsB s = true ↔ 0 < s.length ∧ s.length ≤ 60 ∧ (∀ c, s[0]? = some c → letB c = true) ∧ ∀ (k : Nat) (c : UInt8), s[k]? = some c → namB c = true := by
  cases s with
  | nil => simp [clsB]
  | cons d t =>
    simp only [clsB, Bool.and_eq_true, decide_eq_true_eq, List.all_eq_true, List.length_cons]
    constructor
    · rintro ⟨⟨h1, h2⟩, h3⟩
      refine ⟨by omega, by omega, fun c hc => by simp at hc; rw [← hc]; exact h2, fun k c hc => ?_⟩
      cases k with
      | zero => simp at hc; subst hc; simp [namB, h2]
      | succ k => exact h3 c (List.mem_of_getElem? (by simpa using hc))
    · rintro ⟨_, h1, h2, h3⟩
      refine ⟨⟨by omega, h2 d rfl⟩, fun x hx => ?_⟩
      obtain ⟨k, hk⟩ := List.getElem?_of_mem hx
      exact h3 (k + 1) x (by simpa using hk)
set_option maxHeartbeats 400000 in
theorem yClass_any (w : World) (S : ByteArray) (s : List UInt8) (hS : Str S s) (hs : s.length ≤ 140737488355328) : Calls Try.prog 14 #[.string S] w fun e w' => e = .returned (.bool (clsB s)) ∧ w' = w := by
  have HL : Hid (∀ c, Calls Try.prog 36 #[.int .u8 (UInt8.toNat c)] w fun e w' => e = .returned (.bool (letB c)) ∧ w' = w) := yletter_any w
  have HN : Hid (∀ c, Calls Try.prog 37 #[.int .u8 (UInt8.toNat c)] w fun e w' => e = .returned (.bool (namB c)) ∧ w' = w) := yinName_any w
  have hz := hS.size
  have HC := hide (@clsB_at s)
  have HS := hide hS
  clear hS
  by_cases h0 : s.length = 0
  · have hr : clsB s = false := by
      rw [Bool.eq_false_iff]; intro h; have := ((unhide HC).1 h).1; omega
    rw [hr]
    clear HC HS hr HL HN
    go_enter Try.func14, Try.ntmps14
    go_wp2
    go_ret
    exact ⟨rfl, rfl⟩
  obtain ⟨c0, hc0⟩ : ∃ c, s[0]? = some c := ⟨_, List.getElem?_eq_getElem (by omega)⟩
  obtain ⟨hk0, q0⟩ := (unhide HS).at 0 c0 hc0
  generalize hn : s.length = n at *
  by_cases h1 : 60 < n
  · have hr : clsB s = false := by
      rw [Bool.eq_false_iff]; intro h; have := ((unhide HC).1 h).2.1; omega
    rw [hr]
    have h1' : (60 : Int) < n := by omega
    have h0' : ((n : Int) == 0) = false := by simp; omega
    clear HC HS hr HL HN hn hc0
    go_enter Try.func14, Try.ntmps14
    go_wp2
    go_ret
    exact ⟨rfl, rfl⟩
  have h1' : ¬ (60 : Int) < n := by omega
  have h1'' : (n : Int) ≤ 60 := by omega
  have h0' : ((n : Int) == 0) = false := by simp; omega
  have HL0 := hide (unhide HL c0)
  cases hb : letB c0
  · have hr : clsB s = false := by
      rw [Bool.eq_false_iff]; intro h; have := ((unhide HC).1 h).2.2.1 c0 hc0; rw [hb] at this; cases this
    rw [hr]
    rw [hb] at HL0
    clear HC HS hr HN hn hc0 HL
    go_enter Try.func14, Try.ntmps14
    go_wp2_with (go_at_call 36; refine (unhide HL0).mono ?_; rintro e w' ⟨rfl, hw⟩; rw [hw]; clear hw)
    go_ret
    exact ⟨rfl, rfl⟩
  · rw [hb] at HL0
    clear HL
    have HG : Hid (∀ (k : Nat) c, s[k]? = some c → ∃ hk : k < S.size, S[k] = c) := fun k c h => (unhide HS).at k c h
    go_enter Try.func14, Try.ntmps14
    go_wp2_with (go_at_call 36; refine (unhide HL0).mono ?_; rintro e w' ⟨rfl, hw⟩; rw [hw]; clear hw)
    go_loopw [20] (fun i wr => ∃ k : Nat, k ≤ n ∧ i = .int .i64 k ∧ wr = w ∧ Hid (∀ (j : Nat) c, j < k → s[j]? = some c → namB c = true)) (fun i _ => n - (intOf i).toNat)
    case atStart => exact ⟨0, by omega, rfl, rfl, fun j c h => by omega⟩
    case round =>
      obtain ⟨k, hk, rfl, rfl, HR⟩ := hrel
      by_cases hlt : k < n
      · have hlt1 : (k : Int) < (n : Int) := by omega
        obtain ⟨c, hc⟩ : ∃ c, s[k]? = some c := ⟨_, List.getElem?_eq_getElem (by omega)⟩
        obtain ⟨hk1, q1⟩ := unhide HG k c hc
        have HN0 := hide (unhide HN c)
        have HHC := hide hc
        clear hc q0 HG
        cases hbc : namB c
        · rw [hbc] at HN0
          have hr : clsB s = false := by
            rw [Bool.eq_false_iff]; intro h; have := ((unhide HC).1 h).2.2.2 k c (unhide HHC); rw [hbc] at this; cases this
          go_wp2_with (go_at_call 37; refine (unhide HN0).mono ?_; rintro e w' ⟨rfl, hw⟩; rw [hw]; clear hw)
          go_ret
          exact ⟨by rw [hr]; rfl, rfl⟩
        · rw [hbc] at HN0
          go_wp2_with (go_at_call 37; refine (unhide HN0).mono ?_; rintro e w' ⟨rfl, hw⟩; rw [hw]; clear hw)
          go_roundw
          case rel =>
            refine ⟨k + 1, by omega, by go_num, (by first | rfl | trivial), fun j c' hj hc' => ?_⟩
            by_cases hjk : j = k
            · subst hjk
              rw [unhide HHC] at hc'
              injection hc' with hc'
              rw [← hc']
              exact hbc
            · exact unhide HR j c' (by omega) hc'
          case measure => simp [intOf]; omega
      · obtain rfl : k = n := by omega
        have hr : clsB s = true := (unhide HC).2 ⟨by omega, by omega, fun c hc => by rw [hc0] at hc; injection hc with hc; rw [← hc]; exact hb, fun j c hc => unhide HR j c (by have := (List.getElem?_eq_some_iff.1 hc).1; omega) hc⟩
        go_wp2
        go_ret
        exact ⟨by rw [hr]; rfl, rfl⟩
theorem namB_no {c : UInt8} (h : letB c = false) (hn : namB c = false) : ¬ (48 ≤ c.toNat ∧ c.toNat ≤ 57) ∧ c.toNat ≠ 95 ∧ c.toNat ≠ 36 ∧ c.toNat ≠ 47 := by
  unfold namB at hn
  rw [h] at hn
  simp at hn
  omega
theorem namB_yes {c : UInt8} (h : letB c = false) (hn : namB c = true) : (48 ≤ c.toNat ∧ c.toNat ≤ 57) ∨ c.toNat = 95 ∨ c.toNat = 36 ∨ c.toNat = 47 := by
  unfold namB at hn
  rw [h] at hn
  simpa using hn
theorem letB_namB {c : UInt8} (h : letB c = true) : namB c = true := by simp [namB, h]
set_option maxHeartbeats 4000000 in
theorem x10Class_any (w : World) (S : ByteArray) (s : List UInt8) (hS : Str S s) (hs : s.length ≤ 140737488355328) : Calls Try.prog 15 #[.string S] w fun e w' => e = .returned (.bool (clsB s)) ∧ w' = w := by
  have HL : Hid (∀ c, Calls Try.prog 38 #[.int .u8 (UInt8.toNat c)] w fun e w' => e = .returned (.bool (letB c)) ∧ w' = w) := x10letter_any w
  have hz := hS.size
  have HC := hide (@clsB_at s)
  have HG : Hid (∀ (k : Nat) c, s[k]? = some c → ∃ hk : k < S.size, S[k] = c) := fun k c h => hS.at k c h
  clear hS
  generalize hn : s.length = n at *
  go_enter Try.func15, Try.ntmps15
  go_wp2
  go_loopw [3] (fun i wr => ∃ k : Nat, k ≤ n ∧ i = .int .i64 k ∧ wr = w ∧ Hid (∀ (j : Nat) c, j < k → s[j]? = some c → namB c = true ∧ (j = 0 → letB c = true))) (fun i _ => n - (intOf i).toNat)
  case atStart => exact ⟨0, by omega, rfl, rfl, fun j c h => by omega⟩
  case round =>
    obtain ⟨k, hk, rfl, rfl, HR⟩ := hrel
    by_cases hlt : k < n
    · have hlt1 : (k : Int) < (n : Int) := by omega
      obtain ⟨c, hc⟩ : ∃ c, s[k]? = some c := ⟨_, List.getElem?_eq_getElem (by omega)⟩
      obtain ⟨hk1, q1⟩ := unhide HG k c hc
      have HL0 := hide (unhide HL c)
      have HHC := hide hc
      have HX : Hid (namB c = true ∧ (k = 0 → letB c = true) → ∀ (j : Nat) c, j < k + 1 → s[j]? = some c → namB c = true ∧ (j = 0 → letB c = true)) := fun h j c' hj hc' => by
        by_cases hjk : j = k
        · subst hjk
          rw [hc] at hc'
          injection hc' with hc'
          rw [← hc']
          exact h
        · exact unhide HR j c' (by omega) hc'
      clear hc HG
      cases hb : letB c
      · rw [hb] at HL0
        by_cases hk0 : k = 0
        · subst hk0
          have hr : clsB s = false := by
            rw [Bool.eq_false_iff]; intro h; have := ((unhide HC).1 h).2.2.1 c (unhide HHC); rw [hb] at this; cases this
          go_wp2_with (go_at_call 38; refine (unhide HL0).mono ?_; rintro e w' ⟨rfl, hw⟩; rw [hw]; clear hw)
          go_ret
          exact ⟨by rw [hr]; rfl, rfl⟩
        · have hk2 : ((k : Int) == 0) = false := by simp; omega
          have hk3 : ¬ (k : Int) = 0 := by omega
          cases hnb : namB c
          · have hr : clsB s = false := by
              rw [Bool.eq_false_iff]; intro h; have := ((unhide HC).1 h).2.2.2 k c (unhide HHC); rw [hnb] at this; cases this
            obtain ⟨g1, g2, g3, g4⟩ := namB_no hb hnb
            have g2' : ((c.toNat : Int) == 95) = false := by simp; omega
            have g3' : ((c.toNat : Int) == 36) = false := by simp; omega
            have g4' : ((c.toNat : Int) == 47) = false := by simp; omega
            have n2 : ((c.toNat : Int) != 95) = true := by simp; omega
            have n3 : ((c.toNat : Int) != 36) = true := by simp; omega
            have n4 : ((c.toNat : Int) != 47) = true := by simp; omega
            clear HX HR
            by_cases g5 : (c.toNat : Int) < 48
            · go_wp2_with (go_at_call 38; refine (unhide HL0).mono ?_; rintro e w' ⟨rfl, hw⟩; rw [hw]; clear hw)
              go_ret
              exact ⟨by rw [hr]; rfl, rfl⟩
            · have g6 : (57 : Int) < (c.toNat : Int) := by omega
              have g7 : (48 : Int) ≤ (c.toNat : Int) := by omega
              have g8 : ¬ (c.toNat : Int) ≤ 57 := by omega
              go_wp2_with (go_at_call 38; refine (unhide HL0).mono ?_; rintro e w' ⟨rfl, hw⟩; rw [hw]; clear hw)
              go_ret
              exact ⟨by rw [hr]; rfl, rfl⟩
          · have hX := hide (unhide HX ⟨hnb, fun h => absurd h hk0⟩)
            have hy := namB_yes hb hnb
            clear HX HR hnb HHC
            rcases hy with ⟨g1, g2⟩ | g | g | g
            · have g1' : ¬ (c.toNat : Int) < 48 := by omega
              have g2' : ¬ (57 : Int) < (c.toNat : Int) := by omega
              have g7 : (48 : Int) ≤ (c.toNat : Int) := by omega
              have g8 : (c.toNat : Int) ≤ 57 := by omega
              go_wp2_with (go_at_call 38; refine (unhide HL0).mono ?_; rintro e w' ⟨rfl, hw⟩; rw [hw]; clear hw)
              go_roundw
              case rel => exact ⟨k + 1, by omega, by go_num, (by first | rfl | trivial), hX⟩
              case measure => simp [intOf]; omega
            · obtain rfl : c = 95 := UInt8.toNat_inj.1 (by simpa using g)
              go_wp2_with (go_at_call 38; refine (unhide HL0).mono ?_; rintro e w' ⟨rfl, hw⟩; rw [hw]; clear hw)
              go_roundw
              case rel => exact ⟨k + 1, by omega, by go_num, (by first | rfl | trivial), hX⟩
              case measure => simp [intOf]; omega
            · obtain rfl : c = 36 := UInt8.toNat_inj.1 (by simpa using g)
              go_wp2_with (go_at_call 38; refine (unhide HL0).mono ?_; rintro e w' ⟨rfl, hw⟩; rw [hw]; clear hw)
              go_roundw
              case rel => exact ⟨k + 1, by omega, by go_num, (by first | rfl | trivial), hX⟩
              case measure => simp [intOf]; omega
            · obtain rfl : c = 47 := UInt8.toNat_inj.1 (by simpa using g)
              go_wp2_with (go_at_call 38; refine (unhide HL0).mono ?_; rintro e w' ⟨rfl, hw⟩; rw [hw]; clear hw)
              go_roundw
              case rel => exact ⟨k + 1, by omega, by go_num, (by first | rfl | trivial), hX⟩
              case measure => simp [intOf]; omega
      · rw [hb] at HL0
        have hX := hide (unhide HX ⟨letB_namB hb, fun _ => hb⟩)
        clear HX HR HHC
        go_wp2_with (go_at_call 38; refine (unhide HL0).mono ?_; rintro e w' ⟨rfl, hw⟩; rw [hw]; clear hw)
        go_roundw
        case rel => exact ⟨k + 1, by omega, by go_num, (by first | rfl | trivial), hX⟩
        case measure => simp [intOf]; omega
    · obtain rfl : k = n := by omega
      have hr : clsB s = decide (1 ≤ k ∧ k ≤ 60) := by
        rw [Bool.eq_iff_iff, unhide HC, decide_eq_true_eq]
        constructor
        · rintro ⟨h1, h2, _⟩; omega
        · rintro ⟨h1, h2⟩
          exact ⟨by omega, by omega, fun c hc => (unhide HR 0 c (by omega) hc).2 rfl, fun j c hc => (unhide HR j c (by have := (List.getElem?_eq_some_iff.1 hc).1; omega) hc).1⟩
      have HRR := hide hr
      clear hr HR HC HG HL
      go_wp2
      all_goals
        go_ret
        refine ⟨?_, rfl⟩
        rw [unhide HRR]
        refine ret_iff ?_
        simp
        omega
end Go.Proofs.Ytjhiflhmefhogaa
