/- The landed kind: array, innerSize, size, typeOf. -/
import Derived.Test.YtjhiflhmefhogaaKdC
namespace Go.Proofs.Ytjhiflhmefhogaa
open Go.RowKit
set_option linter.unusedVariables false
set_option maxRecDepth 100000

def arrB (s : List UInt8) : Bool := decide (s[0]? = some 91)
theorem pre_one (s : List UInt8) (c : UInt8) : Lib.hasPrefix s [c] = decide (s[0]? = some c) := by
  cases s with
  | nil => rfl
  | cons d t =>
    rw [Bool.eq_iff_iff]
    simp [Lib.hasPrefix]
    exact ⟨fun h => h.symm, fun h => h.symm⟩
set_option maxHeartbeats 400000 in
theorem yarray_any (w : World) (S : ByteArray) (s : List UInt8) (hS : Str S s) : Calls Try.prog 41 #[.string S] w fun e w' => e = .returned (.bool (arrB s)) ∧ w' = w := by
  have HL := hide (strHasP_any w S ⟨#[91]⟩)
  rw [hS.data] at HL
  unfold arrB
  rw [← pre_one]
  show Calls _ _ _ _ fun e w' => e = .returned (.bool (Lib.hasPrefix s (⟨#[91]⟩ : ByteArray).data.toList)) ∧ w' = w
  generalize Lib.hasPrefix s (⟨#[91]⟩ : ByteArray).data.toList = b at *
  clear hS
  go_enter Try.func41, Try.ntmps41
  go_wp2_with (go_at_call 47; refine (unhide HL).mono ?_; rintro e w' ⟨rfl, hw⟩; rw [hw]; clear hw)
  go_ret
  exact ⟨rfl, rfl⟩
set_option maxHeartbeats 400000 in
theorem x10array_any (w : World) (S : ByteArray) (s : List UInt8) (hS : Str S s) : Calls Try.prog 40 #[.string S] w fun e w' => e = .returned (.bool (arrB s)) ∧ w' = w := by
  have h2 := hS.list
  have hz := hS.size
  unfold arrB
  cases s with
  | nil =>
    have e : S = ⟨#[]⟩ := hS.eq
    subst e
    clear hS h2 hz
    go_enter Try.func40, Try.ntmps40
    go_wp2
    go_ret
    exact ⟨rfl, rfl⟩
  | cons c t =>
    obtain ⟨hk, q0⟩ := hS.at 0 c rfl
    have h3 : (S.toList == []) = false := by rw [h2]; rfl
    have h4 : ¬ S.toList = [] := by rw [h2]; simp
    have HR : Hid (decide ((c :: t)[0]? = some 91) = decide (c.toNat = 91)) := by
      show _ = _
      congr 1
      simp
      exact UInt8.toNat_inj.symm
    have hl : 0 < S.size := hk
    clear hS h2 hz
    go_enter Try.func40, Try.ntmps40
    go_wp2
    all_goals
      go_ret
      refine ⟨?_, rfl⟩
      rw [unhide HR]
      refine ret_iff ?_
      simp
      try omega
theorem idx_L (t : List UInt8) : Lib.indexByte (76 :: t) 59 = if Lib.indexByte t 59 = -1 then -1 else Lib.indexByte t 59 + 1 := by
  show (if (76 : UInt8) == 59 then (0 : Int) else if Lib.indexByte t 59 == -1 then -1 else Lib.indexByte t 59 + 1) = _
  rw [if_neg (by decide)]
  simp
set_option maxHeartbeats 1600000 in
theorem yinner_any (w : World) (S : ByteArray) (s : List UInt8) (hS : Str S s) (hs : s.length ≤ 140737488355328) (b : Bool) : Calls Try.prog 45 #[.string S, .bool b] w fun e w' => e = .returned (.int .i64 (innN s b)) ∧ w' = w := by
  have h2 := hS.list
  have hz := hS.size
  cases s with
  | nil =>
    have e : S = ⟨#[]⟩ := hS.eq
    subst e
    clear hS h2 hz
    go_enter Try.func45, Try.ntmps45
    go_wp2
    go_ret
    exact ⟨rfl, rfl⟩
  | cons c t =>
    obtain ⟨hk, q0⟩ := hS.at 0 c rfl
    have h3 : (S.toList == []) = false := by rw [h2]; rfl
    have h4 : ¬ S.toList = [] := by rw [h2]; simp
    have h5 : S.toList.isEmpty = false := by rw [h2]; rfl
    have hl : 0 < S.size := hk
    have HS := hide hS
    have HZ := hide hz
    clear hS h2 hz
    by_cases c1 : c = 73
    · subst c1
      have hr : innN (73 :: t) b = 1 := by simp [innN]
      rw [hr]
      go_enter Try.func45, Try.ntmps45
      go_wp2
      go_ret
      exact ⟨rfl, rfl⟩
    by_cases c2 : c = 74
    · subst c2
      have hr : innN (74 :: t) b = 1 := by simp [innN]
      rw [hr]
      go_enter Try.func45, Try.ntmps45
      go_wp2
      go_ret
      exact ⟨rfl, rfl⟩
    by_cases c3 : c = 66
    · subst c3
      cases b
      all_goals
        go_enter Try.func45, Try.ntmps45
        go_wp2
        go_ret
        exact ⟨rfl, rfl⟩
    by_cases c4 : c = 76
    · subst c4
      have HI := hide (strIdx_any w S 59)
      rw [(unhide HS).data, show ((59 : Int).toNat.toUInt8) = 59 from rfl, idx_L] at HI
      have HP := hide (idx_lt t 59)
      have hr : innN (76 :: t) b = (if Lib.indexByte t 59 = -1 then 0 else if clsB (t.take (Lib.indexByte t 59).toNat) = true then (Lib.indexByte t 59).toNat + 2 else 0) := by simp [innN]
      rw [hr]
      clear hr
      by_cases hx : Lib.indexByte t 59 = -1
      · rw [if_pos hx] at HI ⊢
        go_enter Try.func45, Try.ntmps45
        go_wp2_with (go_at_call 52; refine (unhide HI).mono ?_; rintro e w' ⟨rfl, hw⟩; rw [hw]; clear hw)
        go_ret
        exact ⟨rfl, rfl⟩
      · rw [if_neg hx] at HI ⊢
        obtain ⟨g1, g2, _⟩ := unhide HP hx
        have HC := hide (yClass_any w _ _ ((unhide HS).sub 1 ((Lib.indexByte t 59).toNat + 1)) (by have := unhide HZ; simp at hs ⊢; omega))
        rw [show ((76 :: t).drop 1).take ((Lib.indexByte t 59).toNat + 1 - 1) = t.take (Lib.indexByte t 59).toNat by simp] at HC
        have hz := unhide HZ
        simp only [List.length_cons] at hz hs
        have hj : Lib.indexByte t 59 = ((Lib.indexByte t 59).toNat : Int) := by omega
        rw [hj] at HI
        generalize (Lib.indexByte t 59).toNat = j at *
        generalize clsB (t.take j) = bb at *
        generalize hj1 : j + 1 = J at *
        have hj2 : (j : Int) + 1 = J := by omega
        rw [hj2] at HI
        have hJ1 : 1 ≤ J := by omega
        have hJ2 : J ≤ S.size := by omega
        have hJ3 : (0 : Int) < J := by omega
        have hJ4 : (1 : Int) ≤ J := by omega
        have hJ5 : (J : Int) ≤ (S.size : Int) := by omega
        clear hz HZ HS hj g1 hx HP h3
        cases bb
        · go_enter Try.func45, Try.ntmps45
          go_wp2_with (first | (go_at_call 52; refine (unhide HI).mono ?_; rintro e w' ⟨rfl, hw⟩; rw [hw]; clear hw) | (go_at_call 14; refine (unhide HC).mono ?_; rintro e w' ⟨rfl, hw⟩; rw [hw]; clear hw))
          all_goals first | exact absurd rfl (by assumption : ¬ true = true) | exact absurd (by assumption : false = true) (by decide) | (go_ret; exact ⟨rfl, rfl⟩)
        · go_enter Try.func45, Try.ntmps45
          go_wp2_with (first | (go_at_call 52; refine (unhide HI).mono ?_; rintro e w' ⟨rfl, hw⟩; rw [hw]; clear hw) | (go_at_call 14; refine (unhide HC).mono ?_; rintro e w' ⟨rfl, hw⟩; rw [hw]; clear hw))
          all_goals first | exact absurd rfl (by assumption : ¬ true = true) | exact absurd (by assumption : false = true) (by decide) | (go_ret; refine ⟨ret_int ?_, rfl⟩; omega)
    · have hr : innN (c :: t) b = 0 := by simp [innN, c1, c2, c3, c4]
      rw [hr]
      have c1' : ¬ (c.toNat : Int) = 73 := fun h => c1 (UInt8.toNat_inj.1 (by simp; omega))
      have c2' : ¬ (c.toNat : Int) = 74 := fun h => c2 (UInt8.toNat_inj.1 (by simp; omega))
      have c3' : ¬ (c.toNat : Int) = 66 := fun h => c3 (UInt8.toNat_inj.1 (by simp; omega))
      have c4' : ¬ (c.toNat : Int) = 76 := fun h => c4 (UInt8.toNat_inj.1 (by simp; omega))
      have d1' : ((c.toNat : Int) == 73) = false := by simpa using c1'
      have d2' : ((c.toNat : Int) == 74) = false := by simpa using c2'
      have d3' : ((c.toNat : Int) == 66) = false := by simpa using c3'
      have d4' : ((c.toNat : Int) == 76) = false := by simpa using c4'
      clear c1 c2 c3 c4
      go_enter Try.func45, Try.ntmps45
      go_wp2
      go_ret
      exact ⟨rfl, rfl⟩
theorem deepN_lt : ∀ (s : List UInt8) (k : Nat), k < deepN s → s[k]? = some 91
  | [], k, h => by simp [deepN] at h
  | c :: t, k, h => by
    unfold deepN at h
    by_cases hc : c = 91
    · rw [if_pos hc] at h
      cases k with
      | zero => simp [hc]
      | succ k => simpa using deepN_lt t k (by omega)
    · rw [if_neg hc] at h; omega
theorem deepN_end : ∀ (s : List UInt8), s[deepN s]? ≠ some 91
  | [] => by simp
  | c :: t => by
    unfold deepN
    by_cases hc : c = 91
    · rw [if_pos hc]; simpa using deepN_end t
    · rw [if_neg hc]; simpa using hc
theorem deepN_le : ∀ (s : List UInt8), deepN s ≤ s.length
  | [] => by simp [deepN]
  | c :: t => by
    unfold deepN
    have := deepN_le t
    split <;> simp <;> omega
theorem innN_le : ∀ (s : List UInt8) (b : Bool), innN s b ≤ s.length
  | [], b => by simp [innN]
  | c :: t, b => by
    simp only [innN]
    repeat' split
    all_goals first | (simp; done) | skip
    rename_i h _
    have := idx_take t h
    simp; omega
set_option maxHeartbeats 1600000 in
theorem ysize_any (w : World) (S : ByteArray) (s : List UInt8) (hS : Str S s) (hs : s.length ≤ 140737488355328) : Calls Try.prog 31 #[.string S] w fun e w' => e = .returned (.int .i64 (sizeN s)) ∧ w' = w := by
  have hz := hS.size
  have HG : Hid (∀ (k : Nat) c, s[k]? = some c → ∃ hk : k < S.size, S[k] = c) := fun k c h => hS.at k c h
  have HD := hide (deepN_lt s)
  have HE := hide (deepN_end s)
  have hdl := deepN_le s
  have hil := innN_le (s.drop (deepN s)) (decide (0 < deepN s))
  rw [List.length_drop] at hil
  have HI := hide (yinner_any w _ _ (hS.sub (deepN s) S.size) (by simp; omega) (decide (0 < deepN s)))
  rw [hz, show (s.drop (deepN s)).take (s.length - deepN s) = s.drop (deepN s) from List.take_of_length_le (by simp)] at HI
  have HR : Hid (sizeN s = if 8 < deepN s then 0 else if innN (s.drop (deepN s)) (decide (0 < deepN s)) = 0 then 0 else deepN s + innN (s.drop (deepN s)) (decide (0 < deepN s))) := rfl
  clear hS
  generalize hn : s.length = n at *
  generalize hdd : deepN s = d at *
  generalize innN (s.drop d) (decide (0 < d)) = r at *
  obtain ⟨R, hR⟩ : ∃ R, R = (if 8 < d then 0 else if r = 0 then 0 else d + r) := ⟨_, rfl⟩
  have HP := hide hR
  rw [← hR] at HR
  clear hR
  have hpo : (Calls Try.prog 31 #[.string S] w fun e w' => e = .returned (.int .i64 R) ∧ w' = w) := by
    go_enter Try.func31, Try.ntmps31
    go_wp2
    go_loopw [3] (fun i wr => ∃ k : Nat, k ≤ d ∧ i = .int .i64 k ∧ wr = w) (fun i _ => n - (intOf i).toNat)
    case atStart => exact ⟨0, by omega, rfl, rfl⟩
    case round =>
      obtain ⟨k, hk, rfl, rfl⟩ := hrel
      by_cases hlt : k < d
      · have hlt1 : (k : Int) < (n : Int) := by omega
        obtain ⟨hk1, q1⟩ := unhide HG k 91 (unhide HD k hlt)
        go_wp2
        go_roundw
        case rel => exact ⟨k + 1, by omega, by go_num, (by first | rfl | trivial)⟩
        case measure => simp [intOf]; omega
      · obtain rfl : k = d := by omega
        by_cases hkn : k < n
        · have hlt1 : (k : Int) < (n : Int) := by omega
          obtain ⟨c, hc⟩ : ∃ c, s[k]? = some c := ⟨_, List.getElem?_eq_getElem (by omega)⟩
          obtain ⟨hk1, q1⟩ := unhide HG k c hc
          have hc91 : ¬ (c.toNat : Int) = 91 := fun h => unhide HE (by rw [hc, show c = 91 from UInt8.toNat_inj.1 (by simp; omega)])
          have hc91' : ((c.toNat : Int) == 91) = false := by simpa using hc91
          clear hc
          by_cases h8 : 8 < k
          · have h8' : (8 : Int) < k := by omega
            rw [if_pos h8] at HP
            go_wp2
            go_ret
            exact ⟨by rw [unhide HP]; rfl, rfl⟩
          · have h8' : ¬ (8 : Int) < k := by omega
            rw [if_neg h8] at HP
            by_cases hr0 : r = 0
            · subst hr0
              rw [if_pos rfl] at HP
              go_wp2_with (go_at_call 45; refine (unhide HI).mono ?_; rintro e w' ⟨rfl, hw⟩; rw [hw]; clear hw)
              go_ret
              exact ⟨by rw [unhide HP]; rfl, rfl⟩
            · have hr1 : ((r : Int) == 0) = false := by simp; omega
              have hr2 : ¬ (r : Int) = 0 := by omega
              rw [if_neg hr0] at HP
              go_wp2_with (go_at_call 45; refine (unhide HI).mono ?_; rintro e w' ⟨rfl, hw⟩; rw [hw]; clear hw)
              go_ret
              exact ⟨by rw [unhide HP]; exact ret_int (by go_num), rfl⟩
        · have hlt1 : ¬ (k : Int) < (n : Int) := by omega
          have hlt2 : (n : Int) ≤ (k : Int) := by omega
          by_cases h8 : 8 < k
          · have h8' : (8 : Int) < k := by omega
            rw [if_pos h8] at HP
            go_wp2
            go_ret
            exact ⟨by rw [unhide HP]; rfl, rfl⟩
          · have h8' : ¬ (8 : Int) < k := by omega
            rw [if_neg h8] at HP
            by_cases hr0 : r = 0
            · subst hr0
              rw [if_pos rfl] at HP
              go_wp2_with (go_at_call 45; refine (unhide HI).mono ?_; rintro e w' ⟨rfl, hw⟩; rw [hw]; clear hw)
              go_ret
              exact ⟨by rw [unhide HP]; rfl, rfl⟩
            · have hr1 : ((r : Int) == 0) = false := by simp; omega
              have hr2 : ¬ (r : Int) = 0 := by omega
              rw [if_neg hr0] at HP
              go_wp2_with (go_at_call 45; refine (unhide HI).mono ?_; rintro e w' ⟨rfl, hw⟩; rw [hw]; clear hw)
              go_ret
              exact ⟨by rw [unhide HP]; exact ret_int (by go_num), rfl⟩
  rw [unhide HR]
  exact hpo
end Go.Proofs.Ytjhiflhmefhogaa
