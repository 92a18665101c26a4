/- Joined: KdF KdG KdH KdI. -/
import Derived.Test.YthenefjoidckkaaGreatDoorJK1

/- The document's kind: One. -/
namespace Go.Proofs.YthenefjoidckkaaGreatDoor
open Go.RowKit
set_option linter.unusedVariables false
set_option maxRecDepth 100000

def OneOk (s : List UInt8) : Prop := ∀ (w : World) (S : ByteArray) (a : Nat), Str S s → s.length ≤ 140737488355328 → a ≤ 9 → Calls Tryz.prog 44 #[.string S, .int .i64 a] w fun e w' => e = .returned (.tuple #[tyV (oneP s a).1, .int .i64 (oneP s a).2]) ∧ Below w.heap.size w w'
set_option maxHeartbeats 800000 in
theorem one_nil : OneOk [] := by
  intro w S a hS hs ha
  obtain rfl : S = ⟨#[]⟩ := hS.eq
  show Calls _ _ _ _ fun e w' => e = .returned (.tuple #[.agg #[.int .i64 0, .string ⟨#[]⟩], .int .i64 (0 : Nat)]) ∧ Below w.heap.size w w'
  clear hS
  go_enter Tryz.func44, Tryz.ntmps44
  go_wp2
  exact bodyPost_ret (ty_ret2 Tryz.results44 _ w.heap.size _ _ (heap_alloc_last _ _) _ rfl) rfl ⟨rfl, bA (Below.refl _ _) _⟩
/-- What the walk asks of a text that is not empty. -/
structure Txt1 (S : ByteArray) (c : UInt8) (t : List UInt8) : Prop where
  n1 : S.toList.isEmpty = false
  n2 : ¬ S.toList = []
  n3 : (S.toList == []) = false
  pos : 0 < S.size
theorem Str.txt {S : ByteArray} {c : UInt8} {t : List UInt8} (h : Str S (c :: t)) : Txt1 S c t := by
  have h2 := h.list
  exact ⟨by rw [h2]; rfl, by rw [h2]; simp, by rw [h2]; rfl, by rw [h.size]; simp⟩
set_option maxHeartbeats 800000 in
theorem one_deep (c : UInt8) (t : List UInt8) (w : World) (S : ByteArray) (a : Nat) (hS : Str S (c :: t)) (ha : 8 < a) (ha9 : a ≤ 9) : Calls Tryz.prog 44 #[.string S, .int .i64 a] w fun e w' => e = .returned (.tuple #[tyV (oneP (c :: t) a).1, .int .i64 (oneP (c :: t) a).2]) ∧ Below w.heap.size w w' := by
  have e : oneP (c :: t) a = (ty0, 0) := by unfold oneP; rw [if_pos ha]
  rw [e]
  show Calls _ _ _ _ fun e w' => e = .returned (.tuple #[.agg #[.int .i64 0, .string ⟨#[]⟩], .int .i64 (0 : Nat)]) ∧ Below w.heap.size w w'
  obtain ⟨n1, n2, n3, n4⟩ := hS.txt
  have h8 : (8 : Int) < a := by omega
  clear hS e
  go_enter Tryz.func44, Tryz.ntmps44
  go_wp2
  exact bodyPost_ret (ty_ret2 Tryz.results44 _ w.heap.size _ _ (heap_alloc_last _ _) _ rfl) rfl ⟨rfl, bA (Below.refl _ _) _⟩
set_option maxHeartbeats 1600000 in
theorem one_plain (c : UInt8) (t : List UInt8) (w : World) (S : ByteArray) (a : Nat) (hS : Str S (c :: t)) (ha : a ≤ 8) (hL : c ≠ 76) (hA : c ≠ 91) : Calls Tryz.prog 44 #[.string S, .int .i64 a] w fun e w' => e = .returned (.tuple #[tyV (oneP (c :: t) a).1, .int .i64 (oneP (c :: t) a).2]) ∧ Below w.heap.size w w' := by
  obtain ⟨n1, n2, n3, n4⟩ := hS.txt
  obtain ⟨hk, q0⟩ := hS.at 0 c rfl
  have h8 : ¬ (8 : Int) < a := by omega
  have h8' : (a : Int) ≤ 8 := by omega
  clear hS
  unfold oneP
  rw [if_neg (show ¬ 8 < a by omega)]
  by_cases c1 : c = 73
  · subst c1
    rw [if_pos rfl]
    show Calls _ _ _ _ fun e w' => e = .returned (.tuple #[.agg #[.int .i64 1, .string ⟨#[]⟩], .int .i64 (1 : Nat)]) ∧ Below w.heap.size w w'
    go_enter Tryz.func44, Tryz.ntmps44
    go_wp2
    exact bodyPost_ret (ty_ret2 Tryz.results44 _ w.heap.size _ _ (heap_alloc_last _ _) _ rfl) rfl ⟨rfl, bA (Below.refl _ _) _⟩
  rw [if_neg c1]
  by_cases c2 : c = 74
  · subst c2
    rw [if_pos rfl]
    show Calls _ _ _ _ fun e w' => e = .returned (.tuple #[.agg #[.int .i64 2, .string ⟨#[]⟩], .int .i64 (1 : Nat)]) ∧ Below w.heap.size w w'
    go_enter Tryz.func44, Tryz.ntmps44
    go_wp2
    exact bodyPost_ret (ty_ret2 Tryz.results44 _ w.heap.size _ _ (heap_alloc_last _ _) _ rfl) rfl ⟨rfl, bA (Below.refl _ _) _⟩
  rw [if_neg c2, if_neg hL, if_neg hA]
  show Calls _ _ _ _ fun e w' => e = .returned (.tuple #[.agg #[.int .i64 0, .string ⟨#[]⟩], .int .i64 (0 : Nat)]) ∧ Below w.heap.size w w'
  have c1' : ¬ (c.toNat : Int) = 73 := un73 (n := 73) c1 (by decide)
  have c2' : ¬ (c.toNat : Int) = 74 := un73 (n := 74) c2 (by decide)
  have c4' : ¬ (c.toNat : Int) = 76 := un73 (n := 76) hL (by decide)
  have c5' : ¬ (c.toNat : Int) = 91 := un73 (n := 91) hA (by decide)
  have d1' : ((c.toNat : Int) == 73) = false := by simpa using c1'
  have d2' : ((c.toNat : Int) == 74) = false := by simpa using c2'
  have d4' : ((c.toNat : Int) == 76) = false := by simpa using c4'
  have d5' : ((c.toNat : Int) == 91) = false := by simpa using c5'
  clear c1 c2 hL hA
  go_enter Tryz.func44, Tryz.ntmps44
  go_wp2
  exact bodyPost_ret (ty_ret2 Tryz.results44 _ w.heap.size _ _ (heap_alloc_last _ _) _ rfl) rfl ⟨rfl, bA (Below.refl _ _) _⟩
end Go.Proofs.YthenefjoidckkaaGreatDoor

/- The document's kind: One of an object's descriptor. -/
namespace Go.Proofs.YthenefjoidckkaaGreatDoor
open Go.RowKit
set_option linter.unusedVariables false
set_option maxRecDepth 100000

theorem oneP_L (t : List UInt8) (a : Nat) (ha : a ≤ 8) : oneP (76 :: t) a = if Lib.indexByte t 59 = -1 then (ty0, 0) else if clsB (t.take (Lib.indexByte t 59).toNat) = true then (⟨4, t.take (Lib.indexByte t 59).toNat⟩, (Lib.indexByte t 59).toNat + 2) else (ty0, 0) := by
  unfold oneP
  rw [if_neg (show ¬ 8 < a by omega), if_neg (by decide), if_neg (by decide), if_pos rfl]
/-- Where no ; was met. -/
theorem oneP_L0 (t : List UInt8) (a : Nat) (ha : a ≤ 8) (h : ∀ j : Nat, t[j]? ≠ some 59) : oneP (76 :: t) a = (ty0, 0) := by
  rw [oneP_L t a ha]
  by_cases h1 : Lib.indexByte t 59 = -1
  · rw [if_pos h1]
  · exact absurd (idx_lt t 59 h1).2.2 (h _)
theorem oneP_Lk (t : List UInt8) (a k : Nat) (ha : a ≤ 8) (h1 : t[k]? = some 59) (h : ∀ j : Nat, j < k → t[j]? ≠ some 59) : oneP (76 :: t) a = if clsB (t.take k) = true then (⟨4, t.take k⟩, k + 2) else (ty0, 0) := by
  rw [oneP_L t a ha, idx_is t 59 k h1 h, if_neg (by omega)]
  rfl
set_option maxHeartbeats 3200000 in
theorem one_L (t : List UInt8) (w : World) (S : ByteArray) (a : Nat) (hS : Str S (76 :: t)) (hs : (76 :: t).length ≤ 140737488355328) (ha : a ≤ 8) : Calls Tryz.prog 44 #[.string S, .int .i64 a] w fun e w' => e = .returned (.tuple #[tyV (oneP (76 :: t) a).1, .int .i64 (oneP (76 :: t) a).2]) ∧ Below w.heap.size w w' := by
  obtain ⟨n1, n2, n3, n4⟩ := hS.txt
  obtain ⟨hk, q0⟩ := hS.at 0 76 rfl
  have hz := hS.size
  have h8 : ¬ (8 : Int) < a := by omega
  have h8' : (a : Int) ≤ 8 := by omega
  have HG : Hid (∀ (k : Nat) c, (76 :: t)[k]? = some c → ∃ hk : k < S.size, S[k] = c) := fun k c h => hS.at k c h
  have HK : Hid (∀ (W : World) (k : Nat), 1 ≤ k → Calls Tryz.prog 62 #[.string (S.extract 1 k)] W fun e w' => e = .returned (.bool (clsB (t.take (k - 1)))) ∧ w' = W) := fun W k hk => by
    have := x10Class_any W _ _ (hS.sub 1 k) (by simp at hs ⊢; omega)
    rw [show ((76 :: t).drop 1).take (k - 1) = t.take (k - 1) by simp] at this
    exact this
  have HV : Hid (∀ k : Nat, (S.extract 1 k) = ⟨(t.take (k - 1)).toArray⟩) := fun k => by
    have := (hS.sub 1 k).eq
    rw [show ((76 :: t).drop 1).take (k - 1) = t.take (k - 1) by simp] at this
    exact this
  have HL0 := hide (oneP_L0 t a ha)
  have HLk := hide (fun k => oneP_Lk t a k ha)
  clear hS
  obtain ⟨n, hn⟩ : ∃ n, n = (76 :: t).length := ⟨_, rfl⟩
  rw [← hn] at hz hs
  have HN := hide hn
  generalize oneP (76 :: t) a = op at *
  obtain ⟨⟨tk, tn⟩, m⟩ := op
  unfold tyV
  simp only
  have hn1 : 1 ≤ n := by rw [hn]; simp
  clear hn
  go_enter Tryz.func44, Tryz.ntmps44
  go_wp2
  have HB : Hid (Bx2c (w.alloc (.cells #[.int .i64 0, .string ⟨#[]⟩] 52)) w.heap.size (.int .i64 0) (.string ⟨#[]⟩)) := Bx2c.made _ _ _
  have F0 : Hid (Below w.heap.size w (w.alloc (.cells #[.int .i64 0, .string ⟨#[]⟩] 52))) := bA (Below.refl _ _) _
  generalize w.alloc (.cells #[.int .i64 0, .string ⟨#[]⟩] 52) = w0 at *
  obtain ⟨k0, k1, k2⟩ := (unhide HB).cells
  go_loopw [6] (fun i wr => ∃ k : Nat, 1 ≤ k ∧ k ≤ n ∧ i = .int .i64 k ∧ wr = w0 ∧ Hid (∀ j : Nat, j + 1 < k → t[j]? ≠ some 59)) (fun i _ => n - (intOf i).toNat)
  case atStart => exact ⟨1, by omega, by omega, rfl, rfl, fun j h => by omega⟩
  case round =>
    obtain ⟨k, hk1, hkn, rfl, rfl, HR⟩ := hrel
    by_cases hlt : k < n
    · have hlt1 : (k : Int) < (n : Int) := by omega
      obtain ⟨c, hc⟩ : ∃ c, (76 :: t)[k]? = some c := ⟨_, List.getElem?_eq_getElem (by have := unhide HN; omega)⟩
      obtain ⟨hk2, q1⟩ := unhide HG k c hc
      obtain ⟨j, hj⟩ : ∃ j, k = j + 1 := ⟨k - 1, by omega⟩
      have HKK := hide hj
      have hcj : t[j]? = some c := by rw [hj] at hc; simpa using hc
      have HC := hide hcj
      clear hc hcj HG hj
      by_cases c59 : c = 59
      · subst c59
        have hl := unhide HLk j (unhide HC) (fun i hi => unhide HR i (by have := unhide HKK; omega))
        have HX := hide (unhide HK wr k (by omega))
        rw [show k - 1 = j by have := unhide HKK; omega] at HX
        have hv := unhide HV k
        rw [show k - 1 = j by have := unhide HKK; omega] at hv
        have g1 : (1 : Int) ≤ k := by omega
        have g2 : (k : Int) ≤ n := by omega
        have g3 : k ≤ n := by omega
        cases hb : clsB (t.take j)
        · rw [hb] at HX hl
          rw [if_neg (by decide)] at hl
          injection hl with e1 e2
          injection e1 with e3 e4
          subst e2 e3 e4
          clear hv HK HV HLk HL0 HC HR
          go_wp2_with (go_at_call 62; refine (unhide HX).mono ?_; rintro e w' ⟨rfl, hw⟩; rw [hw]; clear hw)
          exact bodyPost_ret (ty_ret2 Tryz.results44 _ w.heap.size _ _ (ty_set _ _ (unhide HB).row) _ rfl) rfl ⟨rfl, ty_bel _ _ (unhide F0) (Nat.le_refl _)⟩
        · rw [hb] at HX hl
          rw [if_pos rfl] at hl
          injection hl with e1 e2
          injection e1 with e3 e4
          subst e2 e3 e4
          have hv2 := hide hv
          have HM : Hid ((k : Int) + 1 = ((j + 2 : Nat) : Int)) := by have := unhide HKK; show (k : Int) + 1 = ((j + 2 : Nat) : Int); omega
          clear hv HK HV HLk HL0 HC HR
          go_wp2_with (go_at_call 62; refine (unhide HX).mono ?_; rintro e w' ⟨rfl, hw⟩; rw [hw]; clear hw)
          refine bodyPost_ret (ty_ret2 Tryz.results44 _ w.heap.size _ _ (ty_set _ _ (unhide HB).row) _ rfl) rfl ⟨?_, ty_bel _ _ (unhide F0) (Nat.le_refl _)⟩
          rw [unhide hv2, ← unhide HM]
          rfl
      · have d1 : ¬ (c.toNat : Int) = 59 := un73 (n := 59) c59 (by decide)
        have d2 : ((c.toNat : Int) == 59) = false := by simpa using d1
        have HR' : Hid (∀ i : Nat, i + 1 < k + 1 → t[i]? ≠ some 59) := fun i hi => by
          by_cases hij : i = j
          · subst hij; rw [unhide HC]; intro e; injection e with e; exact c59 e
          · exact unhide HR i (by have := unhide HKK; omega)
        clear HR HC c59
        go_wp2
        go_roundw
        case rel => exact ⟨k + 1, by omega, by omega, by go_num, (by first | rfl | trivial), HR'⟩
        case measure => simp [intOf]; omega
    · obtain rfl : k = n := by omega
      have hl := unhide HL0 (fun j hj => by
        by_cases hjl : j + 1 < k
        · exact unhide HR j hjl hj
        · have := (List.getElem?_eq_some_iff.1 hj).1
          have hN := unhide HN
          simp at hN
          omega)
      injection hl with e1 e2
      injection e1 with e3 e4
      subst e2 e3 e4
      clear HR HL0 HLk HK HV HG HN
      go_wp2
      exact bodyPost_ret (ty_ret2 Tryz.results44 _ w.heap.size _ _ (ty_set _ _ (unhide HB).row) _ rfl) rfl ⟨rfl, ty_bel _ _ (unhide F0) (Nat.le_refl _)⟩
end Go.Proofs.YthenefjoidckkaaGreatDoor

/- The document's kind: One of an array's descriptor; One; Parse. -/
namespace Go.Proofs.YthenefjoidckkaaGreatDoor
open Go.RowKit
set_option linter.unusedVariables false
set_option maxRecDepth 100000

theorem oneP_A (t : List UInt8) (a : Nat) (ha : a ≤ 8) : oneP (91 :: t) a = if t[0]? = some 66 ∧ a < 8 then (⟨4, [91, 66]⟩, 2) else if 0 < (oneP t (a + 1)).2 then (⟨4, (91 :: t).take ((oneP t (a + 1)).2 + 1)⟩, (oneP t (a + 1)).2 + 1) else (ty0, 0) := by
  conv => lhs; unfold oneP
  rw [if_neg (show ¬ 8 < a by omega), if_neg (by decide), if_neg (by decide), if_neg (by decide), if_pos rfl]
  rfl
set_option maxHeartbeats 1600000 in
theorem one_B (t : List UInt8) (w : World) (S : ByteArray) (a : Nat) (hS : Str S (91 :: t)) (hs : (91 :: t).length ≤ 140737488355328) (ha : a < 8) (hB : t[0]? = some 66) : Calls Tryz.prog 44 #[.string S, .int .i64 a] w fun e w' => e = .returned (.tuple #[tyV (oneP (91 :: t) a).1, .int .i64 (oneP (91 :: t) a).2]) ∧ Below w.heap.size w w' := by
  rw [oneP_A t a (by omega), if_pos ⟨hB, ha⟩]
  show Calls _ _ _ _ fun e w' => e = .returned (.tuple #[.agg #[.int .i64 4, .string ⟨#[91, 66]⟩], .int .i64 (2 : Nat)]) ∧ Below w.heap.size w w'
  obtain ⟨n1, n2, n3, n4⟩ := hS.txt
  obtain ⟨hk, q0⟩ := hS.at 0 91 rfl
  obtain ⟨hk1, q1⟩ := hS.at 1 66 (by simpa using hB)
  have hz := hS.size
  have h8 : ¬ (8 : Int) < a := by omega
  have h8' : (a : Int) ≤ 8 := by omega
  have h9 : (a : Int) < 8 := by omega
  have hl : (1 : Int) < (91 :: t).length := by rw [← hz]; omega
  clear hS hB
  generalize (91 :: t).length = n at *
  go_enter Tryz.func44, Tryz.ntmps44
  go_wp2
  exact bodyPost_ret (ty_ret2 Tryz.results44 _ w.heap.size _ _ (heap_alloc_last _ _) _ rfl) rfl ⟨rfl, bA (Below.refl _ _) _⟩
set_option maxHeartbeats 3200000 in
theorem one_A (t : List UInt8) (ih : OneOk t) (w : World) (S : ByteArray) (a : Nat) (hS : Str S (91 :: t)) (hs : (91 :: t).length ≤ 140737488355328) (ha : a ≤ 8) (hB : ¬ (t[0]? = some 66 ∧ a < 8)) : Calls Tryz.prog 44 #[.string S, .int .i64 a] w fun e w' => e = .returned (.tuple #[tyV (oneP (91 :: t) a).1, .int .i64 (oneP (91 :: t) a).2]) ∧ Below w.heap.size w w' := by
  rw [oneP_A t a ha, if_neg hB]
  obtain ⟨n1, n2, n3, n4⟩ := hS.txt
  obtain ⟨hk, q0⟩ := hS.at 0 91 rfl
  have hz := hS.size
  have h8 : ¬ (8 : Int) < a := by omega
  have h8' : (a : Int) ≤ 8 := by omega
  have hone := one_le t (a + 1)
  have HV : Hid (∀ k : Nat, (S.extract 0 k) = ⟨((91 :: t).take k).toArray⟩) := fun k => by
    have := (hS.sub 0 k).eq
    simpa using this
  have HS1 : Hid (Str (S.extract 1 (91 :: t).length) t) := by
    have := hS.sub 1 (91 :: t).length
    rw [show ((91 :: t).drop 1).take ((91 :: t).length - 1) = t by simp] at this
    exact this
  obtain ⟨w0, hw0⟩ : ∃ w0, w0 = w.alloc (.cells #[.int .i64 0, .string ⟨#[]⟩] 52) := ⟨_, rfl⟩
  have HB : Hid (Bx2c w0 w.heap.size (.int .i64 0) (.string ⟨#[]⟩)) := by rw [hw0]; exact Bx2c.made _ _ _
  have F0 : Hid (Below w.heap.size w w0) := by rw [hw0]; exact bA (Below.refl _ _) _
  have HW0 := hide hw0
  clear hw0
  obtain ⟨A1, hA1⟩ : ∃ A1, A1 = a + 1 := ⟨_, rfl⟩
  have ha1 : (a : Int) + 1 = (A1 : Int) := by omega
  have HI := hide (ih w0 _ (a + 1) (unhide HS1) (by simp at hs; omega) (by omega))
  have HG : Hid (∀ (k : Nat) c, (91 :: t)[k]? = some c → ∃ hk : k < S.size, S[k] = c) := fun k c h => hS.at k c h
  have hN : t.length + 1 = (91 :: t).length := rfl
  have HB2 : Hid (¬ (1 : Int) < ((91 :: t).length : Int) ∨ ((1 : Int) < ((91 :: t).length : Int) ∧ ∃ d, (∃ hk : 1 < S.size, S[1] = d) ∧ (¬ (d.toNat : Int) = 66 ∨ d = 66 ∧ ¬ (a : Int) < 8))) := by
    cases t with
    | nil => exact .inl (by simp)
    | cons d t =>
      refine .inr ⟨by simp; omega, d, hS.at 1 d rfl, ?_⟩
      by_cases hd : d = 66
      · exact .inr ⟨hd, fun h => hB ⟨by simp [hd], by omega⟩⟩
      · exact .inl (un73 (n := 66) hd (by decide))
  generalize oneP t (a + 1) = op at *
  obtain ⟨⟨tk, tn⟩, m⟩ := op
  rw [← hA1] at HI
  clear hA1
  unfold tyV at *
  simp only at HI hone ⊢
  clear hS hB HG HS1
  generalize (91 :: t).length = n at *
  have hn1 : 1 ≤ n := by omega
  have hn2 : (1 : Int) ≤ n := by omega
  obtain ⟨M, hM⟩ : ∃ M, M = m + 1 := ⟨_, rfl⟩
  rw [← hM]
  have HM := hide hM
  clear hM
  rcases unhide HB2 with hb | ⟨hb, d, ⟨hd1, q1⟩, hd2 | ⟨rfl, hd3⟩⟩
  · clear HB2
    go_enter Tryz.func44, Tryz.ntmps44
    go_wp2_with fail
    rw [← unhide HW0]
    refine (unhide HI).mono ?_
    rintro e w1 ⟨rfl, f1⟩
    have HB1 : Hid (Bx2c (w1.alloc (.cells #[.int .i64 tk, .string ⟨tn.toArray⟩] 52)) w.heap.size _ _) := ((unhide HB).keep f1).keep (bA (Below.refl _ _) _)
    have F1 : Hid (Below w.heap.size w (w1.alloc (.cells #[.int .i64 tk, .string ⟨tn.toArray⟩] 52))) := bA ((unhide F0).trans (f1.mono (unhide F0).size)) _
    obtain ⟨k0, k1, k2⟩ := (unhide HB1).cells
    clear f1
    rcases Nat.eq_zero_or_pos m with hm0 | hm0
    · subst hm0
      go_wp2
      exact bodyPost_ret (ty_ret2 Tryz.results44 _ w.heap.size _ _ (ty_set _ _ (unhide HB1).row) _ rfl) rfl ⟨rfl, ty_bel _ _ (unhide F1) (Nat.le_refl _)⟩
    · exfalso; omega
  · clear HB2
    have hd4 : ((d.toNat : Int) == 66) = false := by simpa using hd2
    go_enter Tryz.func44, Tryz.ntmps44
    go_wp2_with fail
    rw [← unhide HW0]
    refine (unhide HI).mono ?_
    rintro e w1 ⟨rfl, f1⟩
    have HB1 : Hid (Bx2c (w1.alloc (.cells #[.int .i64 tk, .string ⟨tn.toArray⟩] 52)) w.heap.size _ _) := ((unhide HB).keep f1).keep (bA (Below.refl _ _) _)
    have F1 : Hid (Below w.heap.size w (w1.alloc (.cells #[.int .i64 tk, .string ⟨tn.toArray⟩] 52))) := bA ((unhide F0).trans (f1.mono (unhide F0).size)) _
    obtain ⟨k0, k1, k2⟩ := (unhide HB1).cells
    clear f1
    rcases Nat.eq_zero_or_pos m with hm0 | hm0
    · subst hm0
      go_wp2
      exact bodyPost_ret (ty_ret2 Tryz.results44 _ w.heap.size _ _ (ty_set _ _ (unhide HB1).row) _ rfl) rfl ⟨rfl, ty_bel _ _ (unhide F1) (Nat.le_refl _)⟩
    · have hm1 : (0 : Int) < m := by omega
      have hm2 : (m : Int) + 1 = M := by have := unhide HM; omega
      have hm3 : (M : Int) ≤ n := by have := unhide HM; omega
      have hm4 : M ≤ n := by omega
      have hm5 : (0 : Int) ≤ M := by omega
      have e3 : (if 0 < m then ((⟨4, (91 :: t).take M⟩ : Ty), M) else (ty0, 0)) = (⟨4, (91 :: t).take M⟩, M) := if_pos hm0
      have E3 := hide e3
      clear e3
      go_wp2
      refine bodyPost_ret (ty_ret2 Tryz.results44 _ w.heap.size _ _ (ty_set _ _ (unhide HB1).row) _ rfl) rfl ⟨?_, ty_bel _ _ (unhide F1) (Nat.le_refl _)⟩
      try rw [unhide E3]
      show Ending.returned (.tuple #[.agg #[.int .i64 4, .string (S.extract 0 M)], .int .i64 (M : Int)]) = _
      rw [unhide HV]
  · clear HB2
    have hd4 : (8 : Int) ≤ a := by omega
    go_enter Tryz.func44, Tryz.ntmps44
    go_wp2_with fail
    rw [← unhide HW0]
    refine (unhide HI).mono ?_
    rintro e w1 ⟨rfl, f1⟩
    have HB1 : Hid (Bx2c (w1.alloc (.cells #[.int .i64 tk, .string ⟨tn.toArray⟩] 52)) w.heap.size _ _) := ((unhide HB).keep f1).keep (bA (Below.refl _ _) _)
    have F1 : Hid (Below w.heap.size w (w1.alloc (.cells #[.int .i64 tk, .string ⟨tn.toArray⟩] 52))) := bA ((unhide F0).trans (f1.mono (unhide F0).size)) _
    obtain ⟨k0, k1, k2⟩ := (unhide HB1).cells
    clear f1
    rcases Nat.eq_zero_or_pos m with hm0 | hm0
    · subst hm0
      go_wp2
      exact bodyPost_ret (ty_ret2 Tryz.results44 _ w.heap.size _ _ (ty_set _ _ (unhide HB1).row) _ rfl) rfl ⟨rfl, ty_bel _ _ (unhide F1) (Nat.le_refl _)⟩
    · have hm1 : (0 : Int) < m := by omega
      have hm2 : (m : Int) + 1 = M := by have := unhide HM; omega
      have hm3 : (M : Int) ≤ n := by have := unhide HM; omega
      have hm4 : M ≤ n := by omega
      have hm5 : (0 : Int) ≤ M := by omega
      have e3 : (if 0 < m then ((⟨4, (91 :: t).take M⟩ : Ty), M) else (ty0, 0)) = (⟨4, (91 :: t).take M⟩, M) := if_pos hm0
      have E3 := hide e3
      clear e3
      go_wp2
      refine bodyPost_ret (ty_ret2 Tryz.results44 _ w.heap.size _ _ (ty_set _ _ (unhide HB1).row) _ rfl) rfl ⟨?_, ty_bel _ _ (unhide F1) (Nat.le_refl _)⟩
      try rw [unhide E3]
      show Ending.returned (.tuple #[.agg #[.int .i64 4, .string (S.extract 0 M)], .int .i64 (M : Int)]) = _
      rw [unhide HV]
theorem x10One_any : ∀ s : List UInt8, OneOk s
  | [] => one_nil
  | c :: t => by
    have ih := x10One_any t
    intro w S a hS hs ha
    by_cases h9 : 8 < a
    · exact one_deep c t w S a hS h9 ha
    by_cases hL : c = 76
    · subst hL; exact one_L t w S a hS hs (by omega)
    by_cases hA : c = 91
    · subst hA
      by_cases hB : t[0]? = some 66 ∧ a < 8
      · exact one_B t w S a hS hs hB.2 hB.1
      · exact one_A t ih w S a hS hs (by omega) hB
    · exact one_plain c t w S a hS (by omega) hL hA
end Go.Proofs.YthenefjoidckkaaGreatDoor

/- The document's Parse; the landed spelt. -/
namespace Go.Proofs.YthenefjoidckkaaGreatDoor
open Go.RowKit
set_option linter.unusedVariables false
set_option maxRecDepth 100000

set_option maxHeartbeats 1600000 in
theorem x10Parse_any (w : World) (S : ByteArray) (s : List UInt8) (hS : Str S s) (hs : s.length ≤ 140737488355328) : Calls Tryz.prog 45 #[.string S] w fun e w' => e = .returned (.tuple #[tyV (parP s).1, .int .i64 (parP s).2]) ∧ Below w.heap.size w w' := by
  have hz := hS.size
  obtain ⟨w0, hw0⟩ : ∃ w0, w0 = w.alloc (.cells #[.int .i64 0, .string ⟨#[]⟩] 52) := ⟨_, rfl⟩
  have HB : Hid (Bx2c w0 w.heap.size (.int .i64 0) (.string ⟨#[]⟩)) := by rw [hw0]; exact Bx2c.made _ _ _
  have F0 : Hid (Below w.heap.size w w0) := by rw [hw0]; exact bA (Below.refl _ _) _
  have HW0 := hide hw0
  clear hw0
  have HO := hide (x10One_any s w0 S 0 hS hs (by omega))
  rw [parP_is]
  clear hS
  generalize oneP s 0 = op at *
  obtain ⟨⟨tk, tn⟩, m⟩ := op
  generalize s.length = n at *
  unfold tyV at *
  simp only at HO ⊢
  generalize hT : (⟨tn.toArray⟩ : ByteArray) = T at *
  by_cases h : m = 0 ∨ m ≠ n
  · rw [if_pos h]
    show Calls _ _ _ _ fun e w' => e = .returned (.tuple #[.agg #[.int .i64 0, .string ⟨#[]⟩], .int .i64 100]) ∧ Below w.heap.size w w'
    rcases Classical.em (m = 0) with h0 | h0
    · subst h0
      clear h
      go_enter Tryz.func45, Tryz.ntmps45
      go_wp2_with fail
      rw [← unhide HW0]
      refine (unhide HO).mono ?_
      rintro e w1 ⟨rfl, f1⟩
      have HB1 : Hid (Bx2c (w1.alloc (.cells #[.int .i64 tk, .string T] 52)) w.heap.size _ _) := ((unhide HB).keep f1).keep (bA (Below.refl _ _) _)
      have F1 : Hid (Below w.heap.size w (w1.alloc (.cells #[.int .i64 tk, .string T] 52))) := bA ((unhide F0).trans (f1.mono (unhide F0).size)) _
      obtain ⟨k0, k1, k2⟩ := (unhide HB1).cells
      clear f1
      go_wp2
      exact bodyPost_ret (ty_ret2 Tryz.results45 _ w.heap.size _ _ (ty_set _ _ (unhide HB1).row) _ rfl) rfl ⟨rfl, ty_bel _ _ (unhide F1) (Nat.le_refl _)⟩
    · have h1 : ((m : Int) == 0) = false := by simp; omega
      have h2 : ¬ (m : Int) = n := by rcases h with h | h <;> omega
      have h3 : ((m : Int) != (n : Int)) = true := by simp; omega
      have h4 : ((m : Int) == (n : Int)) = false := by simp; omega
      have h5 : ¬ (m : Int) = 0 := by omega
      clear h
      go_enter Tryz.func45, Tryz.ntmps45
      go_wp2_with fail
      rw [← unhide HW0]
      refine (unhide HO).mono ?_
      rintro e w1 ⟨rfl, f1⟩
      have HB1 : Hid (Bx2c (w1.alloc (.cells #[.int .i64 tk, .string T] 52)) w.heap.size _ _) := ((unhide HB).keep f1).keep (bA (Below.refl _ _) _)
      have F1 : Hid (Below w.heap.size w (w1.alloc (.cells #[.int .i64 tk, .string T] 52))) := bA ((unhide F0).trans (f1.mono (unhide F0).size)) _
      obtain ⟨k0, k1, k2⟩ := (unhide HB1).cells
      clear f1
      go_wp2
      exact bodyPost_ret (ty_ret2 Tryz.results45 _ w.heap.size _ _ (ty_set _ _ (unhide HB1).row) _ rfl) rfl ⟨rfl, ty_bel _ _ (unhide F1) (Nat.le_refl _)⟩
  · rw [if_neg h]
    obtain rfl : m = n := Classical.byContradiction fun e => h (.inr e)
    have h1 : m ≠ 0 := fun e => h (.inl e)
    have h3 : ((m : Int) == 0) = false := by simp; omega
    have h4 : ¬ (m : Int) = 0 := by omega
    clear h
    simp only
    rw [hT]
    go_enter Tryz.func45, Tryz.ntmps45
    go_wp2_with fail
    rw [← unhide HW0]
    refine (unhide HO).mono ?_
    rintro e w1 ⟨rfl, f1⟩
    have HB1 : Hid (Bx2c (w1.alloc (.cells #[.int .i64 tk, .string T] 52)) w.heap.size _ _) := ((unhide HB).keep f1).keep (bA (Below.refl _ _) _)
    have F1 : Hid (Below w.heap.size w (w1.alloc (.cells #[.int .i64 tk, .string T] 52))) := bA ((unhide F0).trans (f1.mono (unhide F0).size)) _
    obtain ⟨k0, k1, k2⟩ := (unhide HB1).cells
    clear f1
    go_wp2
    exact bodyPost_ret (ty_ret2 Tryz.results45 _ w.heap.size _ _ (ty_set _ _ (unhide HB1).row) _ rfl) rfl ⟨rfl, ty_bel _ _ (unhide F1) (Nat.le_refl _)⟩
def spelP (t : Ty) : List UInt8 := if t.kind = 1 then [73] else if t.kind = 2 then [74] else if t.kind = 4 then (if arrB t.name = true then t.name else 76 :: (t.name ++ [59])) else []
set_option maxHeartbeats 1600000 in
theorem yspelt_any (w : World) (k : Int) (S : ByteArray) (s : List UInt8) (hS : Str S s) (hs : s.length ≤ 140737488351232) : Calls Tryz.prog 137 #[.agg #[.int .i64 k, .string S]] w fun e w' => e = .returned (.string ⟨(spelP ⟨k, s⟩).toArray⟩) ∧ Below w.heap.size w w' := by
  have hz := hS.size
  unfold spelP
  simp only
  by_cases k1 : k = 1
  · subst k1
    rw [if_pos rfl]
    go_enter Tryz.func137, Tryz.ntmps137
    go_wp2
    go_ret
    exact ⟨rfl, bA (Below.refl _ _) _⟩
  rw [if_neg k1]
  have k1' : (k == 1) = false := by simpa using k1
  by_cases k2 : k = 2
  · subst k2
    rw [if_pos rfl]
    go_enter Tryz.func137, Tryz.ntmps137
    go_wp2
    go_ret
    exact ⟨rfl, bA (Below.refl _ _) _⟩
  rw [if_neg k2]
  have k2' : (k == 2) = false := by simpa using k2
  by_cases k4 : k = 4
  · subst k4
    rw [if_pos rfl]
    have HA := hide (yarray_any (w.alloc (.cells #[.int .i64 4, .string S] 52)) S s hS)
    have HE := hide hS.eq
    cases hb : arrB s
    · rw [hb] at HA
      rw [if_neg (by decide)]
      go_enter Tryz.func137, Tryz.ntmps137
      go_wp2_with (go_at_call 63; refine (unhide HA).mono ?_; rintro e w' ⟨rfl, hw⟩; rw [hw]; clear hw)
      go_ret
      refine ⟨?_, bA (Below.refl _ _) _⟩
      have e : (⟨#[76]⟩ : ByteArray) ++ S ++ ⟨#[59]⟩ = ⟨(76 :: (s ++ [59])).toArray⟩ := by
        rw [unhide HE]
        apply ByteArray.ext
        simp
      show Ending.returned (.string ((⟨#[76]⟩ : ByteArray) ++ S ++ ⟨#[59]⟩)) = _
      rw [e]
    · rw [hb] at HA
      rw [if_pos rfl, ← unhide HE]
      go_enter Tryz.func137, Tryz.ntmps137
      go_wp2_with (go_at_call 63; refine (unhide HA).mono ?_; rintro e w' ⟨rfl, hw⟩; rw [hw]; clear hw)
      go_ret
      exact ⟨rfl, bA (Below.refl _ _) _⟩
  · rw [if_neg k4]
    have k4' : (k == 4) = false := by simpa using k4
    go_enter Tryz.func137, Tryz.ntmps137
    go_wp2
    go_ret
    exact ⟨rfl, bA (Below.refl _ _) _⟩
end Go.Proofs.YthenefjoidckkaaGreatDoor
