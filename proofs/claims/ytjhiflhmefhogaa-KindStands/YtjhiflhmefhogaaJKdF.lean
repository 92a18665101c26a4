/- The document's kind: One. -/
import Derived.Test.YtjhiflhmefhogaaJKdE

namespace Go.Proofs.Ytjhiflhmefhogaa
open Go.RowKit
set_option linter.unusedVariables false
set_option maxRecDepth 100000

def OneOk (s : List UInt8) : Prop := ∀ (w : World) (S : ByteArray) (a : Nat), Str S s → s.length ≤ 140737488355328 → a ≤ 9 → Calls Try.prog 33 #[.string S, .int .i64 a] w fun e w' => e = .returned (.tuple #[tyV (oneP s a).1, .int .i64 (oneP s a).2]) ∧ Below w.heap.size w w'
set_option maxHeartbeats 800000 in
theorem one_nil : OneOk [] := by
  intro w S a hS hs ha
  obtain rfl : S = ⟨#[]⟩ := hS.eq
  show Calls _ _ _ _ fun e w' => e = .returned (.tuple #[.agg #[.int .i64 0, .string ⟨#[]⟩], .int .i64 (0 : Nat)]) ∧ Below w.heap.size w w'
  clear hS
  go_enter Try.func33, Try.ntmps33
  go_wp2
  exact bodyPost_ret (ty_ret2 Try.results33 _ w.heap.size _ _ (heap_alloc_last _ _) _ rfl) rfl ⟨rfl, bA (Below.refl _ _) _⟩
/-- What the walk asks of a text that is not empty. -/
structure Txt1 (S : ByteArray) (c : UInt8) (t : List UInt8) : Prop where
  n1 : S.toList.isEmpty = false
  n2 : ¬ S.toList = []
  n3 : (S.toList == []) = false
  pos : 0 < S.size
theorem Str.txt {S : ByteArray} {c : UInt8} {t : List UInt8} (h : Str S (c :: t)) : Txt1 S c t := by
  have h2 := h.list
  exact ⟨by rw [h2]; rfl, by rw [h2]; simp, by rw [h2]; rfl, by rw [h.size]; simp⟩
set_option maxHeartbeats 800000 in
theorem one_deep (c : UInt8) (t : List UInt8) (w : World) (S : ByteArray) (a : Nat) (hS : Str S (c :: t)) (ha : 8 < a) (ha9 : a ≤ 9) : Calls Try.prog 33 #[.string S, .int .i64 a] w fun e w' => e = .returned (.tuple #[tyV (oneP (c :: t) a).1, .int .i64 (oneP (c :: t) a).2]) ∧ Below w.heap.size w w' := by
  have e : oneP (c :: t) a = (ty0, 0) := by unfold oneP; rw [if_pos ha]
  rw [e]
  show Calls _ _ _ _ fun e w' => e = .returned (.tuple #[.agg #[.int .i64 0, .string ⟨#[]⟩], .int .i64 (0 : Nat)]) ∧ Below w.heap.size w w'
  obtain ⟨n1, n2, n3, n4⟩ := hS.txt
  have h8 : (8 : Int) < a := by omega
  clear hS e
  go_enter Try.func33, Try.ntmps33
  go_wp2
  exact bodyPost_ret (ty_ret2 Try.results33 _ w.heap.size _ _ (heap_alloc_last _ _) _ rfl) rfl ⟨rfl, bA (Below.refl _ _) _⟩
set_option maxHeartbeats 1600000 in
theorem one_plain (c : UInt8) (t : List UInt8) (w : World) (S : ByteArray) (a : Nat) (hS : Str S (c :: t)) (ha : a ≤ 8) (hL : c ≠ 76) (hA : c ≠ 91) : Calls Try.prog 33 #[.string S, .int .i64 a] w fun e w' => e = .returned (.tuple #[tyV (oneP (c :: t) a).1, .int .i64 (oneP (c :: t) a).2]) ∧ Below w.heap.size w w' := by
  obtain ⟨n1, n2, n3, n4⟩ := hS.txt
  obtain ⟨hk, q0⟩ := hS.at 0 c rfl
  have h8 : ¬ (8 : Int) < a := by omega
  have h8' : (a : Int) ≤ 8 := by omega
  clear hS
  unfold oneP
  rw [if_neg (show ¬ 8 < a by omega)]
  by_cases c1 : c = 73
  · subst c1
    rw [if_pos rfl]
    show Calls _ _ _ _ fun e w' => e = .returned (.tuple #[.agg #[.int .i64 1, .string ⟨#[]⟩], .int .i64 (1 : Nat)]) ∧ Below w.heap.size w w'
    go_enter Try.func33, Try.ntmps33
    go_wp2
    exact bodyPost_ret (ty_ret2 Try.results33 _ w.heap.size _ _ (heap_alloc_last _ _) _ rfl) rfl ⟨rfl, bA (Below.refl _ _) _⟩
  rw [if_neg c1]
  by_cases c2 : c = 74
  · subst c2
    rw [if_pos rfl]
    show Calls _ _ _ _ fun e w' => e = .returned (.tuple #[.agg #[.int .i64 2, .string ⟨#[]⟩], .int .i64 (1 : Nat)]) ∧ Below w.heap.size w w'
    go_enter Try.func33, Try.ntmps33
    go_wp2
    exact bodyPost_ret (ty_ret2 Try.results33 _ w.heap.size _ _ (heap_alloc_last _ _) _ rfl) rfl ⟨rfl, bA (Below.refl _ _) _⟩
  rw [if_neg c2, if_neg hL, if_neg hA]
  show Calls _ _ _ _ fun e w' => e = .returned (.tuple #[.agg #[.int .i64 0, .string ⟨#[]⟩], .int .i64 (0 : Nat)]) ∧ Below w.heap.size w w'
  have c1' : ¬ (c.toNat : Int) = 73 := un73 (n := 73) c1 (by decide)
  have c2' : ¬ (c.toNat : Int) = 74 := un73 (n := 74) c2 (by decide)
  have c4' : ¬ (c.toNat : Int) = 76 := un73 (n := 76) hL (by decide)
  have c5' : ¬ (c.toNat : Int) = 91 := un73 (n := 91) hA (by decide)
  have d1' : ((c.toNat : Int) == 73) = false := by simpa using c1'
  have d2' : ((c.toNat : Int) == 74) = false := by simpa using c2'
  have d4' : ((c.toNat : Int) == 76) = false := by simpa using c4'
  have d5' : ((c.toNat : Int) == 91) = false := by simpa using c5'
  clear c1 c2 hL hA
  go_enter Try.func33, Try.ntmps33
  go_wp2
  exact bodyPost_ret (ty_ret2 Try.results33 _ w.heap.size _ _ (heap_alloc_last _ _) _ rfl) rfl ⟨rfl, bA (Below.refl _ _) _⟩
end Go.Proofs.Ytjhiflhmefhogaa
