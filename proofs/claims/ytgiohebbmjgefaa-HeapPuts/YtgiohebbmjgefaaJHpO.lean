/- Layer 15: the chapter's example. -/
import Derived.Test.YtgiohebbmjgefaaJHpJ
import Derived.Test.YtgiohebbmjgefaaJHpL
import Derived.Test.YtgiohebbmjgefaaJHpM
import Derived.Test.YtgiohebbmjgefaaJHpN

namespace Go.Proofs.Ytgiohebbmjgefaa
open Go.RowKit
set_option linter.unusedVariables false
set_option maxRecDepth 100000

theorem wsIn_one (w : World) (v : Vl) : WsIn (w.alloc (.cells #[.int .i64 v.kind, .int .i64 v.n] 33)) ⟨some ⟨w.heap.size, 0, none⟩, 1, 1⟩ [v] :=
  ⟨ls_one w _ _ v rfl, Nat.le_refl _, by simp, (fun e => by cases e), by simp, fun _ _ => trivial⟩
def obA : Ob := ⟨[97], []⟩
def obB : Ob := ⟨[98], [⟨1, 7⟩]⟩
def obC : Ob := ⟨[99], []⟩
/-- Put, where it is known that it answers. -/
theorem putPost.ok {w : World} {l : List Ob} {x : Ob} {e : Ending} {w' : World} (h : putPost w l x e w') (h0 : putEH l x = 0) : Below w.heap.size w w' ∧ ∃ s rs, HIn w' s rs ∧ rs.map ObR.o = putLH l x ∧ e = .returned (.tuple #[s.v, .int .i64 ((firstH freeO l : Nat) + 1), .int .i64 0]) := by
  obtain ⟨f, ⟨h1, _⟩ | ⟨_, h1⟩⟩ := h
  · exact absurd h0 h1
  · exact ⟨f, h1⟩
theorem freePost.ok {w : World} {l l' : List Ob} {n : Int} {e : Ending} {w' : World} (h : freePost w l n e w') (h0 : freeH l n = some l') : Below w.heap.size w w' ∧ ∃ s rs, HIn w' s rs ∧ rs.map ObR.o = l' ∧ e = .returned (.tuple #[s.v, .int .i64 0]) := by
  obtain ⟨f, ⟨h1, _⟩ | ⟨l2, s, rs, h1, h2, h3, h4⟩⟩ := h
  · rw [h0] at h1; cases h1
  · rw [h0] at h1
    injection h1 with h1
    subst h1
    exact ⟨f, s, rs, h2, h3, h4⟩
theorem wordPost.ok {w : World} {l : List Ob} {n k : Int} {v : Vl} {e : Ending} {w' : World} (h : wordPost w l n k e w') (h0 : wordH l n k = some v) : Below w.heap.size w w' ∧ e = .returned (.tuple #[.agg #[.int .i64 v.kind, .int .i64 v.n], .int .i64 0]) := by
  obtain ⟨f, ⟨h1, _⟩ | ⟨v2, h1, h2⟩⟩ := h
  · rw [h0] at h1; cases h1
  · rw [h0] at h1
    injection h1 with h1
    subst h1
    exact ⟨f, h2⟩
set_option maxHeartbeats 1600000 in
theorem works15_any (w : World) : Calls Try.prog 23 #[] w fun e w' => e = .returned (.bool true) ∧ Below w.heap.size w w' := by
  have HP1 : Hid (Calls Try.prog 24 #[.slice none 0 0, .agg #[.string ⟨#[97]⟩, .slice none 0 0]] w (putPost w [] obA)) := hide (put_any w ⟨none, 0, 0⟩ [] (hIn_nil w) [97] ⟨none, 0, 0⟩ [] (wsIn_nil w))
  have E1 : putEH [] obA = 0 := by decide
  have E2 : putLH [] obA = [obA] := rfl
  have E3 : putEH [obA] obB = 0 := by decide
  have E4 : putLH [obA] obB = [obA, obB] := rfl
  have E5 : freeH [obA, obB] 1 = some [zeroO, obB] := by rfl
  have E6 : putEH [zeroO, obB] obC = 0 := by decide
  have E7 : putLH [zeroO, obB] obC = [obC, obB] := rfl
  have E8 : wordH [obC, obB] 2 0 = some ⟨1, 7⟩ := by rfl
  have E9 : wordsH [obC, obB] = 1 := rfl
  have F2 : firstH freeO [obA] = 1 := rfl
  have F3 : firstH freeO [zeroO, obB] = 0 := rfl
  go_enter Try.func23, Try.ntmps23
  go_wp2_with fail
  refine (unhide HP1).mono ?_
  rintro e w1 hp
  obtain ⟨f1, s1, rs1, hi1, hm1, rfl⟩ := hp.ok E1
  rw [E2] at hm1
  obtain ⟨a1, n1, c1⟩ := s1
  have HP2 : Hid (Calls Try.prog 24 #[.slice a1 n1 c1, .agg #[.string ⟨#[98]⟩, .slice (some ⟨w1.heap.size, 0, none⟩) 1 1]] (w1.alloc (.cells #[.int .i64 1, .int .i64 7] 33)) (putPost _ (rs1.map ObR.o) obB)) := hide (put_any _ ⟨a1, n1, c1⟩ rs1 (hi1.below ((Below.refl w1.heap.size w1).alloc (Nat.le_refl _) _)) [98] ⟨some ⟨w1.heap.size, 0, none⟩, 1, 1⟩ [⟨1, 7⟩] (wsIn_one w1 ⟨1, 7⟩))
  rw [hm1] at HP2
  have FB1 := hide f1
  clear hp hi1 hm1 f1 HP1
  unfold Sl.v
  simp only
  go_wp2_with fail
  refine (unhide HP2).mono ?_
  rintro e w2 hp
  obtain ⟨f2, s2, rs2, hi2, hm2, rfl⟩ := hp.ok E3
  rw [E4] at hm2
  obtain ⟨a2, n2, c2⟩ := s2
  have HP3 : Hid (Calls Try.prog 30 #[.slice a2 n2 c2, .int .i64 1] w2 (freePost w2 (rs2.map ObR.o) 1)) := hide (free_any _ ⟨a2, n2, c2⟩ rs2 hi2 1 (by unfold fitI; omega))
  rw [hm2] at HP3
  have FB2 := hide ((unhide FB1).trans ((((Below.refl w1.heap.size w1).alloc (Nat.le_refl _) _).trans (f2.mono (by simp))).mono (unhide FB1).size))
  clear hp hi2 hm2 f2 HP2
  unfold Sl.v
  simp only [F2]
  go_wp2_with fail
  refine (unhide HP3).mono ?_
  rintro e w3 hp
  obtain ⟨f3, s3, rs3, hi3, hm3, rfl⟩ := hp.ok E5
  obtain ⟨a3, n3, c3⟩ := s3
  have HP4 : Hid (Calls Try.prog 24 #[.slice a3 n3 c3, .agg #[.string ⟨#[99]⟩, .slice none 0 0]] w3 (putPost w3 (rs3.map ObR.o) obC)) := hide (put_any w3 ⟨a3, n3, c3⟩ rs3 hi3 [99] ⟨none, 0, 0⟩ [] (wsIn_nil w3))
  rw [hm3] at HP4
  have FB3 := hide ((unhide FB2).trans (f3.mono (unhide FB2).size))
  clear hp hi3 hm3 f3 HP3
  unfold Sl.v
  simp only
  go_wp2_with fail
  refine (unhide HP4).mono ?_
  rintro e w4 hp
  obtain ⟨f4, s4, rs4, hi4, hm4, rfl⟩ := hp.ok E6
  rw [E7] at hm4
  obtain ⟨a4, n4, c4⟩ := s4
  have HP5 : Hid (Calls Try.prog 14 #[.slice a4 n4 c4, .int .i64 2, .int .i64 0] w4 (wordPost w4 (rs4.map ObR.o) 2 0)) := hide (word_any w4 ⟨a4, n4, c4⟩ rs4 hi4 2 0 (by unfold fitI; omega) (by unfold fitI; omega))
  rw [hm4] at HP5
  have hl4 : rs4.length = 2 := by simpa using congrArg List.length hm4
  have KW : Hid (∀ W, Below w4.heap.size w4 W → Calls Try.prog 17 #[.slice a4 n4 c4] W fun e w' => e = .returned (.int .i64 (wordsH (rs4.map ObR.o) : Nat)) ∧ Below W.heap.size W w') := hide fun W f => words_any W ⟨a4, n4, c4⟩ rs4 (hi4.below f) (by omega)
  rw [hm4, E9] at KW
  have FB4 := hide ((unhide FB3).trans (f4.mono (unhide FB3).size))
  clear hp hi4 hm4 f4 HP4
  unfold Sl.v
  simp only [F3]
  go_wp2_with fail
  refine (unhide HP5).mono ?_
  rintro e w5 hp
  obtain ⟨f5, rfl⟩ := hp.ok E8
  have FB5 := hide ((unhide FB4).trans (f5.mono (unhide FB4).size))
  have f6 := f5.trans (((Below.refl w5.heap.size w5).alloc (Nat.le_refl _) (.cells #[.int .i64 1, .int .i64 7] 33)).mono f5.size)
  have KW6 := hide (unhide KW _ f6)
  have FB6 := hide ((unhide FB4).trans (f6.mono (unhide FB4).size))
  clear hp f5 f6 HP5
  go_wp2_with fail
  refine (unhide KW6).mono ?_
  rintro e w7 ⟨rfl, f7⟩
  have FB7 := hide ((unhide FB6).trans (f7.mono (unhide FB6).size))
  clear f7
  go_wp2
  go_ret
  exact ⟨rfl, unhide FB7⟩
end Go.Proofs.Ytgiohebbmjgefaa
