/- The walk of PoolMeans. -/
import Derived.Test.YtjpimcglojneaaaJF
import Derived.Test.YtjpimcglojneaaaJPlS
import Derived.Test.YtjpimcglojneaaaJPlY
import Derived.Test.YtjpimcglojneaaaJPlT

namespace Go.Proofs.Ytjpimcglojneaaa
open Go.RowKit
set_option linter.unusedVariables false

set_option maxHeartbeats 6400000 in
set_option maxRecDepth 100000 in
theorem means_walk (P : Pools) (w : World) (a : Option Addr) (n c : Nat) (l : List Ent) (h : EIn w a n c l) (i : Int) (hi : -9223372036854775808 ≤ i ∧ i ≤ 9223372036854775807) :
    Calls Try.prog 5 #[.slice a n c, .int .i64 i] w fun e w' => e = .returned (.bool true) ∧ Below w.heap.size w w' := by
  have HO := hide (own7_any w a n c l h.arg h.small)
  have HI := hide h
  have hsm : n ≤ 140737488351232 := by have := h.small; omega
  clear h
  have HT : ∃ st T2, (⟨(textP l i).1.toArray⟩ : ByteArray) = st ∧ (textP l i).2 = T2 := ⟨_, _, rfl, rfl⟩
  obtain ⟨st, T2, hst, hT2⟩ := HT
  have HK : ∃ kt kn s1 s2 s3 K2, cstV (constP l i).1 = .agg #[.int .i64 kt, .int .i64 kn, .string s1, .string s2, .string s3] ∧ (constP l i).2 = K2 := ⟨_, _, _, _, _, _, rfl, rfl⟩
  obtain ⟨kt, kn, s1, s2, s3, K2, hk, hK2⟩ := HK
  have X1 : Hid (∀ W a c, EIn W a n c l → Calls Try.prog 25 #[.slice a n c, .int .i64 i] W fun e w' => e = .returned (.tuple #[.string st, .int .i64 T2]) ∧ Below W.heap.size W w') := fun W a c h => by
    have := P.text W a n c l i h hi
    rw [hst, hT2] at this
    exact this
  have X2 : Hid (∀ W a c, EIn W a n c l → Calls Try.prog 26 #[.slice a n c, .int .i64 i] W fun e w' => e = .returned (.tuple #[.string st, .int .i64 T2]) ∧ Below W.heap.size W w') := fun W a c h => by
    have := jText_any W a n c l h.arg.es i hi hsm h.fit
    rw [hst, hT2] at this
    exact this
  have X3 : Hid (∀ W a c, EIn W a n c l → Calls Try.prog 27 #[.slice a n c, .int .i64 i] W fun e w' => e = .returned (.tuple #[.agg #[.int .i64 kt, .int .i64 kn, .string s1, .string s2, .string s3], .int .i64 K2]) ∧ Below W.heap.size W w') := fun W a c h => by
    have := P.const W a n c l i h hi
    rw [hk, hK2] at this
    exact this
  have X4 : Hid (∀ W a c, EIn W a n c l → Calls Try.prog 28 #[.slice a n c, .int .i64 i] W fun e w' => e = .returned (.tuple #[.agg #[.int .i64 kt, .int .i64 kn, .string s1, .string s2, .string s3], .int .i64 K2]) ∧ Below W.heap.size W w') := fun W a c h => by
    have := jConst_any W a n c l h.arg.es i hi hsm h.fit.1 h.fit.2
    rw [hk, hK2] at this
    exact this
  clear hst hT2 hk hK2
  go_enter Try.func5, Try.ntmps5
  go_wp2_with fail
  refine (unhide HO).mono ?_
  rintro e w1 ⟨v1, rfl, o1, f1⟩
  obtain ⟨a1, c1, rfl⟩ := own5_form o1
  have HM1 := hide (EIn.own o1 (unhide HI).small (unhide HI).fit)
  have F1 := hide f1
  clear o1 f1 HO
  go_wp2_with fail
  refine (unhide X1 _ _ _ (unhide HM1)).mono ?_
  rintro e w2 ⟨rfl, f2⟩
  have F2 := hide ((unhide F1).trans (f2.mono (unhide F1).size))
  have HM2 := hide ((unhide HM1).below f2)
  clear f2 F1 HM1 X1
  go_wp2_with fail
  refine (unhide X2 _ _ _ ((unhide HI).below (unhide F2))).mono ?_
  rintro e w3 ⟨rfl, f3⟩
  have F3 := hide ((unhide F2).trans (f3.mono (unhide F2).size))
  have HM3 := hide ((unhide HM2).below f3)
  clear f3 F2 HM2 X2
  go_wp2_with fail
  refine (unhide X3 _ _ _ (unhide HM3)).mono ?_
  rintro e w4 ⟨rfl, f4⟩
  have b4 := (Below.refl w4.heap.size w4).alloc (Nat.le_refl _) (.cells #[.int .i64 kt, .int .i64 kn, .string s1, .string s2, .string s3] 50)
  have f4' := f4.trans (b4.mono f4.size)
  have F4 := hide ((unhide F3).trans (f4'.mono (unhide F3).size))
  have HM4 := hide ((unhide HM3).below f4')
  have hc4 := heap_alloc_last w4 (.cells #[.int .i64 kt, .int .i64 kn, .string s1, .string s2, .string s3] 50)
  have HC4 := hide hc4
  clear f4 f4' b4 F3 HM3 X3 hc4
  go_wp2_with fail
  generalize hq : w4.heap.size = q4 at *
  generalize w4.alloc (.cells #[.int .i64 kt, .int .i64 kn, .string s1, .string s2, .string s3] 50) = W4 at *
  refine (unhide X4 _ _ _ ((unhide HI).below (unhide F4))).mono ?_
  rintro e w5 ⟨rfl, f5⟩
  have hc5 : w5.heap[q4]? = _ := (f5.block q4 (lt_of_heap (unhide HC4))).trans (unhide HC4)
  have k0 : w5.cell? ⟨q4, 0, none⟩ = some (.int .i64 kt) := by rw [cell_of_row _ _ _ _ _ _ hc5]; rfl
  have k1 : w5.cell? ⟨q4, 1, none⟩ = some (.int .i64 kn) := by rw [cell_of_row _ _ _ _ _ _ hc5]; rfl
  have k2 : w5.cell? ⟨q4, 2, none⟩ = some (.string s1) := by rw [cell_of_row _ _ _ _ _ _ hc5]; rfl
  have k3 : w5.cell? ⟨q4, 3, none⟩ = some (.string s2) := by rw [cell_of_row _ _ _ _ _ _ hc5]; rfl
  have k4 : w5.cell? ⟨q4, 4, none⟩ = some (.string s3) := by rw [cell_of_row _ _ _ _ _ _ hc5]; rfl
  have d0 := cell_alloc k0 (.cells #[.int .i64 kt, .int .i64 kn, .string s1, .string s2, .string s3] 50)
  have d1 := cell_alloc k1 (.cells #[.int .i64 kt, .int .i64 kn, .string s1, .string s2, .string s3] 50)
  have d2 := cell_alloc k2 (.cells #[.int .i64 kt, .int .i64 kn, .string s1, .string s2, .string s3] 50)
  have d3 := cell_alloc k3 (.cells #[.int .i64 kt, .int .i64 kn, .string s1, .string s2, .string s3] 50)
  have d4 := cell_alloc k4 (.cells #[.int .i64 kt, .int .i64 kn, .string s1, .string s2, .string s3] 50)
  have b5 := (Below.refl w5.heap.size w5).alloc (Nat.le_refl _) (.cells #[.int .i64 kt, .int .i64 kn, .string s1, .string s2, .string s3] 50)
  have f5' := f5.trans (b5.mono f5.size)
  have f5w := (unhide F4).trans (f5'.mono (unhide F4).size)
  have X5 := hide (SameEntries_same _ a1 a n c1 c l ((unhide HM4).below f5').arg.es ((unhide HI).below f5w).arg.es hsm)
  have F5 := hide f5w
  clear f5 f5' f5w b5 hc5 k0 k1 k2 k3 k4 HM4 HC4 F4 X4 hq
  go_wp2_with fail
  refine (unhide X5).mono ?_
  rintro e w6 ⟨rfl, f6⟩
  have F6 := hide ((unhide F5).trans (f6.mono (unhide F5).size))
  clear f6 F5 X5 d0 d1 d2 d3 d4
  go_wp2_with fail
  refine (works7_any P w6).mono ?_
  rintro e w7 ⟨rfl, f7⟩
  have F7 := hide ((unhide F6).trans (f7.mono (unhide F6).size))
  clear f7 F6
  go_wp2
  go_ret
  exact ⟨rfl, unhide F7⟩

end Go.Proofs.Ytjpimcglojneaaa
