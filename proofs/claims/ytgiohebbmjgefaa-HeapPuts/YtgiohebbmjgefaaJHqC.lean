/- Layer 15: the walk of HeapChanges. -/
import Derived.Test.YtgiohebbmjgefaaJHqC0
import Derived.Test.YtgiohebbmjgefaaJHqC1
import Derived.Test.YtgiohebbmjgefaaJHpO

namespace Go.Proofs.Ytgiohebbmjgefaa
open Go.RowKit
set_option linter.unusedVariables false
set_option maxRecDepth 100000

/-- What is told: nothing, where there is an answer. -/
def errO {α : Type} : Option α → Int
  | none => 150
  | some _ => 0
theorem setPost.both {w : World} {l : List Ob} {n k : Int} {v : Vl} {e : Ending} {w' : World} (h : setPost w l n k v e w') : Below w.heap.size w w' ∧ ∃ s rs, HIn w' s rs ∧ rs.map ObR.o = (setH l n k v).getD [] ∧ e = .returned (.tuple #[s.v, .int .i64 (errO (setH l n k v))]) := by
  obtain ⟨f, ⟨h1, h2⟩ | ⟨l', s, rs, h1, h2, h3, h4⟩⟩ := h
  · exact ⟨f, ⟨none, 0, 0⟩, [], hIn_nil _, by rw [h1]; rfl, by rw [h1]; exact h2⟩
  · exact ⟨f, s, rs, h2, by rw [h1, h3]; rfl, by rw [h1]; exact h4⟩
theorem freePost.both {w : World} {l : List Ob} {n : Int} {e : Ending} {w' : World} (h : freePost w l n e w') : Below w.heap.size w w' ∧ ∃ s rs, HIn w' s rs ∧ rs.map ObR.o = (freeH l n).getD [] ∧ e = .returned (.tuple #[s.v, .int .i64 (errO (freeH l n))]) := by
  obtain ⟨f, ⟨h1, h2⟩ | ⟨l', s, rs, h1, h2, h3, h4⟩⟩ := h
  · exact ⟨f, ⟨none, 0, 0⟩, [], hIn_nil _, by rw [h1]; rfl, by rw [h1]; exact h2⟩
  · exact ⟨f, s, rs, h2, by rw [h1, h3]; rfl, by rw [h1]; exact h4⟩
theorem light_in {l : List Ob} (h : lightB l = true) : l.length ≤ 5000 ∧ wordsH l ≤ 70000 := by
  unfold lightB at h
  simpa using h
set_option maxHeartbeats 6400000 in
theorem changes_walk15 (w : World) (a : Option Addr) (m c : Nat) (rs : List ObR) (h : HIn w ⟨a, m, c⟩ rs) (n k : Int) (hn : fitI n) (hk : fitI k) (v : Vl) :
    Calls Try.prog 5 #[.slice a m c, .int .i64 n, .int .i64 k, .agg #[.int .i64 v.kind, .int .i64 v.n]] w fun e w' => e = .returned (.bool true) ∧ Below w.heap.size w w' := by
  obtain ⟨vk, vn⟩ := v
  simp only
  obtain ⟨w0, hw0⟩ : ∃ w0, w0 = w.alloc (.cells #[.int .i64 vk, .int .i64 vn] 33) := ⟨_, rfl⟩
  have f0 : Below w.heap.size w w0 := by rw [hw0]; exact (Below.refl _ _).alloc (Nat.le_refl _) _
  have KX : Hid (∀ W, Below w0.heap.size w0 W → W.cell? ⟨w.heap.size, 0, none⟩ = some (.int .i64 vk) ∧ W.cell? ⟨w.heap.size, 1, none⟩ = some (.int .i64 vn)) := by rw [hw0]; exact stands2 w _ _
  have KH : Hid (∀ W, Below w0.heap.size w0 W → HIn W ⟨a, m, c⟩ rs) := fun W f => (h.below f0).below f
  have KB : Hid (∀ {W W2}, Below w0.heap.size w0 W → Below W.heap.size W W2 → Below w0.heap.size w0 W2) := fun f g => f.trans (g.mono f.size)
  have HEND : Hid (∀ W, Below w0.heap.size w0 W → Below w.heap.size w W) := fun W f => f0.trans (f.mono f0.size)
  have HF := hide (And.intro hn hk)
  have HL := hide (light_any w0 ⟨a, m, c⟩ rs (h.below f0))
  have hln := h.ls.1
  have HWE := hide hw0
  simp only [Sl.v] at HL hln
  clear h hn hk f0 hw0
  go_enter Try.func5, Try.ntmps5
  go_wp2_with (rw [← unhide HWE])
  refine (unhide HL).mono ?_
  rintro e w1 ⟨rfl, f1⟩
  have H1 := hide f1
  clear f1 HL HWE
  cases hlb : lightB (rs.map ObR.o) with
  | false =>
    go_wp2
    go_ret
    exact ⟨rfl, unhide HEND _ (unhide H1)⟩
  | true =>
  obtain ⟨hl1, hl2⟩ := light_in hlb
  rw [List.length_map] at hl1
  have HC := hide (copy_any w1 ⟨a, m, c⟩ rs (unhide KH _ (unhide H1)))
  simp only [Sl.v] at HC
  go_wp2_with fail
  refine (unhide HC).mono ?_
  rintro e w2 ⟨g, c2, dn, rfl, hown, hd, f2⟩
  have H2 := hide (unhide KB (unhide H1) f2)
  have hdl : dn.length = rs.length := by simpa using congrArg List.length hd
  have hi2 : HIn w2 ⟨some ⟨g, 0, none⟩, m, c2⟩ dn := HOwn.hin (s := ⟨some ⟨g, 0, none⟩, m, c2⟩) hown (by omega) (by rw [hd]; omega)
  have KO : Hid (∀ W, Below w2.heap.size w2 W → HIn W ⟨some ⟨g, 0, none⟩, m, c2⟩ dn) := fun W f => hi2.below f
  have HD := hide hd
  have HS1 := hide (set_any w2 ⟨some ⟨g, 0, none⟩, m, c2⟩ dn hi2 n k (unhide HF).1 (unhide HF).2 ⟨vk, vn⟩)
  rw [hd] at HS1
  simp only [Sl.v] at HS1
  obtain ⟨p0, p1⟩ := unhide KX _ (unhide H2)
  clear f2 hown hd hdl hi2 HC
  go_wp2_with fail
  clear p0 p1
  refine (unhide HS1).mono ?_
  rintro e w3 hp
  obtain ⟨f3, s3, rs3, hi3, hm3, rfl⟩ := hp.both
  obtain ⟨a3, n3, c3⟩ := s3
  have H3 := hide (unhide KB (unhide H2) f3)
  have F23 := hide f3
  have KI3 : Hid (∀ W, Below w3.heap.size w3 W → HIn W ⟨a3, n3, c3⟩ rs3) := fun W f => hi3.below f
  have HM3 := hide hm3
  have HS2 := hide (rset_any w3 ⟨a, m, c⟩ rs (unhide KH _ (unhide H3)) n k (unhide HF).1 (unhide HF).2 ⟨vk, vn⟩)
  simp only [Sl.v] at HS2 ⊢
  obtain ⟨p0, p1⟩ := unhide KX _ (unhide H3)
  clear f3 hp hi3 hm3 HS1
  go_wp2_with fail
  clear p0 p1
  refine (unhide HS2).mono ?_
  rintro e w4 hp
  obtain ⟨f4, s4, rs4, hi4, hm4, rfl⟩ := hp.both
  obtain ⟨a4, n4, c4⟩ := s4
  have H4 := hide (unhide KB (unhide H3) f4)
  have F24 := hide ((unhide F23).trans (f4.mono (unhide F23).size))
  have F34 := hide f4
  have KI4 : Hid (∀ W, Below w4.heap.size w4 W → HIn W ⟨a4, n4, c4⟩ rs4) := fun W f => hi4.below f
  have HE34 := hide ((unhide HM3).trans hm4.symm)
  have HS3 := hide (free_any w4 ⟨some ⟨g, 0, none⟩, m, c2⟩ dn (unhide KO _ (unhide F24)) n (unhide HF).1)
  rw [unhide HD] at HS3
  simp only [Sl.v] at HS3 ⊢
  clear f4 hp hi4 hm4 HS2 F23 HM3
  go_wp2_with fail
  refine (unhide HS3).mono ?_
  rintro e w5 hp
  obtain ⟨f5, s5, rs5, hi5, hm5, rfl⟩ := hp.both
  obtain ⟨a5, n5, c5⟩ := s5
  have H5 := hide (unhide KB (unhide H4) f5)
  have F25 := hide ((unhide F24).trans (f5.mono (unhide F24).size))
  have F35 := hide ((unhide F34).trans (f5.mono (unhide F34).size))
  have F45 := hide f5
  have KI5 : Hid (∀ W, Below w5.heap.size w5 W → HIn W ⟨a5, n5, c5⟩ rs5) := fun W f => hi5.below f
  have HM5 := hide hm5
  have HS4 := hide (rfree_any w5 ⟨a, m, c⟩ rs (unhide KH _ (unhide H5)) n (unhide HF).1)
  simp only [Sl.v] at HS4 ⊢
  clear f5 hp hi5 hm5 HS3 F24 F34
  go_wp2_with fail
  refine (unhide HS4).mono ?_
  rintro e w6 hp
  obtain ⟨f6, s6, rs6, hi6, hm6, rfl⟩ := hp.both
  obtain ⟨a6, n6, c6⟩ := s6
  have H6 := hide (unhide KB (unhide H5) f6)
  have F26 := hide ((unhide F25).trans (f6.mono (unhide F25).size))
  have f36 := (unhide F35).trans (f6.mono (unhide F35).size)
  have f46 := (unhide F45).trans (f6.mono (unhide F45).size)
  have F56 := hide f6
  have KI6 : Hid (∀ W, Below w6.heap.size w6 W → HIn W ⟨a6, n6, c6⟩ rs6) := fun W f => hi6.below f
  have HE56 := hide ((unhide HM5).trans hm6.symm)
  have HQ1 := hide (SameObjects_same w6 ⟨a3, n3, c3⟩ ⟨a4, n4, c4⟩ rs3 rs4 (unhide KI3 _ f36) (unhide KI4 _ f46) (unhide HE34))
  simp only [Sl.v] at HQ1 ⊢
  generalize errO (setH (rs.map ObR.o) n k ⟨vk, vn⟩) = E1
  generalize errO (freeH (rs.map ObR.o) n) = E2
  clear f6 hp hi6 hm6 HS4 f36 f46 F25 F35 F45 HM5
  go_wp2_with fail
  refine (unhide HQ1).mono ?_
  rintro e w7 ⟨rfl, f7⟩
  have H7 := hide (unhide KB (unhide H6) f7)
  have F27 := hide ((unhide F26).trans (f7.mono (unhide F26).size))
  have f57 := (unhide F56).trans (f7.mono (unhide F56).size)
  have HQ2 := hide (SameObjects_same w7 ⟨a5, n5, c5⟩ ⟨a6, n6, c6⟩ rs5 rs6 (unhide KI5 _ f57) (unhide KI6 _ f7) (unhide HE56))
  simp only [Sl.v] at HQ2
  clear f7 f57 HQ1 F26 F56
  go_wp2_with fail
  refine (unhide HQ2).mono ?_
  rintro e w8 ⟨rfl, f8⟩
  have H8 := hide (unhide KB (unhide H7) f8)
  have f28 := (unhide F27).trans (f8.mono (unhide F27).size)
  have HQ3 := hide (SameObjects_same w8 ⟨some ⟨g, 0, none⟩, m, c2⟩ ⟨a, m, c⟩ dn rs (unhide KO _ f28) (unhide KH _ (unhide H8)) (unhide HD))
  simp only [Sl.v] at HQ3
  clear f8 f28 HQ2 F27
  go_wp2_with fail
  refine (unhide HQ3).mono ?_
  rintro e w9 ⟨rfl, f9⟩
  have H9 := hide (unhide KB (unhide H8) f9)
  have HWK := hide (works15_any w9)
  clear f9 HQ3
  go_wp2_with fail
  refine (unhide HWK).mono ?_
  rintro e w10 ⟨rfl, f10⟩
  have H10 := hide (unhide HEND _ (unhide KB (unhide H9) f10))
  clear f10 HWK
  go_wp2
  go_ret
  exact ⟨rfl, unhide H10⟩
end Go.Proofs.Ytgiohebbmjgefaa
