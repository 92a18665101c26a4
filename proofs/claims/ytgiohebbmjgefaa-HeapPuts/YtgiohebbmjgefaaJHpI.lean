/- Layer 15: an object of a heap of one's own is written over; what Put answers. -/
import Derived.Test.YtgiohebbmjgefaaJHpH

namespace Go.Proofs.Ytgiohebbmjgefaa
open Go.RowKit
set_option linter.unusedVariables false
set_option maxRecDepth 100000

theorem wordsH_set : ∀ (l : List Ob) (k : Nat) (x : Ob), wordsH (l.set k x) ≤ wordsH l + x.ws.length
  | [], k, x => by simp [wordsH]
  | o :: l, 0, x => by simp only [List.set_cons_zero, wordsH]; omega
  | o :: l, k + 1, x => by
    have := wordsH_set l k x
    simp only [List.set_cons_succ, wordsH]
    omega
theorem firstH_le (f : Ob → Bool) (l : List Ob) : firstH f l ≤ l.length := List.findIdx_le_length
theorem wordsH_put (l : List Ob) (x : Ob) : wordsH (putLH l x) ≤ wordsH l + x.ws.length := by
  unfold putLH
  split
  · exact wordsH_set _ _ _
  · rw [wordsH_append]
    simp [wordsH]
theorem HOwn.set {w W : World} {B g m c k : Nat} {dn : List ObR} {y : ObR} (h : HOwn w B (.slice (some ⟨g, 0, none⟩) m c) dn) (f : Below w.heap.size w W) (hb : B ≤ w.heap.size) (hk : k < m) (ho : Orw vlc 33 2 W w.heap.size y.s.v y.ws) : HOwn (W.setCells g (k * 2) (obc y)) B (.slice (some ⟨g, 0, none⟩) m c) (dn.set k y) := by
  have r4 := orw_on h.row f
  obtain ⟨g', cur, eg, hB, hh, _, _⟩ := r4.blkR rkO.len (by omega)
  injection eg with eg
  injection eg with eg
  subst eg
  refine ⟨r4.setR rkO.len hk y, fun r hr => ?_, ?_⟩
  · rcases List.mem_or_eq_of_mem_set hr with h1 | rfl
    · exact keep_other (orw_on (h.each r h1) f) hh _ _
    · exact keep_other (ho.base hb) hh _ _
  · rw [List.pairwise_iff_getElem]
    intro i j hi hj hij b hbi hbj
    have ap := List.pairwise_iff_getElem.1 h.apart
    rw [List.length_set] at hi hj
    have old : ∀ q (hq : q < dn.length) b, dn[q].s.v.ownBlock = some b → b < w.heap.size := fun q hq b hb => ((h.each _ (List.getElem_mem hq)).lt b hb).2
    have new : ∀ b, y.s.v.ownBlock = some b → w.heap.size ≤ b := fun b hb => (ho.lt b hb).1
    rw [List.getElem_set] at hbi hbj
    split at hbi
    · split at hbj
      · omega
      · have q1 := new b hbi
        have q2 := old j hj b hbj
        omega
    · split at hbj
      · have q1 := new b hbj
        have q2 := old i hi b hbi
        omega
      · exact ap i j hi hj hij b hbi hbj
/-- What Put answers. -/
def putPost (w : World) (l : List Ob) (x : Ob) (e : Ending) (w' : World) : Prop :=
  Below w.heap.size w w' ∧ ((putEH l x ≠ 0 ∧ e = .returned (.tuple #[.slice none 0 0, .int .i64 0, .int .i64 (putEH l x)])) ∨ (putEH l x = 0 ∧ ∃ s rs, HIn w' s rs ∧ rs.map ObR.o = putLH l x ∧ e = .returned (.tuple #[s.v, .int .i64 ((firstH freeO l : Nat) + 1), .int .i64 0])))
theorem putEH_bad {l : List Ob} {x : Ob} (h : ¬ checkH l = true) : putEH l x = 150 := by
  unfold putEH
  rw [if_pos (by simpa using h)]
theorem putEH_arg {l : List Ob} {x : Ob} (h : checkH l = true) (hx : freeO x = true) : putEH l x = 2 := by
  unfold putEH
  rw [if_neg (by simp [h]), if_pos hx]
theorem putEH_full {l : List Ob} {x : Ob} (h : checkH l = true) (hx : ¬ freeO x = true) (hf : firstH freeO l = 4096 ∨ 65536 < wordsH l + x.ws.length) : putEH l x = 4 := by
  unfold putEH
  rw [if_neg (by simp [h]), if_neg hx, if_pos hf]
theorem putEH_ok {l : List Ob} {x : Ob} (h : checkH l = true) (hx : ¬ freeO x = true) (hf : ¬ (firstH freeO l = 4096 ∨ 65536 < wordsH l + x.ws.length)) : putEH l x = 0 := by
  unfold putEH
  rw [if_neg (by simp [h]), if_neg hx, if_neg hf]
theorem put_set (rs : List ObR) (x : Ob) (M : Nat) (hM : M = if firstH freeO (rs.map ObR.o) < rs.length then rs.length else rs.length + 1) : ((rs ++ List.replicate (M - rs.length) ob0).map ObR.o).set (firstH freeO (rs.map ObR.o)) x = putLH (rs.map ObR.o) x := by
  have hle := firstH_le freeO (rs.map ObR.o)
  rw [List.length_map] at hle
  unfold putLH
  rw [List.length_map]
  generalize firstH freeO (rs.map ObR.o) = F at *
  by_cases h : F < rs.length
  · rw [if_pos h] at hM ⊢
    subst hM
    simp
  · rw [if_neg h] at hM ⊢
    subst hM
    obtain rfl : F = rs.length := by omega
    rw [show rs.length + 1 - rs.length = 1 by omega, List.map_append, List.set_append_right _ _ (by rw [List.length_map]; exact Nat.le_refl _), List.length_map, Nat.sub_self]
    rfl
end Go.Proofs.Ytgiohebbmjgefaa
