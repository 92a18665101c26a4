/- Layer 15: what was set is there, and set back it is as it was (15.6), as plain values. -/
import Derived.Test.YtnnanlniffjnkaaJY3

namespace Go.Proofs.Ytnnanlniffjnkaa
open Go.RowKit
set_option linter.unusedVariables false
set_option maxRecDepth 100000

/-- All that a heap's judgment looks at. -/
def shO (o : Ob) : Bool × Nat := (freeO o, o.ws.length)
theorem wordsH_sh : ∀ l : List Ob, wordsH l = ((l.map shO).map Prod.snd).sum
  | [] => rfl
  | o :: l => by simp [wordsH, wordsH_sh l, shO]
theorem endsH_sh (l : List Ob) : endsH l = ((((l.map shO).map Prod.fst).getLast?).getD false) := by
  unfold endsH
  rw [List.map_map, List.getLast?_map]
  rfl
theorem all_sh (l : List Ob) : (l.all fun o => !freeW o) = (l.map shO).all fun p => !(p.1 && decide (0 < p.2)) := by
  rw [List.all_map]
  rfl
theorem checkH_shape {l l' : List Ob} (h : l.map shO = l'.map shO) : checkH l = checkH l' := by
  have hl : l.length = l'.length := by simpa using congrArg List.length h
  unfold checkH
  rw [hl, wordsH_sh l, wordsH_sh l', endsH_sh l, endsH_sh l', all_sh l, all_sh l', h]
theorem set_shape {l : List Ob} {j : Nat} {o o' : Ob} (ho : l[j]? = some o) (hs : shO o' = shO o) : (l.set j o').map shO = l.map shO := by
  apply List.ext_getElem?
  intro i
  rw [List.map_set, List.getElem?_set]
  split
  · rename_i e
    subst e
    have hj := (List.getElem?_eq_some_iff.1 ho).1
    rw [if_pos (by rw [List.length_map]; exact hj), List.getElem?_map, ho, hs]
    rfl
  · rfl
theorem wordH_inL {l : List Ob} {n k : Int} {u : Vl} (h : wordH l n k = some u) : checkH l = true ∧ 1 ≤ n ∧ n ≤ (l.length : Int) ∧ 0 ≤ k ∧ ∃ o, l[(n - 1).toNat]? = some o ∧ freeO o = false ∧ o.ws[k.toNat]? = some u := by
  unfold wordH getH at h
  split at h
  · rename_i hc
    refine ⟨hc.1, hc.2.1, hc.2.2, ?_⟩
    cases ho : l[(n - 1).toNat]? with
    | none => rw [ho] at h; cases h
    | some o =>
      rw [ho] at h
      simp only [Option.bind_some] at h
      cases hf : freeO o with
      | true => simp [hf] at h
      | false =>
        simp only [hf, Bool.false_eq_true, if_false, Option.bind_some] at h
        split at h
        · rename_i h0
          exact ⟨h0, o, rfl, hf, h⟩
        · cases h
  · cases h
theorem wordH_of {l : List Ob} {n k : Int} {u : Vl} {o : Ob} (hc : checkH l = true) (h1 : 1 ≤ n) (h2 : n ≤ (l.length : Int)) (h3 : 0 ≤ k) (ho : l[(n - 1).toNat]? = some o) (hf : freeO o = false) (hu : o.ws[k.toNat]? = some u) : wordH l n k = some u := by
  unfold wordH getH
  rw [if_pos ⟨hc, h1, h2⟩, ho]
  simp only [Option.bind_some, hf, Bool.false_eq_true, if_false, if_pos h3]
  exact hu
theorem sets_pure {l : List Ob} {n k : Int} {u v : Vl} (h : wordH l n k = some u) (hk : u.kind = v.kind) : ∃ l', setH l n k v = some l' ∧ wordH l' n k = some v ∧ setH l' n k u = some l := by
  obtain ⟨hc, h1, h2, h3, o, ho, hf, hu⟩ := wordH_inL h
  have hq := (List.getElem?_eq_some_iff.1 hu).1
  have hj := (List.getElem?_eq_some_iff.1 ho).1
  have e1 : setH l n k v = some (l.set (n - 1).toNat (setOb o k.toNat v)) := by
    unfold setH
    rw [h]
    simp only [Option.bind_some, hk, if_true, ho, Option.map_some]
  have hc2 : checkH (l.set (n - 1).toNat (setOb o k.toNat v)) = true := by
    rw [checkH_shape (set_shape ho (by simp [shO, setOb, freeO])), hc]
  have ho2 : (l.set (n - 1).toNat (setOb o k.toNat v))[(n - 1).toNat]? = some (setOb o k.toNat v) := by
    rw [List.getElem?_set_self hj]
  have hw2 : wordH (l.set (n - 1).toNat (setOb o k.toNat v)) n k = some v := wordH_of hc2 h1 (by rw [List.length_set]; exact h2) h3 ho2 hf (by
    simp only [setOb]
    rw [List.getElem?_set_self hq])
  refine ⟨_, e1, hw2, ?_⟩
  unfold setH
  rw [hw2]
  simp only [Option.bind_some, hk, if_true, ho2, Option.map_some, List.set_set]
  simp only [setOb, List.set_set]
  congr 1
  have e2 : (⟨o.ty, o.ws.set k.toNat u⟩ : Ob) = o := by
    rw [(List.getElem?_eq_some_iff.1 hu).2.symm, List.set_getElem_self]
  rw [e2, (List.getElem?_eq_some_iff.1 ho).2.symm, List.set_getElem_self]
end Go.Proofs.Ytnnanlniffjnkaa
