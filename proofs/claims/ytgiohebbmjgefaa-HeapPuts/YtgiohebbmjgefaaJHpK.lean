/- Layer 15, the landed code: Set. -/
import Derived.Test.YtgiohebbmjgefaaJHpI
import Derived.Test.YtgiohebbmjgefaaJH3

namespace Go.Proofs.Ytgiohebbmjgefaa
open Go.RowKit
set_option linter.unusedVariables false
set_option maxRecDepth 100000

def setPost (w : World) (l : List Ob) (n k : Int) (v : Vl) (e : Ending) (w' : World) : Prop :=
  Below w.heap.size w w' ∧ ((setH l n k v = none ∧ e = .returned (.tuple #[.slice none 0 0, .int .i64 150])) ∨ ∃ l' s rs, setH l n k v = some l' ∧ HIn w' s rs ∧ rs.map ObR.o = l' ∧ e = .returned (.tuple #[s.v, .int .i64 0]))
theorem set_flat {dn : List ObR} {j : Nat} {r : ObR} (hr : dn[j]? = some r) (ws : List Vl) : (dn.set j ⟨r.ty, r.s, ws⟩).flatMap obc = dn.flatMap obc := by
  have hj := (List.getElem?_eq_some_iff.1 hr).1
  have el : dn.set j ⟨r.ty, r.s, ws⟩ = dn.take j ++ ⟨r.ty, r.s, ws⟩ :: dn.drop (j + 1) := List.set_eq_take_append_cons_drop.trans (if_pos hj)
  have hsp : dn = dn.take j ++ (r :: dn.drop (j + 1)) := by
    rw [← (List.getElem?_eq_some_iff.1 hr).2, ← List.drop_eq_getElem_cons hj, List.take_append_drop]
  rw [el]
  conv => rhs; rw [hsp]
  rw [List.flatMap_append, List.flatMap_append, List.flatMap_cons, List.flatMap_cons]
  rfl
/-- A word of an object of one's own is written over. -/
theorem HOwn.word {w : World} {B g j k n c : Nat} {v : Value} {dn : List ObR} {ty : List UInt8} {ws : List Vl} (h : HOwn w B v dn) (hr : dn[j]? = some ⟨ty, ⟨some ⟨g, 0, none⟩, n, c⟩, ws⟩) (hk : k < ws.length) (x : Vl) : HOwn (w.setCells g (k * 2) (vlc x)) B v (dn.set j ⟨ty, ⟨some ⟨g, 0, none⟩, n, c⟩, ws.set k x⟩) := by
  have hj := (List.getElem?_eq_some_iff.1 hr).1
  have hm := List.mem_of_getElem? hr
  have ho := h.each _ hm
  simp only [Sl.v] at ho
  have hwn : ws.length = n := by obtain ⟨_, _, e', _⟩ := ho.form; injection e' with _ e2 _; exact e2.symm
  obtain ⟨g', cur, eg, hB, hh, _, _⟩ := ho.blkR rkV.len (by omega)
  injection eg with eg
  injection eg with eg
  subst eg
  refine ⟨?_, fun r hrm => ?_, ?_⟩
  · have h1 : Orw obc 29 2 (w.setCells g (k * 2) (vlc x)) B v dn := h.row.keep fun q X _ hX => heap_cells_other g _ _ _ _ (fun e => by
      rw [e, hh] at hX
      injection hX with hX
      injection hX with _ hX
      cases hX)
    unfold Orw at h1 ⊢
    rw [List.length_set, set_flat hr]
    exact h1
  · obtain ⟨i, hi⟩ := List.mem_iff_getElem?.1 hrm
    rw [List.getElem?_set] at hi
    split at hi
    · injection hi with hi
      subst hi
      exact Orw.setR rkV.len ho (by omega) x
    · rename_i hne
      have hri := List.mem_of_getElem? hi
      refine (h.each r hri).below fun b hb => heap_cells_other g _ _ _ _ (fun e => ?_)
      subst e
      have hil := (List.getElem?_eq_some_iff.1 hi).1
      have ei := (List.getElem?_eq_some_iff.1 hi).2
      have ej := (List.getElem?_eq_some_iff.1 hr).2
      have ap := List.pairwise_iff_getElem.1 h.apart
      rcases Nat.lt_or_ge i j with hlt | hge
      · have := ap i j hil hj hlt b (by rw [ei]; exact hb)
        rw [ej] at this
        exact this rfl
      · have := ap j i hj hil (by omega) b (by rw [ej]; rfl)
        rw [ei] at this
        exact this hb
  · rw [List.pairwise_iff_getElem]
    intro i q hi hq hiq b hbi hbq
    have ap := List.pairwise_iff_getElem.1 h.apart
    rw [List.length_set] at hi hq
    have same : ∀ i (hi : i < (dn.set j ⟨ty, ⟨some ⟨g, 0, none⟩, n, c⟩, ws.set k x⟩).length), (dn.set j ⟨ty, ⟨some ⟨g, 0, none⟩, n, c⟩, ws.set k x⟩)[i].s = (dn[i]'(by rw [List.length_set] at hi; exact hi)).s := fun i hi => by
      rw [List.getElem_set]
      split
      · rename_i e
        subst e
        rw [(List.getElem?_eq_some_iff.1 hr).2]
      · rfl
    rw [same] at hbi hbq
    exact ap i q hi hq hiq b hbi hbq
theorem setH_none {l : List Ob} {n k : Int} {v : Vl} (h : wordH l n k = none) : setH l n k v = none := by
  unfold setH
  rw [h]
  rfl
theorem setH_kind {l : List Ob} {n k : Int} {u v : Vl} (h : wordH l n k = some u) (hk : ¬ u.kind = v.kind) : setH l n k v = none := by
  unfold setH
  rw [h]
  simp [hk]
theorem wordH_in {rs : List ObR} {n k : Int} {u : Vl} (h : wordH (rs.map ObR.o) n k = some u) : checkH (rs.map ObR.o) = true ∧ 1 ≤ n ∧ n ≤ (rs.length : Int) ∧ 0 ≤ k ∧ ∃ o, (rs.map ObR.o)[(n - 1).toNat]? = some o ∧ freeO o = false ∧ o.ws[k.toNat]? = some u := by
  unfold wordH getH at h
  split at h
  · rename_i hc
    simp only [List.length_map] at hc
    refine ⟨hc.1, hc.2.1, hc.2.2, ?_⟩
    cases ho : (rs.map ObR.o)[(n - 1).toNat]? with
    | none => rw [ho] at h; cases h
    | some o =>
      rw [ho] at h
      simp only [Option.bind_some] at h
      cases hf : freeO o with
      | true => simp [hf] at h
      | false =>
        simp only [hf, Bool.false_eq_true, if_false, Option.bind_some] at h
        split at h
        · rename_i h0
          exact ⟨h0, o, rfl, hf, h⟩
        · cases h
  · cases h
theorem setH_some {rs : List ObR} {n k : Int} {u v : Vl} {o : Ob} (h : wordH (rs.map ObR.o) n k = some u) (hk : u.kind = v.kind) (ho : (rs.map ObR.o)[(n - 1).toNat]? = some o) : setH (rs.map ObR.o) n k v = some ((rs.map ObR.o).set (n - 1).toNat (setOb o k.toNat v)) := by
  unfold setH
  rw [h]
  simp only [Option.bind_some, hk, if_true, ho, Option.map_some]
end Go.Proofs.Ytgiohebbmjgefaa
