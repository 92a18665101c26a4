/- What DiskWhole asks, of plain disks. -/
import Derived.Test.YtaflibnalhfenaaDkSureW
namespace Go.Proofs.Ytaflibnalhfenaa
open Go.RowKit
set_option linter.unusedVariables false

/-- What waits was stored: by one of the first k acts. -/
def Wt (l : List LAct) (k : Nat) (D : Dk) : Prop := ∀ (i : Nat) (s : Sec), D.secs[i]? = some s → ∀ x ∈ s.wait, ∃ (j : Nat) (a : LAct), j < k ∧ l[j]? = some a ∧ among a.at_ 4 = i ∧ x = allOf a.byte
theorem Wt.dry {l : List LAct} {D : Dk} (h : Dry D) : Wt l 0 D := fun i s hi x hx => by rw [h i s hi] at hx; cases hx
theorem sto_secs {D : Dk} {k : Nat} (h : Good D k) (i : Nat) (hi : i < 4) (x : List UInt8) : (D.sto i x).secs = D.secs.set i ((D.secs[i]'(by rw [h.four]; exact hi)).add x) := by
  have hil : i < D.secs.length := by rw [h.four]; exact hi
  unfold Dk.sto Dk.put
  rw [Dk.moved_secs, List.getD_eq_getElem?_getD, List.getElem?_eq_getElem hil]
  rfl
theorem sto_sures {D : Dk} {k : Nat} (h : Good D k) (i : Nat) (hi : i < 4) (x : List UInt8) : (D.sto i x).secs.map Sec.sure = D.secs.map Sec.sure := by
  have hil : i < D.secs.length := by rw [h.four]; exact hi
  rw [sto_secs h i hi x, List.map_set]
  have : Sec.sure (D.secs[i].add x) = (D.secs.map Sec.sure)[i]'(by simpa using hil) := by simp [Sec.add]
  rw [this, List.set_getElem_self]
theorem Wt.sto {l : List LAct} {k : Nat} {D : Dk} {n : Nat} (h : Wt l k D) (hG : Good D n) (a : LAct) (ha : l[k]? = some a) : Wt l (k + 1) (D.sto (among a.at_ 4) (allOf a.byte)) := by
  have hi := among_lt a.at_ 4 (by omega)
  have hil : among a.at_ 4 < D.secs.length := by rw [hG.four]; exact hi
  intro i s hs x hx
  rw [sto_secs hG _ hi, List.getElem?_set, if_pos hil] at hs
  split at hs
  · rename_i e
    have e2 := (Option.some.inj hs).symm
    subst e2
    simp only [Sec.add, List.mem_append, List.mem_singleton] at hx
    rcases hx with hx | hx
    · obtain ⟨j, b, h1, h2, h3, h4⟩ := h _ _ (List.getElem?_eq_getElem hil) x hx
      exact ⟨j, b, by omega, h2, by rw [h3]; exact e, h4⟩
    · exact ⟨k, a, by omega, ha, e, hx⟩
  · obtain ⟨j, b, h1, h2, h3, h4⟩ := h i s hs x hx
    exact ⟨j, b, by omega, h2, h3, h4⟩

/-- Is a value what was sure, or one of the values that the first k acts stored there? -/
def okB (V S : List UInt8) (l : List LAct) (at_ k : Nat) : Bool := decide (V = S) || (l.take k).any (fun a => decide (among a.at_ 4 = at_) && decide (V = allOf a.byte))
theorem okB_zero (V S : List UInt8) (l : List LAct) (at_ : Nat) : okB V S l at_ 0 = decide (V = S) := by simp [okB]
theorem okB_succ (V S : List UInt8) (l : List LAct) (at_ k : Nat) (a : LAct) (h : l[k]? = some a) : okB V S l at_ (k + 1) = (okB V S l at_ k || (decide (among a.at_ 4 = at_) && decide (V = allOf a.byte))) := by
  obtain ⟨hk, rfl⟩ := List.getElem?_eq_some_iff.1 h
  unfold okB
  rw [List.take_succ_eq_append_getElem hk, List.any_append]
  simp [Bool.or_assoc]
theorem okB_true {V S : List UInt8} {l : List LAct} {at_ k : Nat} (h : V = S ∨ ∃ (j : Nat) (a : LAct), j < k ∧ l[j]? = some a ∧ among a.at_ 4 = at_ ∧ V = allOf a.byte) : okB V S l at_ k = true := by
  unfold okB
  rcases h with h | ⟨j, a, h1, h2, h3, h4⟩
  · simp [h]
  · rw [Bool.or_eq_true]
    right
    rw [List.any_eq_true]
    refine ⟨a, List.mem_of_getElem? (i := j) (by rw [List.getElem?_take, if_pos h1]; exact h2), ?_⟩
    simp [h3, h4]

theorem flat_seg : ∀ (l : List (List UInt8)) (i : Nat), (∀ x ∈ l, x.length = 256) → (h : i < l.length) → ((l.flatten).drop (i * 256)).take 256 = l[i]
  | x :: l, 0, hl, _ => by
    have hx := hl x (by simp)
    simp only [List.flatten_cons, Nat.zero_mul, List.drop_zero, List.getElem_cons_zero]
    rw [← hx, List.take_left]
  | x :: l, i + 1, hl, h => by
    have hx := hl x (by simp)
    simp only [List.flatten_cons, List.getElem_cons_succ]
    have e : (i + 1) * 256 = x.length + i * 256 := by omega
    rw [e, List.drop_append, List.drop_eq_nil_of_le (by omega), List.nil_append, Nat.add_sub_cancel_left]
    exact flat_seg l i (fun y hy => hl y (by simp [hy])) (by simpa using h)

/-- Behind a crash: each sector is what was sure, or one of the values that were stored to it. -/
theorem whole_hit {D E : Dk} {l : List LAct} {k : Nat} {G : Nat → Sec → Nat → Prop} (hW : Wt l k D) (h : Part D G D.cached.length E) (i : Nat) (s : Sec) (hi : D.secs[i]? = some s) :
    ∃ V, E.secs[i]? = some ⟨V, []⟩ ∧ (V = s.sure ∨ ∃ (j : Nat) (a : LAct), j < k ∧ l[j]? = some a ∧ among a.at_ 4 = i ∧ V = allOf a.byte) := by
  obtain ⟨r, hr, _, hs⟩ := h.all i s hi
  refine ⟨s.pick r, hs, ?_⟩
  cases r with
  | zero => exact .inl rfl
  | succ m =>
    have hm : m < s.wait.length := hr
    have e : s.pick (m + 1) = s.wait[m] := by simp [Sec.pick, List.getD_eq_getElem?_getD, List.getElem?_eq_getElem hm]
    rw [e]
    exact .inr (hW i s hi _ (List.getElem_mem hm))

end Go.Proofs.Ytaflibnalhfenaa
