/- Layer 16: a heap whose numbers are turned round, as plain values. -/
import Derived.Test.YtnnanlniffjnkaaJUrE

namespace Go.Proofs.Ytnnanlniffjnkaa
open Go.RowKit
set_option linter.unusedVariables false

theorem mod_two {a n : Nat} (hn : 0 < n) (h : a < 2 * n) : a % n = if a < n then a else a - n := by
  split
  next h1 => exact Nat.mod_eq_of_lt h1
  next h1 => rw [Nat.mod_eq_sub_mod (by omega), Nat.mod_eq_of_lt (by omega)]
/-- Where member i goes to, and where j came from. -/
def goTo (n k i : Nat) : Nat := (i + k) % n
def cameFrom (n k j : Nat) : Nat := (j + (n - k)) % n
theorem goTo_lt {n k i : Nat} (hn : 0 < n) : goTo n k i < n := Nat.mod_lt _ hn
theorem cameFrom_lt {n k j : Nat} (hn : 0 < n) : cameFrom n k j < n := Nat.mod_lt _ hn
theorem came_went {n k i : Nat} (hk : k < n) (hi : i < n) : cameFrom n k (goTo n k i) = i := by
  unfold cameFrom goTo
  rw [mod_two (a := i + k) (by omega) (by omega)]
  split
  · rw [mod_two (by omega) (by omega)]; split <;> omega
  · rw [mod_two (by omega) (by omega)]; split <;> omega
theorem went_came {n k j : Nat} (hk : k < n) (hj : j < n) : goTo n k (cameFrom n k j) = j := by
  unfold cameFrom goTo
  rw [mod_two (a := j + (n - k)) (by omega) (by omega)]
  split
  · rw [mod_two (by omega) (by omega)]; split <;> omega
  · rw [mod_two (by omega) (by omega)]; split <;> omega
def numV (n k : Nat) (v : Vl) : Vl := if v.kind = 4 ∧ 1 ≤ v.n ∧ v.n ≤ (n : Int) then ⟨4, (goTo n k (v.n.toNat - 1) : Int) + 1⟩ else v
def turnO (l : List Ob) (k i : Nat) : Ob := ⟨tyOf l (i + 1), (wordsOf l (i + 1)).map (numV l.length k)⟩
def turnK (l : List Ob) (k c : Nat) : List Ob := (List.range l.length).map fun j => if cameFrom l.length k j < c then turnO l k (cameFrom l.length k j) else zeroO
theorem turnK_len (l : List Ob) (k c : Nat) : (turnK l k c).length = l.length := by simp [turnK]
theorem turnK_zero (l : List Ob) (k : Nat) : turnK l k 0 = List.replicate l.length zeroO := by
  apply List.ext_getElem?
  intro i
  unfold turnK
  rw [List.getElem?_map, List.getElem?_replicate]
  by_cases h : i < l.length
  · rw [List.getElem?_range h]; simp [h]
  · rw [List.getElem?_eq_none (by simp; omega)]; simp [h]
theorem turnK_next {l : List Ob} {k c : Nat} (hk : k < l.length) (hc : c < l.length) : turnK l k (c + 1) = (turnK l k c).set (goTo l.length k c) (turnO l k c) := by
  apply List.ext_getElem?
  intro j
  rw [List.getElem?_set, turnK_len]
  unfold turnK
  rw [List.getElem?_map, List.getElem?_map]
  by_cases hj : j < l.length
  · rw [List.getElem?_range hj]
    by_cases e : goTo l.length k c = j
    · subst e
      rw [if_pos rfl, if_pos hj]
      simp only [Option.map_some, came_went hk hc]
      rw [if_pos (Nat.lt_succ_self c)]
    · rw [if_neg e]
      have h1 : cameFrom l.length k j ≠ c := fun h => e (by rw [← h, went_came hk hj])
      have h2 : (cameFrom l.length k j < c + 1) = (cameFrom l.length k j < c) := by apply propext; omega
      simp only [Option.map_some, h2]
  · rw [List.getElem?_eq_none (by simp; omega)]
    by_cases e : goTo l.length k c = j
    · have := goTo_lt (n := l.length) (k := k) (i := c) (by omega)
      omega
    · rw [if_neg e]
      rfl
def turnM (l : List Ob) (k : Nat) : List Ob := turnK l k l.length
theorem turnM_at {l : List Ob} {k j : Nat} (hj : j < l.length) : (turnM l k)[j]? = some (turnO l k (cameFrom l.length k j)) := by
  unfold turnM turnK
  rw [List.getElem?_map, List.getElem?_range hj, Option.map_some, if_pos (cameFrom_lt (by omega))]
/-- All are live. -/
def allL (l : List Ob) : Prop := ∀ n, 1 ≤ n → n ≤ l.length → liveN l n = true
section
variable {l : List Ob} {k : Nat}
theorem all_leads (ha : allL l) (v : Vl) : leadsN l v = if v.kind = 4 ∧ 1 ≤ v.n ∧ v.n ≤ (l.length : Int) then v.n.toNat else 0 := by
  by_cases h : v.kind = 4 ∧ 1 ≤ v.n ∧ v.n ≤ (l.length : Int)
  · rw [if_pos h]
    exact leads_of h.1 (by omega) (ha _ (by omega) (by omega))
  · rw [if_neg h]
    exact leads_bad h
theorem turn_len : (turnM l k).length = l.length := turnK_len ..
theorem turn_all (ha : allL l) : allL (turnM l k) := fun n h1 h2 => by
  rw [turn_len] at h2
  have hc := cameFrom_lt (n := l.length) (k := k) (j := n - 1) (by omega)
  have hl := ha (cameFrom l.length k (n - 1) + 1) (by omega) (by omega)
  have := (freeW_live hl (o := turnO l k (cameFrom l.length k (n - 1))) rfl).1
  unfold liveN
  rw [turnM_at (by omega)]
  simp [h1, this]
def rhoN (n k a : Nat) : Nat := goTo n k (a - 1) + 1
theorem turn_turned (ha : allL l) (hk : k < l.length) (v : Vl) : Turned l (turnM l k) (rhoN l.length k) (numV l.length k) v := by
  have hm := turn_all (k := k) ha
  by_cases h : v.kind = 4 ∧ 1 ≤ v.n ∧ v.n ≤ (l.length : Int)
  · have e : numV l.length k v = ⟨4, (goTo l.length k (v.n.toNat - 1) : Int) + 1⟩ := by unfold numV; rw [if_pos h]
    have hg := goTo_lt (n := l.length) (k := k) (i := v.n.toNat - 1) (by omega)
    refine ⟨by rw [e, h.1], ?_, fun c => absurd h.1 c⟩
    rw [e, all_leads hm, all_leads ha, if_pos h, turn_len, if_pos ⟨rfl, by simp only; omega, by simp only; omega⟩, if_neg (by omega)]
    unfold rhoN
    simp only
    omega
  · have e : numV l.length k v = v := by unfold numV; rw [if_neg h]
    refine ⟨by rw [e], ?_, fun _ => e⟩
    rw [e, all_leads hm, all_leads ha, turn_len, if_neg h, if_pos rfl]
theorem turn_same (hk : k < l.length) {n : Nat} (h1 : 1 ≤ n) (h2 : n ≤ l.length) : wordsOf (turnM l k) (rhoN l.length k n) = (wordsOf l n).map (numV l.length k) ∧ tyOf (turnM l k) (rhoN l.length k n) = tyOf l n := by
  have hg := goTo_lt (n := l.length) (k := k) (i := n - 1) (by omega)
  have ha := turnM_at (l := l) (k := k) hg
  rw [came_went hk (by omega)] at ha
  have e : rhoN l.length k n - 1 = goTo l.length k (n - 1) := rfl
  have e2 : n - 1 + 1 = n := by omega
  constructor
  · rw [show wordsOf (turnM l k) (rhoN l.length k n) = ((turnM l k)[rhoN l.length k n - 1]?.map Ob.ws).getD [] from rfl, e, ha]
    show (wordsOf l (n - 1 + 1)).map _ = _
    rw [e2]
  · rw [show tyOf (turnM l k) (rhoN l.length k n) = ((turnM l k)[rhoN l.length k n - 1]?.map Ob.ty).getD [] from rfl, e, ha]
    show tyOf l (n - 1 + 1) = _
    rw [e2]
theorem turn_alike (ha : allL l) (hk : k < l.length) (roots : List Vl) : Alike l roots (turnM l k) (rhoN l.length k) (numV l.length k) where
  inj := fun a hA b hB h => by
    obtain ⟨a1, a2, _⟩ := liveN_le ((reach_in l roots).2 a hA)
    obtain ⟨b1, b2, _⟩ := liveN_le ((reach_in l roots).2 b hB)
    unfold rhoN at h
    have h1 := congrArg (cameFrom l.length k) (Nat.succ.inj h)
    rw [came_went hk (by omega), came_went hk (by omega)] at h1
    omega
  pos := fun a _ => Nat.succ_ne_zero _
  ofRoots := fun v _ => turn_turned ha hk v
  words := fun n _ v _ => turn_turned ha hk v
  same := fun n hn => by
    obtain ⟨a1, a2, _⟩ := liveN_le ((reach_in l roots).2 n hn)
    exact turn_same hk a1 a2
theorem turn_mem {o : Ob} (h : o ∈ turnM l k) : ∃ i, i < l.length ∧ o = turnO l k i := by
  obtain ⟨j, hj⟩ := List.mem_iff_getElem?.1 h
  have hjl := (List.getElem?_eq_some_iff.1 hj).1
  rw [turn_len] at hjl
  rw [turnM_at hjl] at hj
  injection hj with hj
  exact ⟨_, cameFrom_lt (by omega), hj.symm⟩
theorem turn_words (hk : k < l.length) : wordsH (turnM l k) ≤ wordsH l := by
  have h1 : ∀ L : List Nat, (∀ j ∈ L, j < l.length) → wordsH (L.map fun j => if cameFrom l.length k j < l.length then turnO l k (cameFrom l.length k j) else zeroO) = ((L.map fun j => cameFrom l.length k j + 1).map fun n => (wordsOf l n).length).sum := by
    intro L
    induction L with
    | nil => intro _; rfl
    | cons x L ih =>
      intro h
      simp only [List.map_cons, wordsH, List.sum_cons]
      rw [ih (fun j hj => h j (List.mem_cons_of_mem _ hj)), if_pos (cameFrom_lt (by omega))]
      simp [turnO]
  unfold turnM turnK
  rw [h1 _ (fun j hj => List.mem_range.1 hj)]
  refine sum_nodup l _ ?_ (fun n hn => ?_)
  · refine List.pairwise_map.2 (List.Pairwise.imp_of_mem ?_ List.nodup_range)
    intro a b ha hb hab he
    have h2 := congrArg (goTo l.length k) (Nat.succ.inj he)
    rw [went_came hk (List.mem_range.1 ha), went_came hk (List.mem_range.1 hb)] at h2
    exact hab h2
  · obtain ⟨j, _, rfl⟩ := List.mem_map.1 hn
    omega
theorem turn_right (ha : allL l) (hk : k < l.length) (h : checkE l = 0) : checkE (turnM l k) = 0 := by
  obtain ⟨h1, h2⟩ := check_fit h
  have g2 := turn_words hk
  have live : ∀ o ∈ turnM l k, freeO o = false ∧ freeW o = false := fun o ho => by
    obtain ⟨i, hi, rfl⟩ := turn_mem ho
    exact freeW_live (ha (i + 1) (by omega) (by omega)) rfl
  refine checkE_right.2 (right_of (by rw [turn_len]; omega) (by omega) ?_ fun o ho => (live o ho).2)
  unfold endsH
  cases hl : (turnM l k).getLast? with
  | none => rfl
  | some o => exact (live o (List.mem_of_getLast? hl)).1
theorem turn_sameP (ha : allL l) (hk : k < l.length) (h : checkE l = 0) (roots : List Vl) : SameP l roots (turnM l k) (roots.map (numV l.length k)) := by
  have hc := (turn_alike ha hk roots).canon
  refine ⟨?_, hc.1.symm, hc.2.symm⟩
  unfold sameE
  rw [if_neg (fun c => c h), turn_right ha hk h]
theorem num_fit {n : Nat} (hn : n ≤ 100000) (hn0 : 0 < n) {v : Vl} (h : fitI v.n) : fitI (numV n k v).n := by
  unfold numV
  split
  · have := goTo_lt (n := n) (k := k) (i := v.n.toNat - 1) hn0
    unfold fitI
    simp only
    omega
  · exact h
end
/-- Where so many are live as there are, all are. -/
theorem all_live {l : List Ob} (h : (liveH l).length = l.length) : allL l := by
  have h1 := live_count16 l l.length (Nat.le_refl _)
  rw [List.take_of_length_le (Nat.le_refl _)] at h1
  have h2 : ((List.range l.length).filter (fun i => liveN l (i + 1))).length = (List.range l.length).length := by
    rw [List.length_range, ← h1]
    exact h
  have h3 := List.length_filter_eq_length_iff.1 h2
  intro n hn1 hn2
  have := h3 (n - 1) (List.mem_range.2 (by omega))
  rwa [show n - 1 + 1 = n by omega] at this
theorem turn_fit {rs dn : List ObR} {k : Nat} (hn : rs.length ≤ 100000) (hn0 : 0 < rs.length) (h : ∀ r ∈ rs, VFit r.ws) (hs : dn.map ObR.o = turnM (rs.map ObR.o) k) : ∀ r ∈ dn, VFit r.ws := obs_fit (fun o ho => by
  rw [hs] at ho
  obtain ⟨i, _, rfl⟩ := turn_mem ho
  intro v hv
  simp only [turnO] at hv
  obtain ⟨u, hu, rfl⟩ := List.mem_map.1 hv
  exact num_fit (by rw [List.length_map]; exact hn) (by rw [List.length_map]; exact hn0) (words_fit h _ u hu))
end Go.Proofs.Ytnnanlniffjnkaa
