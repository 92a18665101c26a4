/- Layer 16: sweeping twice, the canon of a canon, as plain values. -/
import Derived.Test.YtnnanlniffjnkaaJUtA

namespace Go.Proofs.Ytnnanlniffjnkaa
open Go.RowKit
set_option linter.unusedVariables false

theorem checkE_right {l : List Ob} : checkE l = 0 ↔ checkH l = true := by
  unfold checkE
  by_cases h : checkH l = true <;> simp [h]
theorem right_of {l : List Ob} (h1 : l.length ≤ 4096) (h2 : wordsH l ≤ 65536) (h3 : endsH l = false) (h4 : ∀ o ∈ l, freeW o = false) : checkH l = true := by
  unfold checkH
  simp only [Bool.and_eq_true, decide_eq_true_eq, Bool.not_eq_true', List.all_eq_true]
  exact ⟨⟨⟨h1, h2⟩, h3⟩, fun o ho => h4 o ho⟩
theorem live_ob {l : List Ob} {n : Nat} (h : liveN l n = true) : ∃ o, l[n - 1]? = some o ∧ freeO o = false ∧ tyOf l n = o.ty ∧ wordsOf l n = o.ws := by
  obtain ⟨_, _, o, ho, hf⟩ := liveN_le h
  refine ⟨o, ho, hf, ?_, ?_⟩
  · unfold tyOf; rw [ho]; rfl
  · unfold wordsOf; rw [ho]; rfl
theorem freeW_live {l : List Ob} {n : Nat} (h : liveN l n = true) {o : Ob} (ht : o.ty = tyOf l n) : freeO o = false ∧ freeW o = false := by
  obtain ⟨o2, _, hf, e, _⟩ := live_ob h
  have h1 : freeO o = false := by
    unfold freeO at hf ⊢
    rw [ht, e]
    exact hf
  exact ⟨h1, by unfold freeW; rw [h1]; rfl⟩
section
variable {l : List Ob} {roots : List Vl}
theorem sweep_at {i : Nat} (h : i < maxQ (reachH l roots)) : (sweepL l roots)[i]? = some (if i + 1 ∈ reachH l roots then ⟨tyOf l (i + 1), wordsOf l (i + 1)⟩ else zeroO) := by
  unfold sweepL sweptL
  rw [List.getElem?_map, List.getElem?_range h]
  rfl
theorem sweep_live (n : Nat) : liveN (sweepL l roots) n = decide (n ∈ reachH l roots) := by
  have hq := reach_in l roots
  by_cases hm : n ∈ reachH l roots
  · have h1 := liveN_le (hq.2 n hm)
    have h2 := mem_maxQ hm
    have ha := sweep_at (l := l) (roots := roots) (i := n - 1) (by omega)
    rw [show n - 1 + 1 = n by omega, if_pos hm] at ha
    unfold liveN
    rw [ha, decide_eq_true hm]
    have := (freeW_live (hq.2 n hm) (o := ⟨tyOf l n, wordsOf l n⟩) rfl).1
    simp [h1.1, this]
  · rw [decide_eq_false hm]
    cases hb : liveN (sweepL l roots) n with
    | false => rfl
    | true =>
      obtain ⟨h1, h2, o, ho, hf⟩ := liveN_le hb
      have h3 : n - 1 < maxQ (reachH l roots) := by
        have := h2
        unfold sweepL at this
        rw [sweptL_len] at this
        omega
      rw [sweep_at h3, show n - 1 + 1 = n by omega, if_neg hm] at ho
      injection ho with ho
      rw [← ho] at hf
      cases hf
theorem sweep_same {n : Nat} (h : n ∈ reachH l roots) : wordsOf (sweepL l roots) n = wordsOf l n ∧ tyOf (sweepL l roots) n = tyOf l n := by
  have h1 := liveN_le ((reach_in l roots).2 n h)
  have h2 := mem_maxQ h
  have ha := sweep_at (l := l) (roots := roots) (i := n - 1) (by omega)
  rw [show n - 1 + 1 = n by omega, if_pos h] at ha
  constructor
  · rw [show wordsOf (sweepL l roots) n = _ from rfl]
    unfold wordsOf
    rw [ha]
    rfl
  · rw [show tyOf (sweepL l roots) n = _ from rfl]
    unfold tyOf
    rw [ha]
    rfl
theorem sweep_leads {v : Vl} (h : leadsN l v ≠ 0 → leadsN l v ∈ reachH l roots) : leadsN (sweepL l roots) v = leadsN l v := by
  by_cases h0 : leadsN l v = 0
  · rw [h0]
    refine Classical.not_not.1 (fun c => ?_)
    obtain ⟨g1, g2, g3⟩ := leads_live c
    rw [sweep_live] at g1
    have hm := of_decide_eq_true g1
    have := leads_of g2 g3 ((reach_in l roots).2 _ hm)
    omega
  · have hm := h h0
    obtain ⟨g1, g2, g3⟩ := leads_live h0
    exact leads_of g2 g3 (by rw [sweep_live]; exact decide_eq_true hm)
theorem sweep_alike : Alike l roots (sweepL l roots) id id where
  inj := fun a _ b _ h => h
  pos := fun a ha h => (reach_in l roots).zero (by rw [show a = 0 from h] at ha; exact ha)
  ofRoots := fun v hv => ⟨rfl, by rw [show id v = v from rfl, sweep_leads (fun h0 => reach_roots hv h0)]; split <;> simp_all, fun _ => rfl⟩
  words := fun n hn v hv => ⟨rfl, by rw [show id v = v from rfl, sweep_leads (fun h0 => reach_closed hn hv h0)]; split <;> simp_all, fun _ => rfl⟩
  same := fun n hn => ⟨by rw [show id n = n from rfl, (sweep_same hn).1]; simp, by rw [show id n = n from rfl, (sweep_same hn).2]⟩
theorem sweep_reach : reachH (sweepL l roots) roots = reachH l roots := by
  have := (sweep_alike (l := l) (roots := roots)).reach
  simpa using this
theorem sweep_canon : canonO (sweepL l roots) roots = canonO l roots ∧ canonV (sweepL l roots) roots = canonV l roots := by
  have := (sweep_alike (l := l) (roots := roots)).canon
  simpa using this
theorem sweep_mem {o : Ob} (h : o ∈ sweepL l roots) : o = zeroO ∨ ∃ n ∈ reachH l roots, o = ⟨tyOf l n, wordsOf l n⟩ := by
  unfold sweepL sweptL at h
  obtain ⟨i, _, he⟩ := List.mem_map.1 h
  by_cases hm : i + 1 ∈ reachH l roots
  · rw [if_pos hm] at he
    exact .inr ⟨_, hm, he.symm⟩
  · rw [if_neg hm] at he
    exact .inl he.symm
theorem sweep_right (h : checkE l = 0) : checkE (sweepL l roots) = 0 := by
  obtain ⟨h1, h2⟩ := check_fit h
  obtain ⟨g1, g2⟩ := sweepL_small l roots
  refine checkE_right.2 (right_of (by omega) (by omega) (swept_ends (reach_in l roots)) fun o ho => ?_)
  rcases sweep_mem ho with rfl | ⟨n, hn, rfl⟩
  · rfl
  · exact (freeW_live ((reach_in l roots).2 n hn) rfl).2
theorem sweep_sweep : sweepL (sweepL l roots) roots = sweepL l roots := by
  show sweptL (sweepL l roots) (reachH (sweepL l roots) roots) (maxQ (reachH (sweepL l roots) roots)) = sweepL l roots
  rw [sweep_reach]
  conv => rhs; unfold sweepL
  unfold sweptL
  refine List.map_congr_left (fun i hi => ?_)
  by_cases hm : i + 1 ∈ reachH l roots
  · rw [if_pos hm, if_pos hm, (sweep_same hm).1, (sweep_same hm).2]
  · rw [if_neg hm, if_neg hm]
theorem sweep_gone : goneN (sweepL l roots) roots = 0 := by
  rw [← gone_is, sweep_reach]
  have : goK (sweepL l roots) (reachH l roots) (sweepL l roots).length = 0 := by
    unfold goK
    rw [List.length_eq_zero_iff, List.filter_eq_nil_iff]
    intro i _ hd
    unfold deadB at hd
    rw [sweep_live] at hd
    simp at hd
  rw [this]
  rfl
theorem sweep_count : ((liveH (sweepL l roots)).length : Int) = ((reachH l roots).length : Int) := by
  have := sweep_gone (l := l) (roots := roots)
  unfold goneN at this
  rw [sweep_reach] at this
  omega
theorem pos_mem {q : List Nat} {n : Nat} (h : n ∈ q) : posQ q n = q.idxOf n + 1 ∧ q[posQ q n - 1]? = some n := by
  have e : posQ q n = q.idxOf n + 1 := by unfold posQ; rw [if_pos h]
  refine ⟨e, ?_⟩
  rw [e, Nat.add_sub_cancel]
  have hl := List.idxOf_lt_length_of_mem h
  rw [List.getElem?_eq_getElem hl, List.getElem_idxOf hl]
theorem canon_at {n : Nat} (h : n ∈ reachH l roots) : (canonO l roots)[posQ (reachH l roots) n - 1]? = some (anewO l (reachH l roots) n) := by
  unfold canonO
  rw [List.getElem?_map, (pos_mem h).2]
  rfl
theorem canon_live {n : Nat} (h : n ∈ reachH l roots) : liveN (canonO l roots) (posQ (reachH l roots) n) = true := by
  unfold liveN
  rw [canon_at h]
  have h1 := (pos_mem h).1
  have h2 := (freeW_live ((reach_in l roots).2 n h) (o := anewO l (reachH l roots) n) rfl).1
  simp [h2]
  omega
theorem canon_turned {v : Vl} (hv : leadsN l v ≠ 0 → leadsN l v ∈ reachH l roots) : Turned l (canonO l roots) (posQ (reachH l roots)) (anewV l (reachH l roots)) v := by
  by_cases hk : v.kind = 4
  · have e : anewV l (reachH l roots) v = ⟨4, (posQ (reachH l roots) (leadsN l v) : Int)⟩ := by unfold anewV; rw [if_pos hk]
    refine ⟨by rw [e, hk], ?_, fun h => absurd hk h⟩
    rw [e]
    by_cases h0 : leadsN l v = 0
    · rw [if_pos h0, h0, posQ_zero.2 (reach_in l roots).zero]
      unfold leadsN
      rw [if_neg (fun c => by have := c.2.1; simp at this)]
    · rw [if_neg h0]
      exact leads_of rfl rfl (canon_live (hv h0))
  · have e : anewV l (reachH l roots) v = v := by unfold anewV; rw [if_neg hk]
    have z : ∀ L : List Ob, leadsN L v = 0 := fun L => by unfold leadsN; rw [if_neg (fun c => hk c.1)]
    exact ⟨by rw [e], by rw [e, z, z, if_pos rfl], fun _ => e⟩
theorem canon_alike : Alike l roots (canonO l roots) (posQ (reachH l roots)) (anewV l (reachH l roots)) where
  inj := fun a ha b hb h => by
    have h1 := (pos_mem ha).2
    rw [h, (pos_mem hb).2] at h1
    injection h1 with h1
    exact h1.symm
  pos := fun a ha h => by rw [posQ_zero] at h; exact h ha
  ofRoots := fun v hv => canon_turned (fun h0 => reach_roots hv h0)
  words := fun n hn v hv => canon_turned (fun h0 => reach_closed hn hv h0)
  same := fun n hn => by
    have ha := canon_at hn
    constructor
    · rw [show wordsOf (canonO l roots) (posQ (reachH l roots) n) = _ from rfl]
      unfold wordsOf
      rw [ha]
      rfl
    · rw [show tyOf (canonO l roots) (posQ (reachH l roots) n) = _ from rfl]
      unfold tyOf
      rw [ha]
      rfl
theorem canon_canon : canonO (canonO l roots) (canonV l roots) = canonO l roots ∧ canonV (canonO l roots) (canonV l roots) = canonV l roots := (canon_alike (l := l) (roots := roots)).canon
theorem canon_mem {o : Ob} (h : o ∈ canonO l roots) : ∃ n ∈ reachH l roots, o = anewO l (reachH l roots) n := by
  unfold canonO at h
  obtain ⟨n, hn, he⟩ := List.mem_map.1 h
  exact ⟨n, hn, he.symm⟩
theorem canon_right (h : checkE l = 0) : checkE (canonO l roots) = 0 := by
  obtain ⟨h1, h2⟩ := check_fit h
  have g1 := canonO_len l roots
  have g2 := canonO_words l roots
  refine checkE_right.2 (right_of (by omega) (by omega) ?_ fun o ho => ?_)
  · unfold endsH
    cases hl : (canonO l roots).getLast? with
    | none => rfl
    | some o =>
      obtain ⟨n, hn, rfl⟩ := canon_mem (List.mem_of_getLast? hl)
      exact (freeW_live ((reach_in l roots).2 n hn) (o := anewO l (reachH l roots) n) rfl).1
  · obtain ⟨n, hn, rfl⟩ := canon_mem ho
    exact (freeW_live ((reach_in l roots).2 n hn) (o := anewO l (reachH l roots) n) rfl).2
theorem anew_fit {q : List Nat} (hq : q.length ≤ 1000000) {v : Vl} (h : fitI v.n) : fitI (anewV l q v).n := by
  unfold anewV
  split
  · have := posQ_le q (leadsN l v)
    unfold fitI
    simp only
    omega
  · exact h
theorem words_fit {rs : List ObR} (h : ∀ r ∈ rs, VFit r.ws) (n : Nat) : VFit (wordsOf (rs.map ObR.o) n) := by
  unfold wordsOf
  rw [List.getElem?_map]
  cases hr : rs[n - 1]? with
  | none => intro v hv; simp at hv
  | some r => exact h r (List.mem_of_getElem? hr)
end
theorem obs_fit {rs : List ObR} (h : ∀ o ∈ rs.map ObR.o, VFit o.ws) : ∀ r ∈ rs, VFit r.ws := fun r hr => h r.o (List.mem_map_of_mem hr)
theorem canon_fit {rs dn : List ObR} {roots : List Vl} (h : ∀ r ∈ rs, VFit r.ws) (hv : VFit roots) (hc : checkE (rs.map ObR.o) = 0) (hs : dn.map ObR.o = canonO (rs.map ObR.o) roots) : (∀ r ∈ dn, VFit r.ws) ∧ VFit (canonV (rs.map ObR.o) roots) := by
  have hq : (reachH (rs.map ObR.o) roots).length ≤ 1000000 := by
    have := (reach_in (rs.map ObR.o) roots).le
    have := (check_fit hc).1
    omega
  refine ⟨obs_fit (fun o ho => ?_), fun v hv2 => ?_⟩
  · rw [hs] at ho
    obtain ⟨n, _, rfl⟩ := canon_mem ho
    intro v hv2
    simp only [anewO] at hv2
    obtain ⟨u, hu, rfl⟩ := List.mem_map.1 hv2
    exact anew_fit hq (words_fit h n u hu)
  · unfold canonV at hv2
    obtain ⟨u, hu, rfl⟩ := List.mem_map.1 hv2
    exact anew_fit hq (hv u hu)
theorem sweep_fit {rs dn : List ObR} {roots : List Vl} (h : ∀ r ∈ rs, VFit r.ws) (hs : dn.map ObR.o = sweepL (rs.map ObR.o) roots) : ∀ r ∈ dn, VFit r.ws := obs_fit (fun o ho => by
  rw [hs] at ho
  rcases sweep_mem ho with rfl | ⟨n, _, rfl⟩
  · intro v hv; simp [zeroO] at hv
  · exact words_fit h n)
end Go.Proofs.Ytnnanlniffjnkaa
