/- Layer 16: what is reached, what is swept, the canon, as plain values. -/
import Derived.Test.YtnnanlniffjnkaaJY0

namespace Go.Proofs.Ytnnanlniffjnkaa
open Go.RowKit
set_option linter.unusedVariables false

/-- Is there an object of that number that is not free? -/
def liveN (l : List Ob) (n : Nat) : Bool := decide (1 ≤ n) && ((l[n - 1]?).map fun o => !freeO o).getD false
/-- The object to which a value leads; 0: none. -/
def leadsN (l : List Ob) (v : Vl) : Nat := if v.kind = 4 ∧ 1 ≤ v.n ∧ liveN l v.n.toNat = true then v.n.toNat else 0
def stepQ (l : List Ob) (q : List Nat) (v : Vl) : List Nat := if leadsN l v ≠ 0 ∧ leadsN l v ∉ q then q ++ [leadsN l v] else q
def moreQ (l : List Ob) (q : List Nat) (vs : List Vl) : List Nat := vs.foldl (stepQ l) q
def wordsOf (l : List Ob) (n : Nat) : List Vl := ((l[n - 1]?).map Ob.ws).getD []
def tyOf (l : List Ob) (n : Nat) : List UInt8 := ((l[n - 1]?).map Ob.ty).getD []
/-- What is reached behind k rounds. -/
def rounds (l : List Ob) (roots : List Vl) : Nat → List Nat
  | 0 => moreQ l [] roots
  | k + 1 => match (rounds l roots k)[k]? with
    | none => rounds l roots k
    | some n => moreQ l (rounds l roots k) (wordsOf l n)
def reachH (l : List Ob) (roots : List Vl) : List Nat := rounds l roots l.length
/-- Reached objects: each once, each there. -/
def InQ (l : List Ob) (q : List Nat) : Prop := q.Nodup ∧ ∀ n ∈ q, liveN l n = true
theorem liveN_le {l : List Ob} {n : Nat} (h : liveN l n = true) : 1 ≤ n ∧ n ≤ l.length ∧ ∃ o, l[n - 1]? = some o ∧ freeO o = false := by
  unfold liveN at h
  rw [Bool.and_eq_true] at h
  obtain ⟨h1, h2⟩ := h
  have h1 : 1 ≤ n := by simpa using h1
  cases ho : l[n - 1]? with
  | none => rw [ho] at h2; cases h2
  | some o =>
    rw [ho] at h2
    obtain ⟨hl, _⟩ := List.getElem?_eq_some_iff.1 ho
    exact ⟨h1, by omega, o, rfl, by simpa using h2⟩
theorem leads_live {l : List Ob} {v : Vl} (h : leadsN l v ≠ 0) : liveN l (leadsN l v) = true ∧ v.kind = 4 ∧ v.n = (leadsN l v : Int) := by
  unfold leadsN at h ⊢
  split at h
  next c =>
    rw [if_pos c]
    obtain ⟨c1, c2, c3⟩ := c
    exact ⟨c3, c1, by omega⟩
  next => exact absurd rfl h
theorem leads_of {l : List Ob} {v : Vl} {n : Nat} (hk : v.kind = 4) (hn : v.n = (n : Int)) (hl : liveN l n = true) : leadsN l v = n := by
  have h1 := (liveN_le hl).1
  unfold leadsN
  rw [hn]
  rw [if_pos ⟨hk, by omega, by simpa using hl⟩]
  simp
theorem nodup_le : ∀ (q : List Nat) (N : Nat), q.Nodup → (∀ n ∈ q, 1 ≤ n ∧ n ≤ N) → q.length ≤ N
  | q, 0, _, h => by
    cases q with
    | nil => simp
    | cons x q => have := h x (List.mem_cons_self ..); omega
  | q, N + 1, hd, h => by
    have h1 := nodup_le (q.erase (N + 1)) N (hd.erase _) (fun n hn => by
      have hm := (List.Nodup.mem_erase_iff hd).1 hn
      have := h n hm.2
      have := hm.1
      omega)
    have h2 : q.length ≤ (q.erase (N + 1)).length + 1 := by
      rw [List.length_erase]
      split <;> omega
    omega
theorem InQ.le {l : List Ob} {q : List Nat} (h : InQ l q) : q.length ≤ l.length := nodup_le q _ h.1 fun n hn => ⟨(liveN_le (h.2 n hn)).1, (liveN_le (h.2 n hn)).2.1⟩
theorem InQ.nil (l : List Ob) : InQ l [] := ⟨List.nodup_nil, by simp⟩
theorem InQ.zero {l : List Ob} {q : List Nat} (h : InQ l q) : 0 ∉ q := fun h0 => by have := (liveN_le (h.2 0 h0)).1; omega
theorem InQ.step {l : List Ob} {q : List Nat} (h : InQ l q) (v : Vl) : InQ l (stepQ l q v) := by
  unfold stepQ
  split
  next c =>
    refine ⟨?_, fun n hn => ?_⟩
    · rw [List.nodup_append]
      refine ⟨h.1, by simp, fun a ha b hb => ?_⟩
      simp at hb
      subst hb
      exact fun e => c.2 (e ▸ ha)
    · rcases List.mem_append.1 hn with h1 | h1
      · exact h.2 n h1
      · simp at h1
        subst h1
        exact (leads_live c.1).1
  next => exact h
theorem InQ.more {l : List Ob} : ∀ (vs : List Vl) {q : List Nat}, InQ l q → InQ l (moreQ l q vs)
  | [], q, h => h
  | v :: vs, q, h => InQ.more vs (h.step v)
theorem stepQ_pre (l : List Ob) (q : List Nat) (v : Vl) : q <+: stepQ l q v := by
  unfold stepQ
  split
  · exact List.prefix_append ..
  · exact List.prefix_rfl
theorem moreQ_pre (l : List Ob) : ∀ (vs : List Vl) (q : List Nat), q <+: moreQ l q vs
  | [], q => List.prefix_rfl
  | v :: vs, q => (stepQ_pre l q v).trans (moreQ_pre l vs _)
theorem mem_stepQ {l : List Ob} {q : List Nat} {v : Vl} {n : Nat} : n ∈ stepQ l q v ↔ n ∈ q ∨ (n ≠ 0 ∧ leadsN l v = n) := by
  unfold stepQ
  split
  next c =>
    rw [List.mem_append, List.mem_singleton]
    constructor
    · rintro (h | h)
      · exact .inl h
      · exact .inr ⟨fun e => c.1 (by omega), h.symm⟩
    · rintro (h | h)
      · exact .inl h
      · exact .inr h.2.symm
  next c =>
    constructor
    · exact .inl
    · rintro (h | ⟨h1, rfl⟩)
      · exact h
      · exact Classical.not_not.1 fun e => c ⟨h1, e⟩
theorem mem_moreQ {l : List Ob} {n : Nat} : ∀ {vs : List Vl} {q : List Nat}, n ∈ moreQ l q vs ↔ n ∈ q ∨ (n ≠ 0 ∧ ∃ v ∈ vs, leadsN l v = n)
  | [], q => by simp [moreQ]
  | v :: vs, q => by
    have ih := mem_moreQ (l := l) (n := n) (vs := vs) (q := stepQ l q v)
    rw [show moreQ l q (v :: vs) = moreQ l (stepQ l q v) vs from rfl, ih, mem_stepQ]
    constructor
    · rintro ((h | ⟨h1, h2⟩) | ⟨h1, u, hu, h2⟩)
      · exact .inl h
      · exact .inr ⟨h1, v, List.mem_cons_self .., h2⟩
      · exact .inr ⟨h1, u, List.mem_cons_of_mem _ hu, h2⟩
    · rintro (h | ⟨h1, u, hu, h2⟩)
      · exact .inl (.inl h)
      · rcases List.mem_cons.1 hu with rfl | hu
        · exact .inl (.inr ⟨h1, h2⟩)
        · exact .inr ⟨h1, u, hu, h2⟩
theorem moreQ_take {l : List Ob} {q : List Nat} {vs : List Vl} {k : Nat} {v : Vl} (h : vs[k]? = some v) : moreQ l q (vs.take (k + 1)) = stepQ l (moreQ l q (vs.take k)) v := by
  unfold moreQ
  rw [List.take_add_one, h, List.foldl_append]
  rfl
theorem rounds_in (l : List Ob) (roots : List Vl) : ∀ k, InQ l (rounds l roots k)
  | 0 => InQ.more _ (InQ.nil l)
  | k + 1 => by
    have := rounds_in l roots k
    simp only [rounds]
    split
    · exact this
    · exact InQ.more _ this
theorem rounds_next {l : List Ob} {roots : List Vl} {k n : Nat} (h : (rounds l roots k)[k]? = some n) : rounds l roots (k + 1) = moreQ l (rounds l roots k) (wordsOf l n) := by
  simp only [rounds, h]
theorem rounds_pre1 (l : List Ob) (roots : List Vl) (k : Nat) : rounds l roots k <+: rounds l roots (k + 1) := by
  simp only [rounds]
  split
  · exact List.prefix_rfl
  · exact moreQ_pre ..
theorem rounds_pre (l : List Ob) (roots : List Vl) (k : Nat) : ∀ j, rounds l roots k <+: rounds l roots (k + j)
  | 0 => List.prefix_rfl
  | j + 1 => (rounds_pre l roots k j).trans (rounds_pre1 l roots (k + j))
theorem rounds_stay {l : List Ob} {roots : List Vl} {k : Nat} (h : (rounds l roots k).length ≤ k) : ∀ j, rounds l roots (k + j) = rounds l roots k
  | 0 => rfl
  | j + 1 => by
    have ih := rounds_stay h j
    show rounds l roots (k + j + 1) = _
    simp only [rounds]
    rw [ih, List.getElem?_eq_none (by omega)]
theorem rounds_end {l : List Ob} {roots : List Vl} {k : Nat} (h : (rounds l roots k).length ≤ k) : rounds l roots k = reachH l roots := by
  unfold reachH
  by_cases hk : k ≤ l.length
  · have := rounds_stay h (l.length - k)
    rw [show k + (l.length - k) = l.length by omega] at this
    exact this.symm
  · have := rounds_stay (rounds_in l roots l.length).le (k - l.length)
    rwa [show l.length + (k - l.length) = k by omega] at this
theorem reach_in (l : List Ob) (roots : List Vl) : InQ l (reachH l roots) := rounds_in ..
theorem rounds_reach (l : List Ob) (roots : List Vl) (k : Nat) : rounds l roots k <+: reachH l roots := by
  by_cases h : (rounds l roots k).length ≤ k
  · rw [rounds_end h]
    exact List.prefix_rfl
  · have h1 := (rounds_in l roots k).le
    have := rounds_pre l roots k (l.length - k)
    rwa [show k + (l.length - k) = l.length by omega] at this
theorem reach_at {l : List Ob} {roots : List Vl} {i n : Nat} (h : (reachH l roots)[i]? = some n) : (rounds l roots i)[i]? = some n := by
  obtain ⟨hi, hn⟩ := List.getElem?_eq_some_iff.1 h
  by_cases h1 : (rounds l roots i).length ≤ i
  · rw [rounds_end h1]
    exact h
  · have h2 : i < (rounds l roots i).length := by omega
    have := (rounds_reach l roots i).getElem h2
    rw [List.getElem?_eq_getElem h2, this, hn]
/-- 16.3: a reached object leads only to reached ones. -/
theorem reach_closed {l : List Ob} {roots : List Vl} {n : Nat} (h : n ∈ reachH l roots) {v : Vl} (hv : v ∈ wordsOf l n) (h0 : leadsN l v ≠ 0) : leadsN l v ∈ reachH l roots := by
  obtain ⟨i, hi⟩ := List.mem_iff_getElem?.1 h
  have h1 := rounds_next (reach_at hi)
  refine (rounds_reach l roots (i + 1)).subset ?_
  rw [h1]
  exact mem_moreQ.2 (.inr ⟨h0, v, hv, rfl⟩)
theorem reach_roots {l : List Ob} {roots : List Vl} {v : Vl} (hv : v ∈ roots) (h0 : leadsN l v ≠ 0) : leadsN l v ∈ reachH l roots := (rounds_reach l roots 0).subset (mem_moreQ.2 (.inr ⟨h0, v, hv, rfl⟩))

/-- The new number. -/
def posQ (q : List Nat) (n : Nat) : Nat := if n ∈ q then q.idxOf n + 1 else 0
def anewV (l : List Ob) (q : List Nat) (v : Vl) : Vl := if v.kind = 4 then ⟨4, (posQ q (leadsN l v) : Int)⟩ else v
def anewO (l : List Ob) (q : List Nat) (n : Nat) : Ob := ⟨tyOf l n, (wordsOf l n).map (anewV l q)⟩
def canonO (l : List Ob) (roots : List Vl) : List Ob := (reachH l roots).map (anewO l (reachH l roots))
def canonV (l : List Ob) (roots : List Vl) : List Vl := roots.map (anewV l (reachH l roots))

/-- Numbers changed: what a value is in the other heap. -/
structure Turned (l l' : List Ob) (ρ : Nat → Nat) (σ : Vl → Vl) (v : Vl) : Prop where
  kind : (σ v).kind = v.kind
  leads : leadsN l' (σ v) = if leadsN l v = 0 then 0 else ρ (leadsN l v)
  else_ : v.kind ≠ 4 → σ v = v
/-- One heap is another one but for its numbers, as far as it is reached. -/
structure Alike (l : List Ob) (roots : List Vl) (l' : List Ob) (ρ : Nat → Nat) (σ : Vl → Vl) : Prop where
  inj : ∀ a ∈ reachH l roots, ∀ b ∈ reachH l roots, ρ a = ρ b → a = b
  pos : ∀ a ∈ reachH l roots, ρ a ≠ 0
  ofRoots : ∀ v ∈ roots, Turned l l' ρ σ v
  words : ∀ n ∈ reachH l roots, ∀ v ∈ wordsOf l n, Turned l l' ρ σ v
  same : ∀ n ∈ reachH l roots, wordsOf l' (ρ n) = (wordsOf l n).map σ ∧ tyOf l' (ρ n) = tyOf l n
theorem mem_map_inj {R q : List Nat} {ρ : Nat → Nat} (hinj : ∀ a ∈ R, ∀ b ∈ R, ρ a = ρ b → a = b) (hq : ∀ n ∈ q, n ∈ R) {n : Nat} (hn : n ∈ R) : ρ n ∈ q.map ρ ↔ n ∈ q := by
  rw [List.mem_map]
  constructor
  · rintro ⟨a, ha, he⟩
    exact hinj a (hq a ha) n hn he ▸ ha
  · exact fun h => ⟨n, h, rfl⟩
theorem Alike.step {l : List Ob} {roots : List Vl} {l' : List Ob} {ρ : Nat → Nat} {σ : Vl → Vl} (h : Alike l roots l' ρ σ) {q : List Nat} (hq : ∀ n ∈ q, n ∈ reachH l roots) {v : Vl} (ht : Turned l l' ρ σ v) (hv : leadsN l v ≠ 0 → leadsN l v ∈ reachH l roots) : stepQ l' (q.map ρ) (σ v) = (stepQ l q v).map ρ := by
  unfold stepQ
  rw [ht.leads]
  by_cases h0 : leadsN l v = 0
  · simp [h0]
  · have hm := hv h0
    rw [if_neg h0]
    have hp := h.pos _ hm
    have hM := mem_map_inj h.inj hq hm
    by_cases hi : leadsN l v ∈ q
    · rw [if_neg fun c => c.2 (hM.2 hi), if_neg fun c => c.2 hi]
    · rw [if_pos ⟨hp, fun c => hi (hM.1 c)⟩, if_pos ⟨h0, hi⟩, List.map_append]
      rfl
theorem Alike.more {l : List Ob} {roots : List Vl} {l' : List Ob} {ρ : Nat → Nat} {σ : Vl → Vl} (h : Alike l roots l' ρ σ) : ∀ (vs : List Vl) {q : List Nat}, (∀ n ∈ q, n ∈ reachH l roots) → (∀ v ∈ vs, Turned l l' ρ σ v) → (∀ v ∈ vs, leadsN l v ≠ 0 → leadsN l v ∈ reachH l roots) → moreQ l' (q.map ρ) (vs.map σ) = (moreQ l q vs).map ρ
  | [], q, _, _, _ => rfl
  | v :: vs, q, hq, ht, hv => by
    have hs := h.step hq (ht v (List.mem_cons_self ..)) (hv v (List.mem_cons_self ..))
    have hq' : ∀ n ∈ stepQ l q v, n ∈ reachH l roots := fun n hn => by
      rcases mem_stepQ.1 hn with h1 | ⟨h1, h2⟩
      · exact hq n h1
      · subst h2
        exact hv v (List.mem_cons_self ..) h1
    show moreQ l' (stepQ l' (q.map ρ) (σ v)) (vs.map σ) = (moreQ l (stepQ l q v) vs).map ρ
    rw [hs]
    exact Alike.more h vs hq' (fun u hu => ht u (List.mem_cons_of_mem _ hu)) (fun u hu => hv u (List.mem_cons_of_mem _ hu))
theorem Alike.rounds {l : List Ob} {roots : List Vl} {l' : List Ob} {ρ : Nat → Nat} {σ : Vl → Vl} (h : Alike l roots l' ρ σ) : ∀ k, rounds l' (roots.map σ) k = (rounds l roots k).map ρ
  | 0 => h.more roots (q := []) (by simp) h.ofRoots (fun v hv h0 => reach_roots hv h0)
  | k + 1 => by
    have ih := Alike.rounds h k
    cases hk : (Go.Proofs.Ytnnanlniffjnkaa.rounds l roots k)[k]? with
    | none =>
      have h2 : ((Go.Proofs.Ytnnanlniffjnkaa.rounds l roots k).map ρ)[k]? = none := by rw [List.getElem?_map, hk]; rfl
      show (match (Go.Proofs.Ytnnanlniffjnkaa.rounds l' (roots.map σ) k)[k]? with | none => Go.Proofs.Ytnnanlniffjnkaa.rounds l' (roots.map σ) k | some n => moreQ l' (Go.Proofs.Ytnnanlniffjnkaa.rounds l' (roots.map σ) k) (wordsOf l' n)) = (match (Go.Proofs.Ytnnanlniffjnkaa.rounds l roots k)[k]? with | none => Go.Proofs.Ytnnanlniffjnkaa.rounds l roots k | some n => moreQ l (Go.Proofs.Ytnnanlniffjnkaa.rounds l roots k) (wordsOf l n)).map ρ
      rw [ih, h2, hk]
    | some n =>
      have hn : n ∈ reachH l roots := (rounds_reach l roots k).subset (List.mem_of_getElem? hk)
      rw [rounds_next hk, rounds_next (n := ρ n) (by rw [ih, List.getElem?_map, hk]; rfl), ih, (h.same n hn).1]
      exact h.more _ (fun m hm => (rounds_reach l roots k).subset hm) (h.words n hn) (fun v hv h0 => reach_closed hn hv h0)
theorem Alike.reach {l : List Ob} {roots : List Vl} {l' : List Ob} {ρ : Nat → Nat} {σ : Vl → Vl} (h : Alike l roots l' ρ σ) : reachH l' (roots.map σ) = (reachH l roots).map ρ := by
  have e1 : Go.Proofs.Ytnnanlniffjnkaa.rounds l roots (l.length + l'.length) = reachH l roots := rounds_stay (rounds_in l roots l.length).le l'.length
  have e2 : Go.Proofs.Ytnnanlniffjnkaa.rounds l' (roots.map σ) (l'.length + l.length) = reachH l' (roots.map σ) := rounds_stay (rounds_in l' (roots.map σ) l'.length).le l.length
  rw [← e2, h.rounds, show l'.length + l.length = l.length + l'.length by omega, e1]
theorem idxOf_map {R : List Nat} {ρ : Nat → Nat} : ∀ {q : List Nat}, (∀ a ∈ R, ∀ b ∈ R, ρ a = ρ b → a = b) → (∀ n ∈ q, n ∈ R) → ∀ {n : Nat}, n ∈ R → (q.map ρ).idxOf (ρ n) = q.idxOf n
  | [], _, _, _, _ => rfl
  | x :: q, hi, hq, n, hn => by
    have ih := idxOf_map hi (fun m hm => hq m (List.mem_cons_of_mem _ hm)) hn
    rw [List.map_cons, List.idxOf_cons, List.idxOf_cons, ih]
    by_cases e : x = n
    · subst e; simp
    · have e2 : ρ x ≠ ρ n := fun e2 => e (hi x (hq x (List.mem_cons_self ..)) n hn e2)
      have b1 : (x == n) = false := beq_false_of_ne e
      have b2 : (ρ x == ρ n) = false := beq_false_of_ne e2
      rw [b1, b2]
theorem Alike.anew {l : List Ob} {roots : List Vl} {l' : List Ob} {ρ : Nat → Nat} {σ : Vl → Vl} (h : Alike l roots l' ρ σ) {v : Vl} (ht : Turned l l' ρ σ v) (hv : leadsN l v ≠ 0 → leadsN l v ∈ reachH l roots) : anewV l' (reachH l' (roots.map σ)) (σ v) = anewV l (reachH l roots) v := by
  unfold anewV
  rw [ht.kind]
  by_cases hk : v.kind = 4
  · rw [if_pos hk, if_pos hk, ht.leads, h.reach]
    by_cases h0 : leadsN l v = 0
    · have z1 : 0 ∉ (reachH l roots).map ρ := fun e => by
        obtain ⟨a, ha, he⟩ := List.mem_map.1 e
        exact h.pos a ha he
      rw [if_pos h0, h0]
      unfold posQ
      rw [if_neg z1, if_neg (reach_in l roots).zero]
    · have hm := hv h0
      rw [if_neg h0]
      unfold posQ
      rw [if_pos hm, if_pos ((mem_map_inj h.inj (fun _ h => h) hm).2 hm), idxOf_map h.inj (fun _ h => h) hm]
  · rw [if_neg hk, if_neg hk, ht.else_ hk]
theorem Alike.canon {l : List Ob} {roots : List Vl} {l' : List Ob} {ρ : Nat → Nat} {σ : Vl → Vl} (h : Alike l roots l' ρ σ) : canonO l' (roots.map σ) = canonO l roots ∧ canonV l' (roots.map σ) = canonV l roots := by
  constructor
  · unfold canonO
    rw [show (reachH l' (roots.map σ)).map (anewO l' (reachH l' (roots.map σ))) = ((reachH l roots).map ρ).map (anewO l' (reachH l' (roots.map σ))) by rw [← h.reach], List.map_map]
    refine List.map_congr_left fun n hn => ?_
    have hs := h.same n hn
    show anewO l' _ (ρ n) = anewO l _ n
    unfold anewO
    rw [hs.1, hs.2, List.map_map]
    congr 1
    exact List.map_congr_left fun v hv => h.anew (h.words n hn v hv) (fun h0 => reach_closed hn hv h0)
  · unfold canonV
    rw [List.map_map]
    exact List.map_congr_left fun v hv => h.anew (h.ofRoots v hv) (fun h0 => reach_roots hv h0)
end Go.Proofs.Ytnnanlniffjnkaa
