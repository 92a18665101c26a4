/- Records in bytes, as lists: what is written is read, what is turned is none, what is cut is short. -/
import Derived.Test.YtnkmcndbbapeoaaDoorSmB
namespace Go.Proofs.YtnkmcndbbapeoaaDoor
set_option linter.unusedVariables false

structure Rec where
  epoch : Int
  data : List UInt8
def recOk (r : Rec) : Prop := 0 ≤ r.epoch ∧ r.epoch ≤ 4294967295 ∧ r.data.length ≤ 4096
def bodyL (r : Rec) : List UInt8 := be4 r.data.length ++ (be4 r.epoch.toNat ++ r.data)
def recL (r : Rec) : List UInt8 := sealL (bodyL r)
theorem be4_len (n : Nat) : (be4 n).length = 4 := rfl
theorem body_len (r : Rec) : (bodyL r).length = r.data.length + 8 := by simp [bodyL, be4_len]; omega
theorem rec_len (r : Rec) : (recL r).length = r.data.length + 12 := by rw [recL, seal_len, body_len]

/-- The number of the first four bytes. -/
def num (l : List UInt8) : Nat := (l.getD 0 0).toNat * 16777216 + (l.getD 1 0).toNat * 65536 + (l.getD 2 0).toNat * 256 + (l.getD 3 0).toNat
theorem num_be4 (n : Nat) (hn : n < W32) (t : List UInt8) : num (be4 n ++ t) = n := by
  have hn' : n < 4294967296 := hn
  simp [num, be4]
  omega
theorem num_take (l : List UInt8) (k : Nat) (hk : 4 ≤ k) : num (l.take k) = num l := by
  have e : ∀ i, i < 4 → (l.take k).getD i 0 = l.getD i 0 := fun i hi => by
    rw [List.getD_eq_getElem?_getD, List.getD_eq_getElem?_getD, List.getElem?_take, if_pos (by omega)]
  unfold num
  rw [e 0 (by omega), e 1 (by omega), e 2 (by omega), e 3 (by omega)]
theorem num_le (l : List UInt8) : num l < W32 := by
  have a := (l.getD 0 0).toNat_lt
  have b := (l.getD 1 0).toNat_lt
  have c := (l.getD 2 0).toNat_lt
  have d := (l.getD 3 0).toNat_lt
  show num l < 4294967296
  unfold num
  omega

/-- What First says: 0 where the bytes begin with a record's. -/
def firstE (l : List UInt8) : Int := if l.length < 8 then 7 else if 4096 < num l then 30 else if l.length < num l + 12 then 7 else if rightL (l.take (num l + 12)) = true then 0 else 30
def firstR (l : List UInt8) : Rec := ⟨(num (l.drop 4) : Int), (l.drop 8).take (num l)⟩

theorem rec_head (r : Rec) (t : List UInt8) : recL r ++ t = be4 r.data.length ++ (be4 r.epoch.toNat ++ (r.data ++ (be4 (onS 0 (bodyL r)) ++ t))) := by simp [recL, sealL, bodyL]
theorem num_rec (r : Rec) (h : recOk r) (t : List UInt8) : num (recL r ++ t) = r.data.length := by
  rw [rec_head]
  exact num_be4 _ (by have := h.2.2; show _ < 4294967296; omega) _
theorem first_rec (r : Rec) (h : recOk r) (t : List UInt8) : firstE (recL r ++ t) = 0 ∧ firstR (recL r ++ t) = r := by
  have hn := num_rec r h t
  have hl := rec_len r
  have h3 := h.2.2
  constructor
  · unfold firstE
    rw [hn, if_neg (by simp; omega), if_neg (by omega), if_neg (by simp; omega), ← hl, List.take_left, if_pos]
    exact right_seal _
  · unfold firstR
    rw [hn, rec_head]
    have e1 : (be4 r.data.length ++ (be4 r.epoch.toNat ++ (r.data ++ (be4 (onS 0 (bodyL r)) ++ t)))).drop 4 = be4 r.epoch.toNat ++ (r.data ++ (be4 (onS 0 (bodyL r)) ++ t)) := List.drop_left' (be4_len _)
    have e2 : (be4 r.data.length ++ (be4 r.epoch.toNat ++ (r.data ++ (be4 (onS 0 (bodyL r)) ++ t)))).drop 8 = r.data ++ (be4 (onS 0 (bodyL r)) ++ t) := by
      rw [show 8 = 4 + 4 from rfl, ← List.drop_drop, e1, List.drop_left' (be4_len _)]
    rw [e1, e2, num_be4 _ (by have := h.1; have := h.2.1; show _ < 4294967296; omega), List.take_left]
    have : ((r.epoch.toNat : Nat) : Int) = r.epoch := by have := h.1; omega
    rw [this]
/-- What is cut within a record ends within it. -/
theorem first_cut (r : Rec) (h : recOk r) (k : Nat) (hk : k < (recL r).length) : firstE ((recL r).take k) = 7 := by
  have hl := rec_len r
  unfold firstE
  by_cases h8 : k < 8
  · rw [if_pos (by simp; omega)]
  · have hn : num ((recL r).take k) = r.data.length := by
      rw [num_take _ _ (by omega)]
      have := num_rec r h []
      rwa [List.append_nil] at this
    have h3 := h.2.2
    rw [if_neg (by simp; omega), hn, if_neg (by omega), if_pos (by simp; omega)]
/-- What is turned behind its number is none. -/
theorem first_turned (r : Rec) (h : recOk r) (k : Nat) (h4 : 4 ≤ k) (hk : k < (recL r).length) (x : UInt8) (hx : x ≠ 0) : firstE (turn1 (recL r) k x) = 30 := by
  have hl := rec_len r
  have hl' := turn1_len (recL r) k x
  obtain ⟨a, ha⟩ : ∃ a, (recL r)[k]? = some a := ⟨_, List.getElem?_eq_getElem hk⟩
  have hs := turn1_set ha x
  have hn : num (turn1 (recL r) k x) = r.data.length := by
    have h0 := num_rec r h []
    rw [List.append_nil] at h0
    rw [← hs, ← num_take _ 4 (Nat.le_refl _), List.take_set_of_le h4, num_take _ 4 (Nat.le_refl _)]
    exact h0
  have h3 := h.2.2
  unfold firstE
  rw [hn, if_neg (by omega), if_neg (by omega), if_neg (by omega), ← hl, ← hl', List.take_length]
  rw [show rightL (turn1 (recL r) k x) = false from right_turned (bodyL r) k hk x hx]
  rfl
theorem first_pos {l : List UInt8} (h : firstE l = 0) : num l + 12 ≤ l.length := by
  unfold firstE at h
  split at h
  · exact absurd h (by decide)
  · split at h
    · exact absurd h (by decide)
    · split at h
      · exact absurd h (by decide)
      · omega

def scanF : Nat → List UInt8 → Int → List Rec × Nat
  | 0, _, _ => ([], 0)
  | f + 1, l, last => if firstE l = 0 ∧ last ≤ (firstR l).epoch then (firstR l :: (scanF f (l.drop (num l + 12)) (firstR l).epoch).1, num l + 12 + (scanF f (l.drop (num l + 12)) (firstR l).epoch).2) else ([], 0)
theorem scanF_more : ∀ (f g : Nat) (l : List UInt8) (last : Int), l.length < f → l.length < g → scanF f l last = scanF g l last
  | 0, _, _, _, h, _ => by omega
  | _ + 1, 0, _, _, _, h => by omega
  | f + 1, g + 1, l, last, h1, h2 => by
    rw [scanF, scanF]
    by_cases hc : firstE l = 0 ∧ last ≤ (firstR l).epoch
    · have := first_pos hc.1
      rw [if_pos hc, if_pos hc, scanF_more f g _ _ (by rw [List.length_drop]; omega) (by rw [List.length_drop]; omega)]
    · rw [if_neg hc, if_neg hc]
/-- The records of bytes, none elder than last. -/
def scanL (l : List UInt8) (last : Int) : List Rec × Nat := scanF (l.length + 1) l last
theorem scan_yes {l : List UInt8} {last : Int} (h : firstE l = 0 ∧ last ≤ (firstR l).epoch) : scanL l last = (firstR l :: (scanL (l.drop (num l + 12)) (firstR l).epoch).1, num l + 12 + (scanL (l.drop (num l + 12)) (firstR l).epoch).2) := by
  have := first_pos h.1
  have e : scanF l.length (l.drop (num l + 12)) (firstR l).epoch = scanL (l.drop (num l + 12)) (firstR l).epoch := scanF_more _ _ _ _ (by rw [List.length_drop]; omega) (by omega)
  rw [← e]
  show scanF (l.length + 1) l last = _
  rw [scanF, if_pos h]
theorem scan_no {l : List UInt8} {last : Int} (h : ¬ (firstE l = 0 ∧ last ≤ (firstR l).epoch)) : scanL l last = ([], 0) := by
  show scanF (l.length + 1) l last = _
  rw [scanF, if_neg h]
def allL (rs : List Rec) : List UInt8 := (rs.map recL).flatten
/-- Records whose epochs do not fall, from last on. -/
def rising : Int → List Rec → Prop
  | _, [] => True
  | last, r :: rs => recOk r ∧ last ≤ r.epoch ∧ rising r.epoch rs
theorem scan_all (rs : List Rec) : ∀ (last : Int) (t : List UInt8), rising last rs → scanL (allL rs ++ t) last = (rs ++ (scanL t ((rs.getLast?.map Rec.epoch).getD last)).1, (allL rs).length + (scanL t ((rs.getLast?.map Rec.epoch).getD last)).2) := by
  induction rs with
  | nil => intro last t _; simp [allL]
  | cons r rs ih =>
    intro last t ⟨h1, h2, h3⟩
    have hf := first_rec r h1 (allL rs ++ t)
    have hn := num_rec r h1 (allL rs ++ t)
    have e : allL (r :: rs) ++ t = recL r ++ (allL rs ++ t) := by simp [allL]
    rw [e, scan_yes ⟨hf.1, by rw [hf.2]; exact h2⟩]
    simp only [hf.2, hn, ← rec_len r]
    rw [List.drop_left, ih r.epoch t h3]
    have hlast : ((r :: rs).getLast?.map Rec.epoch).getD last = (rs.getLast?.map Rec.epoch).getD r.epoch := by
      cases rs with
      | nil => rfl
      | cons r2 rs =>
        rw [List.getLast?_cons_cons]
        cases h : (r2 :: rs).getLast? with
        | none => simp at h
        | some y => rfl
    rw [hlast]
    refine Prod.ext (by simp) ?_
    simp [allL]
    omega
theorem scan_nil (last : Int) : scanL [] last = ([], 0) := by
  refine scan_no ?_
  rintro ⟨h, _⟩
  exact absurd h (by decide)
/-- Cut anywhere: the first few. -/
theorem scan_cut (rs : List Rec) : ∀ (last : Int) (k : Nat), rising last rs → k ≤ (allL rs).length → ∃ m, m ≤ rs.length ∧ scanL ((allL rs).take k) last = (rs.take m, (allL (rs.take m)).length) ∧ (allL (rs.take m)).length ≤ k ∧ (m = rs.length ∨ ∃ r, rs[m]? = some r ∧ k < (allL (rs.take m)).length + (recL r).length) := by
  induction rs with
  | nil =>
    intro last k _ hk
    refine ⟨0, Nat.le_refl _, ?_, ?_, .inl rfl⟩
    · simp [allL, scan_nil]
    · simp [allL]
  | cons r rs ih =>
    intro last k ⟨h1, h2, h3⟩ hk
    have e : allL (r :: rs) = recL r ++ allL rs := by simp [allL]
    rw [e] at hk ⊢
    by_cases hkr : k < (recL r).length
    · refine ⟨0, by omega, ?_, by simp [allL], .inr ⟨r, rfl, by simpa [allL] using hkr⟩⟩
      rw [List.take_append_of_le_length (by omega), scan_no]
      · simp [allL]
      · rintro ⟨h, _⟩
        rw [first_cut r h1 k hkr] at h
        exact absurd h (by decide)
    · obtain ⟨m, q1, q2, q3, q4⟩ := ih r.epoch (k - (recL r).length) h3 (by simp at hk; omega)
      have ht : (recL r ++ allL rs).take k = recL r ++ (allL rs).take (k - (recL r).length) := by
        rw [List.take_append, List.take_of_length_le (by omega)]
      have hf := first_rec r h1 ((allL rs).take (k - (recL r).length))
      have hn := num_rec r h1 ((allL rs).take (k - (recL r).length))
      have ea : allL ((r :: rs).take (m + 1)) = recL r ++ allL (rs.take m) := by simp [allL]
      refine ⟨m + 1, by simpa using q1, ?_, ?_, ?_⟩
      · rw [ht, scan_yes ⟨hf.1, by rw [hf.2]; exact h2⟩]
        simp only [hf.2, hn, ← rec_len r]
        rw [List.drop_left, q2, ea]
        refine Prod.ext (by simp) ?_
        simp
      · rw [ea, List.length_append]; omega
      · rcases q4 with q4 | ⟨r2, q4, q5⟩
        · exact .inl (by simp [q4])
        · exact .inr ⟨r2, by simpa using q4, by rw [ea, List.length_append]; omega⟩

theorem scanF_le : ∀ (f : Nat) (l : List UInt8) (last : Int), (scanF f l last).1.length * 12 ≤ l.length
  | 0, _, _ => by simp [scanF]
  | f + 1, l, last => by
    rw [scanF]
    by_cases hc : firstE l = 0 ∧ last ≤ (firstR l).epoch
    · have h1 := first_pos hc.1
      have h2 := scanF_le f (l.drop (num l + 12)) (firstR l).epoch
      rw [if_pos hc]
      rw [List.length_drop] at h2
      simp only [List.length_cons]
      omega
    · rw [if_neg hc]
      simp
/-- A record has twelve bytes at least. -/
theorem scan_le (l : List UInt8) (last : Int) : (scanL l last).1.length * 12 ≤ l.length := scanF_le _ _ _

end Go.Proofs.YtnkmcndbbapeoaaDoor
