/- Check sums, as numbers: bytes of which some are turned. -/
import Derived.Test.YtnkmcndbbapeoaaDoorSmA
namespace Go.Proofs.YtnkmcndbbapeoaaDoor
set_option linter.unusedVariables false

theorem xors_len (l d : List UInt8) (h : l.length = d.length) : (xors l d).length = l.length := by simp [xors, h]
theorem xors_get {l d : List UInt8} {i : Nat} {a b : UInt8} (ha : l[i]? = some a) (hb : d[i]? = some b) : (xors l d)[i]? = some (a ^^^ b) := by
  simp [xors, List.getElem?_zipWith, ha, hb]
theorem xors_noughts (l : List UInt8) : xors l (List.replicate l.length 0) = l := by
  induction l with
  | nil => rfl
  | cons a l ih =>
    show (a ^^^ 0) :: xors l (List.replicate l.length 0) = a :: l
    rw [ih, UInt8.xor_zero]
theorem xors_back (l : List UInt8) : ∀ (d : List UInt8), l.length = d.length → xors l (xors l d) = d := by
  induction l with
  | nil => intro d h; cases d with
    | nil => rfl
    | cons b d => simp at h
  | cons a l ih =>
    intro d h
    cases d with
    | nil => simp at h
    | cons b d =>
      show (a ^^^ (a ^^^ b)) :: xors l (xors l d) = b :: d
      rw [ih d (by simpa using h), ← UInt8.xor_assoc, UInt8.xor_self, UInt8.zero_xor]
theorem xors_set (l : List UInt8) : ∀ (d : List UInt8) (i : Nat) (v : UInt8) (a : UInt8), l[i]? = some a → xors l (d.set i v) = (xors l d).set i (a ^^^ v) := by
  induction l with
  | nil => intro d i v a h; simp at h
  | cons x l ih =>
    intro d i v a h
    cases d with
    | nil => simp [xors]
    | cons b d =>
      cases i with
      | zero =>
        simp at h
        subst h
        rfl
      | succ i =>
        simp at h
        have := ih d i v a h
        show (x ^^^ b) :: xors l (d.set i v) = (x ^^^ b) :: (xors l d).set i (a ^^^ v)
        rw [this]
/-- One place turned. -/
def turn1 (l : List UInt8) (k : Nat) (e : UInt8) : List UInt8 := xors l ((List.replicate l.length 0).set k e)
theorem turn1_set {l : List UInt8} {k : Nat} {a : UInt8} (h : l[k]? = some a) (e : UInt8) : l.set k (a ^^^ e) = turn1 l k e := by
  unfold turn1
  rw [xors_set l _ k e a h, xors_noughts]
theorem turn1_len (l : List UInt8) (k : Nat) (e : UInt8) : (turn1 l k e).length = l.length := xors_len _ _ (by simp)
theorem set_one (k r : Nat) (e : UInt8) : (List.replicate (k + (1 + r)) 0).set k e = List.replicate k 0 ++ [e] ++ List.replicate r 0 := by
  rw [← List.replicate_append_replicate, List.set_append_right _ _ (by simp), ← List.replicate_append_replicate]
  simp
theorem turn1_xors {l : List UInt8} {k : Nat} (hk : k < l.length) (e : UInt8) : xors l (turn1 l k e) = List.replicate k 0 ++ [e] ++ List.replicate (l.length - k - 1) 0 := by
  unfold turn1
  rw [xors_back l _ (by simp)]
  obtain ⟨r, hr⟩ : ∃ r, l.length = k + (1 + r) := ⟨l.length - k - 1, by omega⟩
  rw [hr, set_one, show k + (1 + r) - k - 1 = r by omega]
theorem onS_turn1 (c : Nat) {l : List UInt8} {k : Nat} (hk : k < l.length) (e : UInt8) : onS c (turn1 l k e) = onS c l ^^^ crc (S8 e.toNat) (List.replicate (l.length - k - 1) 0) :=
  onS_turn c l _ (turn1_len _ _ _).symm k _ e (turn1_xors hk e)
theorem onS_turn1_ne (c : Nat) {l : List UInt8} {k : Nat} (hk : k < l.length) {e : UInt8} (he : e ≠ 0) : onS c l ≠ onS c (turn1 l k e) := fun h =>
  he ((onS_one c l _ (turn1_len _ _ _).symm k _ e (turn1_xors hk e)).1 h)

theorem be4_inj {a b : Nat} (ha : a < W32) (hb : b < W32) (h : be4 a = be4 b) : a = b := by
  have ha' : a < 4294967296 := ha
  have hb' : b < 4294967296 := hb
  simp only [be4, List.cons.injEq, and_true] at h
  obtain ⟨h0, h1, h2, h3⟩ := h
  have e0 := congrArg UInt8.toNat h0
  have e1 := congrArg UInt8.toNat h1
  have e2 := congrArg UInt8.toNat h2
  have e3 := congrArg UInt8.toNat h3
  simp at e0 e1 e2 e3
  omega
theorem seal_take (l : List UInt8) : (sealL l).take l.length = l := by simp [sealL]
theorem seal_drop (l : List UInt8) : (sealL l).drop l.length = be4 (onS 0 l) := by simp [sealL]
/-- What is sealed, with a place turned, is not right. -/
theorem right_turned (l : List UInt8) (k : Nat) (hk : k < (sealL l).length) (e : UInt8) (he : e ≠ 0) : rightL (turn1 (sealL l) k e) = false := by
  have hl := seal_len l
  have hl' : (turn1 (sealL l) k e).length = l.length + 4 := by rw [turn1_len, hl]
  obtain ⟨a, ha⟩ : ∃ a, (sealL l)[k]? = some a := ⟨_, List.getElem?_eq_getElem hk⟩
  have hset := turn1_set ha e
  unfold rightL
  rw [hl', decide_eq_false_iff_not]
  rintro ⟨_, h⟩
  rw [show l.length + 4 - 4 = l.length by omega] at h
  by_cases hkl : k < l.length
  · have hla : l[k]? = some a := by
      rw [sealL, List.getElem?_append_left hkl] at ha
      exact ha
    have ht : (turn1 (sealL l) k e).take l.length = turn1 l k e := by
      rw [← hset, ← turn1_set hla e, List.take_set, seal_take]
    rw [ht] at h
    have hd := congrArg (List.drop l.length) h
    have e1 : (sealL (turn1 l k e)).drop l.length = be4 (onS 0 (turn1 l k e)) := by
      have := seal_drop (turn1 l k e)
      rw [turn1_len] at this
      exact this
    have e2 : (turn1 (sealL l) k e).drop l.length = be4 (onS 0 l) := by
      rw [← hset, List.drop_set_of_lt hkl, seal_drop]
    rw [e1, e2] at hd
    exact onS_turn1_ne 0 hkl he (be4_inj (onS_lt _ zero_lt32) (onS_lt _ zero_lt32) hd).symm
  · have ht : (turn1 (sealL l) k e).take l.length = l := by
      rw [← hset, List.take_set_of_le (by omega), seal_take]
    rw [ht, ← hset] at h
    have h2 := congrArg (fun x : List UInt8 => x[k]?) h
    simp only [ha, List.getElem?_set_self hk] at h2
    have h3 : a = a ^^^ e := Option.some.inj h2
    apply he
    have := congrArg (a ^^^ ·) h3
    simp only [← UInt8.xor_assoc, UInt8.xor_self, UInt8.zero_xor] at this
    exact this.symm

/-- Four places turned, one behind the other. -/
def turnD (n k : Nat) (xs : List UInt8) : Nat → List UInt8
  | 0 => List.replicate n 0
  | j + 1 => (turnD n k xs j).set (k + j) (xs.getD j 0)
theorem turnD_len (n k : Nat) (xs : List UInt8) : ∀ j, (turnD n k xs j).length = n
  | 0 => by simp [turnD]
  | j + 1 => by simp [turnD, turnD_len n k xs j]
theorem turnD_get (n k : Nat) (xs : List UInt8) (i : Nat) (hi : i < n) : ∀ j, k + j ≤ i → (turnD n k xs j)[i]? = some 0
  | 0, _ => by simp [turnD, hi]
  | j + 1, h => by
    have := turnD_get n k xs i hi j (by omega)
    rw [turnD, List.getElem?_set_ne (by omega)]
    exact this
def turnL (l : List UInt8) (k : Nat) (xs : List UInt8) (j : Nat) : List UInt8 := xors l (turnD l.length k xs j)
theorem turnL_zero (l : List UInt8) (k : Nat) (xs : List UInt8) : turnL l k xs 0 = l := xors_noughts l
theorem turnL_len (l : List UInt8) (k : Nat) (xs : List UInt8) (j : Nat) : (turnL l k xs j).length = l.length := xors_len _ _ (turnD_len _ _ _ _).symm
theorem turnL_get {l : List UInt8} {k : Nat} {xs : List UInt8} {j : Nat} {a : UInt8} (h : l[k + j]? = some a) : (turnL l k xs j)[k + j]? = some a := by
  have := xors_get h (turnD_get l.length k xs (k + j) (List.getElem?_eq_some_iff.1 h).1 j (Nat.le_refl _))
  rw [UInt8.xor_zero] at this
  exact this
theorem turnL_succ {l : List UInt8} {k : Nat} {xs : List UInt8} {j : Nat} {a : UInt8} (h : l[k + j]? = some a) : (turnL l k xs j).set (k + j) (a ^^^ xs.getD j 0) = turnL l k xs (j + 1) := (xors_set l _ _ _ a h).symm
theorem turnD_four (k r : Nat) (x0 x1 x2 x3 : UInt8) : turnD (k + (4 + r)) k [x0, x1, x2, x3] 4 = List.replicate k 0 ++ [x0, x1, x2, x3] ++ List.replicate r 0 := by
  simp only [turnD]
  rw [← List.replicate_append_replicate, ← List.replicate_append_replicate]
  simp [List.set_append_right, List.replicate_succ]
theorem turnL_four {l : List UInt8} {k : Nat} (hk : k + 4 ≤ l.length) (c : Nat) (x0 x1 x2 x3 : UInt8) : onS c l = onS c (turnL l k [x0, x1, x2, x3] 4) ↔ l = turnL l k [x0, x1, x2, x3] 4 := by
  obtain ⟨r, hr⟩ : ∃ r, l.length = k + (4 + r) := ⟨l.length - k - 4, by omega⟩
  have hx : xors l (turnL l k [x0, x1, x2, x3] 4) = List.replicate k 0 ++ [x0, x1, x2, x3] ++ List.replicate r 0 := by
    unfold turnL
    rw [xors_back l _ (turnD_len _ _ _ _).symm, hr, turnD_four]
  rw [onS_four c l _ (turnL_len _ _ _ _).symm k r x0 x1 x2 x3 hx]
  constructor
  · rintro ⟨rfl, rfl, rfl, rfl⟩
    unfold turnL
    rw [hr, turnD_four]
    have : List.replicate k 0 ++ [0, 0, 0, 0] ++ List.replicate r 0 = List.replicate l.length (0 : UInt8) := by
      rw [hr, ← List.replicate_append_replicate, ← List.replicate_append_replicate]
      simp [List.replicate_succ]
    rw [this, xors_noughts]
  · intro h
    have hs : xors l l = List.replicate l.length 0 := by
      have := xors_back l (List.replicate l.length 0) (by simp)
      rw [xors_noughts] at this
      exact this
    rw [← h, hs] at hx
    rw [hr, ← List.replicate_append_replicate, ← List.replicate_append_replicate] at hx
    simp [List.replicate_succ] at hx
    exact ⟨hx.1.symm, hx.2.1.symm, hx.2.2.1.symm, hx.2.2.2.symm⟩

end Go.Proofs.YtnkmcndbbapeoaaDoor
