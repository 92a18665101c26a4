/- Check sums, as numbers: a step is linear, and takes nothing but 0 to 0. -/
import Derived.Test.YtpliipeoijclbaaDoorBsB
namespace Go.Proofs.YtpliipeoijclbaaDoor
set_option linter.unusedVariables false

def poly : Nat := 2197175160
def step (c : Nat) : Nat := if c % 2 = 1 then (c / 2) ^^^ poly else c / 2
def S8 (c : Nat) : Nat := step (step (step (step (step (step (step (step c)))))))
abbrev W32 : Nat := 4294967296

theorem step_lin (a b : Nat) : step (a ^^^ b) = step a ^^^ step b := by
  have hm : (a ^^^ b) % 2 = (a + b) % 2 := by
    have h1 := @Nat.xor_mod_two_eq_one a b
    generalize a ^^^ b = z at *
    omega
  have h2 : (a ^^^ b) / 2 = a / 2 ^^^ b / 2 := Nat.xor_div_two
  unfold step
  rw [h2]
  rcases Nat.mod_two_eq_zero_or_one a with ha | ha <;> rcases Nat.mod_two_eq_zero_or_one b with hb | hb
  · rw [if_neg (by omega), if_neg (by omega), if_neg (by omega)]
  · rw [if_pos (by omega), if_neg (by omega), if_pos hb, Nat.xor_assoc]
  · rw [if_pos (by omega), if_pos ha, if_neg (by omega), Nat.xor_assoc, Nat.xor_assoc, Nat.xor_comm (b / 2)]
  · rw [if_neg (by omega), if_pos ha, if_pos hb]
    rw [show a / 2 ^^^ poly ^^^ (b / 2 ^^^ poly) = a / 2 ^^^ b / 2 ^^^ (poly ^^^ poly) by ac_rfl, Nat.xor_self, Nat.xor_zero]
theorem step_zero : step 0 = 0 := rfl
theorem step_lt {c : Nat} (h : c < W32) : step c < W32 := by
  have h' : c < 4294967296 := h
  unfold step
  split
  · exact Nat.xor_lt_two_pow (n := 32) (by show c / 2 < 4294967296; omega) (by decide)
  · show c / 2 < 4294967296; omega
theorem step_ker {c : Nat} (h : c < W32) (h0 : step c = 0) : c = 0 := by
  unfold step at h0
  split at h0
  · have e : c / 2 = poly := by
      have := congrArg (· ^^^ poly) h0
      simpa [Nat.xor_assoc] using this
    unfold poly at e
    have : c < 4294967296 := h
    omega
  · omega
theorem step_double (u : Nat) : step (2 * u) = u := by
  unfold step
  rw [if_neg (by omega)]
  omega

theorem S8_lin (a b : Nat) : S8 (a ^^^ b) = S8 a ^^^ S8 b := by simp only [S8, step_lin]
theorem S8_zero : S8 0 = 0 := rfl
theorem S8_lt {c : Nat} (h : c < W32) : S8 c < W32 := step_lt (step_lt (step_lt (step_lt (step_lt (step_lt (step_lt (step_lt h)))))))
theorem S8_ker {c : Nat} (h : c < W32) (h0 : S8 c = 0) : c = 0 := by
  have l1 := step_lt h
  have l2 := step_lt l1
  have l3 := step_lt l2
  have l4 := step_lt l3
  have l5 := step_lt l4
  have l6 := step_lt l5
  have l7 := step_lt l6
  exact step_ker h (step_ker l1 (step_ker l2 (step_ker l3 (step_ker l4 (step_ker l5 (step_ker l6 (step_ker l7 h0)))))))
theorem xor_eq_zero {a b : Nat} (h : a ^^^ b = 0) : a = b := by
  have := congrArg (· ^^^ b) h
  simpa [Nat.xor_assoc] using this
theorem S8_inj {a b : Nat} (ha : a < W32) (hb : b < W32) (h : S8 a = S8 b) : a = b := by
  apply xor_eq_zero
  refine S8_ker (Nat.xor_lt_two_pow (n := 32) ha hb) ?_
  rw [S8_lin, h, Nat.xor_self]
theorem S8_byte (v : Nat) : S8 (v * 256) = v := by
  have e : v * 256 = 2 * (2 * (2 * (2 * (2 * (2 * (2 * (2 * v))))))) := by omega
  unfold S8
  rw [e]
  simp only [step_double]

/-- The sum's register behind bytes. -/
def crc (c : Nat) (l : List UInt8) : Nat := l.foldl (fun c b => S8 (c ^^^ b.toNat)) c
def full : Nat := 4294967295
def onS (c : Nat) (l : List UInt8) : Nat := crc (c ^^^ full) l ^^^ full
theorem u8_lt (b : UInt8) : b.toNat < 256 := b.toNat_lt
theorem xor_lt {a b : Nat} (ha : a < W32) (hb : b < W32) : a ^^^ b < W32 := Nat.xor_lt_two_pow (n := 32) ha hb
theorem byte_lt (b : UInt8) : b.toNat < W32 := by have := u8_lt b; show b.toNat < 4294967296; omega
theorem crc_lt {c : Nat} (l : List UInt8) (h : c < W32) : crc c l < W32 := by
  induction l generalizing c with
  | nil => exact h
  | cons b l ih => exact ih (S8_lt (xor_lt h (byte_lt b)))
theorem crc_append (c : Nat) (l m : List UInt8) : crc c (l ++ m) = crc (crc c l) m := by simp [crc, List.foldl_append]
theorem crc_snoc (c : Nat) (l : List UInt8) (b : UInt8) : crc c (l ++ [b]) = S8 (crc c l ^^^ b.toNat) := by rw [crc_append]; rfl
theorem full_lt : full < W32 := by decide
theorem onS_lt {c : Nat} (l : List UInt8) (h : c < W32) : onS c l < W32 := xor_lt (crc_lt l (xor_lt h full_lt)) full_lt
theorem full_full (c : Nat) : c ^^^ full ^^^ full = c := by rw [Nat.xor_assoc, Nat.xor_self, Nat.xor_zero]
theorem onS_append (c : Nat) (l m : List UInt8) : onS c (l ++ m) = onS (onS c l) m := by unfold onS; rw [full_full, crc_append]
theorem onS_nil (c : Nat) : onS c [] = c := full_full c

/-- Of two lists of one length the registers differ as the differences go. -/
def xors (l m : List UInt8) : List UInt8 := List.zipWith (fun a b => a ^^^ b) l m
theorem crc_xor (l : List UInt8) : ∀ (m : List UInt8) (c d : Nat), l.length = m.length → crc c l ^^^ crc d m = crc (c ^^^ d) (xors l m) := by
  induction l with
  | nil => intro m c d h; cases m with
    | nil => rfl
    | cons b m => simp at h
  | cons a l ih =>
    intro m c d h
    cases m with
    | nil => simp at h
    | cons b m =>
      have := ih m (S8 (c ^^^ a.toNat)) (S8 (d ^^^ b.toNat)) (by simpa using h)
      show crc (S8 (c ^^^ a.toNat)) l ^^^ crc (S8 (d ^^^ b.toNat)) m = crc (S8 (c ^^^ d ^^^ (a ^^^ b).toNat)) (xors l m)
      rw [this, ← S8_lin, UInt8.toNat_xor, show c ^^^ a.toNat ^^^ (d ^^^ b.toNat) = c ^^^ d ^^^ (a.toNat ^^^ b.toNat) by ac_rfl]
theorem onS_xor (c : Nat) (l m : List UInt8) (h : l.length = m.length) : onS c l ^^^ onS c m = crc 0 (xors l m) := by
  unfold onS
  rw [show crc (c ^^^ full) l ^^^ full ^^^ (crc (c ^^^ full) m ^^^ full) = crc (c ^^^ full) l ^^^ crc (c ^^^ full) m ^^^ (full ^^^ full) by ac_rfl, Nat.xor_self, Nat.xor_zero, crc_xor l m _ _ h, Nat.xor_self]
theorem crc_noughts (n : Nat) : crc 0 (List.replicate n 0) = 0 := by
  induction n with
  | zero => rfl
  | succ n ih => rw [List.replicate_succ]; exact ih
theorem crc_ker {c : Nat} (h : c < W32) (n : Nat) (h0 : crc c (List.replicate n 0) = 0) : c = 0 := by
  induction n generalizing c with
  | zero => exact h0
  | succ n ih =>
    rw [List.replicate_succ] at h0
    have e : crc (S8 (c ^^^ (0 : UInt8).toNat)) (List.replicate n 0) = 0 := h0
    rw [show (0 : UInt8).toNat = 0 from rfl, Nat.xor_zero] at e
    exact S8_ker h (ih (S8_lt h) e)

set_option maxRecDepth 100000 in
/-- Four places one behind the other. -/
theorem crc_four (x0 x1 x2 x3 : UInt8) (h : crc 0 [x0, x1, x2, x3] = 0) : x0 = 0 ∧ x1 = 0 ∧ x2 = 0 ∧ x3 = 0 := by
  have a0 := u8_lt x0
  have a1 := u8_lt x1
  have a2 := u8_lt x2
  have a3 := u8_lt x3
  have l0 : S8 x0.toNat < W32 := S8_lt (byte_lt x0)
  have l1 : S8 (S8 x0.toNat ^^^ x1.toNat) < W32 := S8_lt (xor_lt l0 (byte_lt x1))
  have l2 : S8 (S8 (S8 x0.toNat ^^^ x1.toNat) ^^^ x2.toNat) < W32 := S8_lt (xor_lt l1 (byte_lt x2))
  have h' : S8 (S8 (S8 (S8 x0.toNat ^^^ x1.toNat) ^^^ x2.toNat) ^^^ x3.toNat) = 0 := by
    have : crc 0 [x0, x1, x2, x3] = S8 (S8 (S8 (S8 (0 ^^^ x0.toNat) ^^^ x1.toNat) ^^^ x2.toNat) ^^^ x3.toNat) := rfl
    rw [Nat.zero_xor] at this
    rw [← this]; exact h
  have e3 := xor_eq_zero (S8_ker (xor_lt l2 (byte_lt x3)) h')
  -- S8 y = x3
  have e2 : S8 (S8 x0.toNat ^^^ x1.toNat) ^^^ x2.toNat = x3.toNat * 256 := by
    refine S8_inj (xor_lt l1 (byte_lt x2)) (by show x3.toNat * 256 < 4294967296; omega) ?_
    rw [e3, S8_byte]
  have e2' : S8 (S8 x0.toNat ^^^ x1.toNat) = x3.toNat * 256 ^^^ x2.toNat := by rw [← e2, Nat.xor_assoc, Nat.xor_self, Nat.xor_zero]
  have b2 : x3.toNat * 256 ^^^ x2.toNat < 65536 := Nat.xor_lt_two_pow (n := 16) (by omega) (by omega)
  have e1 : S8 x0.toNat ^^^ x1.toNat = (x3.toNat * 256 ^^^ x2.toNat) * 256 := by
    refine S8_inj (xor_lt l0 (byte_lt x1)) (by show _ < 4294967296; omega) ?_
    rw [e2', S8_byte]
  have e1' : S8 x0.toNat = (x3.toNat * 256 ^^^ x2.toNat) * 256 ^^^ x1.toNat := by rw [← e1, Nat.xor_assoc, Nat.xor_self, Nat.xor_zero]
  have b1 : (x3.toNat * 256 ^^^ x2.toNat) * 256 ^^^ x1.toNat < 16777216 := Nat.xor_lt_two_pow (n := 24) (by omega) (by omega)
  have e0 : x0.toNat = ((x3.toNat * 256 ^^^ x2.toNat) * 256 ^^^ x1.toNat) * 256 := by
    refine S8_inj (byte_lt x0) (by show _ < 4294967296; omega) ?_
    rw [e1', S8_byte]
  have z1 : (x3.toNat * 256 ^^^ x2.toNat) * 256 ^^^ x1.toNat = 0 := by omega
  have z1' := xor_eq_zero z1
  have z2 : x3.toNat * 256 ^^^ x2.toNat = 0 := by omega
  have z2' := xor_eq_zero z2
  have t0 : x0.toNat = 0 := by omega
  have t1 : x1.toNat = 0 := by omega
  have t2 : x2.toNat = 0 := by omega
  have t3 : x3.toNat = 0 := by omega
  exact ⟨UInt8.toNat_inj.1 t0, UInt8.toNat_inj.1 t1, UInt8.toNat_inj.1 t2, UInt8.toNat_inj.1 t3⟩

theorem crc_mid (x : List UInt8) (k n : Nat) : crc 0 (List.replicate k 0 ++ x ++ List.replicate n 0) = crc (crc 0 x) (List.replicate n 0) := by
  rw [crc_append, crc_append, crc_noughts]
theorem zero_lt32 : 0 < W32 := by decide
theorem eq_of_xor {a b : Nat} : a = b ↔ a ^^^ b = 0 := ⟨fun h => by rw [h, Nat.xor_self], xor_eq_zero⟩
/-- Lists that differ in the places k to k + 3. -/
theorem onS_four (c : Nat) (l m : List UInt8) (hl : l.length = m.length) (k n : Nat) (x0 x1 x2 x3 : UInt8) (hd : xors l m = List.replicate k 0 ++ [x0, x1, x2, x3] ++ List.replicate n 0) : onS c l = onS c m ↔ x0 = 0 ∧ x1 = 0 ∧ x2 = 0 ∧ x3 = 0 := by
  rw [eq_of_xor, onS_xor c l m hl, hd, crc_mid]
  constructor
  · intro h
    exact crc_four _ _ _ _ (crc_ker (crc_lt _ zero_lt32) n h)
  · rintro ⟨rfl, rfl, rfl, rfl⟩
    exact crc_noughts n
/-- Lists that differ in the place k. -/
theorem onS_one (c : Nat) (l m : List UInt8) (hl : l.length = m.length) (k n : Nat) (x : UInt8) (hd : xors l m = List.replicate k 0 ++ [x] ++ List.replicate n 0) : onS c l = onS c m ↔ x = 0 := by
  rw [eq_of_xor, onS_xor c l m hl, hd, crc_mid]
  constructor
  · intro h
    have h1 := crc_ker (crc_lt _ zero_lt32) n h
    have h2 : S8 (0 ^^^ x.toNat) = 0 := h1
    rw [Nat.zero_xor] at h2
    exact UInt8.toNat_inj.1 (S8_ker (byte_lt x) h2)
  · rintro rfl
    exact crc_noughts n
/-- What turning place k by x does. -/
theorem onS_turn (c : Nat) (l m : List UInt8) (hl : l.length = m.length) (k n : Nat) (x : UInt8) (hd : xors l m = List.replicate k 0 ++ [x] ++ List.replicate n 0) : onS c m = onS c l ^^^ crc (S8 x.toNat) (List.replicate n 0) := by
  have h := onS_xor c l m hl
  rw [hd, crc_mid] at h
  have e : crc 0 [x] = S8 x.toNat := by
    show S8 (0 ^^^ x.toNat) = _
    rw [Nat.zero_xor]
  rw [e] at h
  rw [← h, ← Nat.xor_assoc, Nat.xor_self, Nat.zero_xor]
theorem xors_one (x : UInt8) (n : Nat) : xors (List.replicate (n + 1) 0) (x :: List.replicate n 0) = List.replicate 0 0 ++ [x] ++ List.replicate n 0 := by
  rw [List.replicate_succ]
  have e : xors (List.replicate n 0) (List.replicate n (0 : UInt8)) = List.replicate n 0 := by
    unfold xors
    rw [List.zipWith_replicate, Nat.min_self]
    rfl
  show (0 ^^^ x) :: xors (List.replicate n 0) (List.replicate n 0) = _
  rw [e, UInt8.zero_xor]
  rfl
/-- The difference of a bit alone, of noughts. -/
theorem onS_alone (x : UInt8) (n : Nat) : onS 0 (List.replicate (n + 1) 0) ^^^ onS 0 (x :: List.replicate n 0) = crc (S8 x.toNat) (List.replicate n 0) := by
  have h := onS_turn 0 (List.replicate (n + 1) 0) (x :: List.replicate n 0) (by simp) 0 n x (xors_one x n)
  rw [h, ← Nat.xor_assoc, Nat.xor_self, Nat.zero_xor]

/-- A sum's four bytes, the highest first. -/
def be4 (c : Nat) : List UInt8 := [UInt8.ofNat (c / 16777216), UInt8.ofNat (c / 65536), UInt8.ofNat (c / 256), UInt8.ofNat c]

def sealL (l : List UInt8) : List UInt8 := l ++ be4 (onS 0 l)

def rightL (l : List UInt8) : Bool := decide (4 ≤ l.length ∧ sealL (l.take (l.length - 4)) = l)

theorem right_seal (l : List UInt8) : rightL (sealL l) = true := by
  have h : (sealL l).length = l.length + 4 := by simp [sealL, be4]
  unfold rightL
  rw [h]
  simp
  unfold sealL
  simp

theorem right_nil : rightL [] = false := rfl

theorem seal_len (l : List UInt8) : (sealL l).length = l.length + 4 := by simp [sealL, be4]

end Go.Proofs.YtpliipeoijclbaaDoor
