/- Records whose epochs do not fall: small. -/
import Derived.Test.YtnkmcndbbapeoaaDoorFrWrites
namespace Go.Proofs.YtnkmcndbbapeoaaDoor
open Go.RowKit
set_option linter.unusedVariables false

/-- The last record's epoch. -/
def lastE (last : Int) (rs : List Rec) : Int := (rs.getLast?.map Rec.epoch).getD last
theorem lastE_cons (last : Int) (r : Rec) (rs : List Rec) : lastE last (r :: rs) = lastE r.epoch rs := by
  unfold lastE
  cases rs with
  | nil => rfl
  | cons r2 rs =>
    rw [List.getLast?_cons_cons]
    cases h : (r2 :: rs).getLast? with
    | none => simp at h
    | some y => rfl
theorem lastE_snoc (last : Int) (rs : List Rec) (r : Rec) : lastE last (rs ++ [r]) = r.epoch := by simp [lastE]
theorem rising_snoc (rs : List Rec) (r : Rec) : ∀ last, rising last (rs ++ [r]) ↔ rising last rs ∧ recOk r ∧ lastE last rs ≤ r.epoch := by
  induction rs with
  | nil => intro last; simp [rising, lastE]
  | cons x rs ih =>
    intro last
    rw [lastE_cons]
    show (recOk x ∧ last ≤ x.epoch ∧ rising x.epoch (rs ++ [r])) ↔ (recOk x ∧ last ≤ x.epoch ∧ rising x.epoch rs) ∧ _
    rw [ih x.epoch]
    constructor
    · rintro ⟨h1, h2, h3, h4, h5⟩
      exact ⟨⟨h1, h2, h3⟩, h4, h5⟩
    · rintro ⟨⟨h1, h2, h3⟩, h4, h5⟩
      exact ⟨h1, h2, h3, h4, h5⟩
theorem rising_ok : ∀ (rs : List Rec) (last : Int), rising last rs → allErr rs = 0
  | [], _, _ => rfl
  | r :: rs, last, h => by
    show (if writeE r = 0 then allErr rs else writeE r) = 0
    rw [if_pos (writeE_ok.2 h.1)]
    exact rising_ok rs _ h.2.2
theorem rising_allB {rs : List Rec} {last : Int} (h : rising last rs) : allB rs = allL rs := by unfold allB; rw [if_pos (rising_ok rs last h)]
theorem allL_len12 (rs : List Rec) : rs.length * 12 ≤ (allL rs).length := by
  induction rs with
  | nil => simp
  | cons r rs ih =>
    have e : allL (r :: rs) = recL r ++ allL rs := by simp [allL]
    rw [e, List.length_append, rec_len, List.length_cons]
    omega

/-- Between two rounds of small. -/
structure SM (rs : List Rec) (k : Nat) (z : Nat) (last : Int) : Prop where
  up : rising 0 (rs.take k)
  size : z = (allL (rs.take k)).length
  ep : last = lastE 0 (rs.take k)
  most : z ≤ 4108 * k
  lo : 0 ≤ last
theorem SM.next {rs : List Rec} {k z : Nat} {last : Int} {r : Rec} (h : SM rs k z last) (hr : rs[k]? = some r) (h1 : ¬ r.epoch < last) (h2 : ¬ 4294967295 < r.epoch) (h3 : ¬ 4096 < r.data.length) : SM rs (k + 1) (z + (r.data.length + 12)) r.epoch := by
  obtain ⟨hlt, he⟩ := List.getElem?_eq_some_iff.1 hr
  have hlo := h.lo
  have ht : rs.take (k + 1) = rs.take k ++ [r] := by rw [List.take_succ_eq_append_getElem hlt, he]
  refine ⟨?_, ?_, ?_, ?_, by omega⟩
  · rw [ht, rising_snoc]
    exact ⟨h.up, ⟨by omega, by omega, by omega⟩, by rw [← h.ep]; omega⟩
  · rw [allL_take hr, List.length_append, rec_len, ← h.size]
  · rw [ht, lastE_snoc]
  · have := h.most
    omega

instance (r : Rec) : Decidable (recOk r) := by unfold recOk; infer_instance
def risingDec : (last : Int) → (rs : List Rec) → Decidable (rising last rs)
  | _, [] => isTrue trivial
  | last, r :: rs =>
    have := risingDec r.epoch rs
    inferInstanceAs (Decidable (recOk r ∧ last ≤ r.epoch ∧ rising r.epoch rs))
instance (last : Int) (rs : List Rec) : Decidable (rising last rs) := risingDec last rs
/-- What small answers. -/
def smallB (rs : List Rec) : Bool := decide (rising 0 rs ∧ (allL rs).length ≤ 8000)
theorem rising_take : ∀ (rs : List Rec) (last : Int) (k : Nat), rising last rs → rising last (rs.take k)
  | [], _, k, h => by simp [rising]
  | r :: rs, last, 0, h => trivial
  | r :: rs, last, k + 1, h => ⟨h.1, h.2.1, rising_take rs r.epoch k h.2.2⟩
theorem SM.fails {rs : List Rec} {k z : Nat} {last : Int} {r : Rec} (h : SM rs k z last) (hr : rs[k]? = some r) (hb : r.epoch < last ∨ 4294967295 < r.epoch ∨ 4096 < r.data.length) : smallB rs = false := by
  obtain ⟨hlt, he⟩ := List.getElem?_eq_some_iff.1 hr
  unfold smallB
  rw [decide_eq_false_iff_not]
  rintro ⟨hu, _⟩
  have h1 := rising_take rs 0 (k + 1) hu
  rw [List.take_succ_eq_append_getElem hlt, he, rising_snoc, ← h.ep] at h1
  obtain ⟨_, ⟨h2, h3, h4⟩, h5⟩ := h1
  omega
theorem SM.done {rs : List Rec} {z : Nat} {last : Int} (h : SM rs rs.length z last) : smallB rs = decide (z ≤ 8000) := by
  have h1 := h.up
  have h2 := h.size
  rw [List.take_length] at h1 h2
  unfold smallB
  rw [h2]
  exact decide_eq_decide.2 ⟨fun h => h.2, fun h => ⟨h1, h⟩⟩

set_option maxHeartbeats 1600000 in
theorem small_any (w : World) (a : Option Addr) (n cap : Nat) (rs : List Rec) (hA : RArg w a n cap rs) :
    Calls Tryd.prog 22 #[.slice a n cap] w fun e w' => e = .returned (.bool (smallB rs)) ∧ w' = w := by
  have hln := hA.ok.1
  have hmost := hA.most
  have HA := hide hA
  generalize hsb : smallB rs = sb at *
  clear hA
  go_enter Tryd.func22, Tryd.ntmps22
  go_wp2
  go_loopw [3, 4, 5] (fun s m i wr => ∃ (k z : Nat) (last : Int), k ≤ n ∧ i = .int .i64 k ∧ s = .int .i64 z ∧ m = .int .i64 last ∧ SM rs k z last ∧ wr = w) (fun _ _ i _ => n - (intOf i).toNat)
  case atStart => exact ⟨0, 0, 0, by omega, rfl, rfl, rfl, ⟨trivial, rfl, rfl, by omega, by omega⟩, rfl⟩
  case round =>
    obtain ⟨k, z, last, hk, rfl, rfl, rfl, hS, rfl⟩ := hrel
    by_cases hlt : k < n
    · have hlt1 : (k : Int) < (n : Int) := by omega
      obtain ⟨b, o, r, rfl, hr, hfit, c0, c1⟩ := (unhide HA).get hlt
      have hd : ((⟨r.data.toArray⟩ : ByteArray)).size = r.data.length := by simp [ByteArray.size]
      have hzm := hS.most
      have HN : Hid (¬ r.epoch < last → ¬ 4294967295 < r.epoch → ¬ 4096 < r.data.length → SM rs (k + 1) (z + (r.data.length + 12)) r.epoch) := fun h1 h2 h3 => hS.next hr h1 h2 h3
      have HF : Hid ((r.epoch < last ∨ 4294967295 < r.epoch ∨ 4096 < r.data.length) → sb = false) := fun h => by rw [← hsb]; exact hS.fails hr h
      clear hS hr hfit
      generalize r.epoch = ep at *
      generalize hdl : r.data.length = dl at *
      by_cases h1 : ep < last
      · have g1 : decide (ep < last) = true := by simpa using h1
        obtain rfl := unhide HF (.inl h1)
        go_wp2
        go_ret
        exact ⟨rfl, rfl⟩
      · have g1 : decide (ep < last) = false := by simpa using h1
        by_cases h2 : 4294967295 < ep
        · have g2 : decide (4294967295 < ep) = true := by simpa using h2
          obtain rfl := unhide HF (.inr (.inl h2))
          go_wp2
          go_ret
          exact ⟨rfl, rfl⟩
        · have g2 : decide (4294967295 < ep) = false := by simpa using h2
          by_cases h3 : 4096 < dl
          · have g3 : decide ((4096 : Int) < (dl : Int)) = true := by simp; omega
            obtain rfl := unhide HF (.inr (.inr h3))
            go_wp2
            go_ret
            exact ⟨rfl, rfl⟩
          · have g3 : decide ((4096 : Int) < (dl : Int)) = false := by simp; omega
            have HN2 := hide (unhide HN h1 h2 h3)
            obtain ⟨D, hD⟩ : ∃ D, dl + 12 = D := ⟨_, rfl⟩
            obtain ⟨Z, hZ⟩ : ∃ Z, z + D = Z := ⟨_, rfl⟩
            have hD1 : (dl : Int) + 12 = (D : Int) := by omega
            have hZ1 : (z : Int) + (D : Int) = (Z : Int) := by omega
            have hZm : Z ≤ 4108 * (k + 1) := by omega
            rw [hD, hZ] at HN2
            clear HN hD hZ
            go_wp2
            go_roundw
            case rel => exact ⟨k + 1, Z, ep, by omega, by go_num, by go_num, rfl, unhide HN2, trivial⟩
            case measure => simp [intOf]; omega
    · obtain rfl : k = n := by omega
      subst hln
      have hs := hS.done
      rw [hsb] at hs
      have HSZ := hide hs
      clear hS hs
      go_wp2
      go_ret
      refine ⟨ret_bool ?_, rfl⟩
      rw [unhide HSZ]
      exact decide_eq_decide.2 (by omega)

end Go.Proofs.YtnkmcndbbapeoaaDoor
