/- A method's descriptor as plain values; the landed arguments. -/
import Derived.Test.YtjhiflhmefhogaaJKdO

namespace Go.Proofs.Ytjhiflhmefhogaa
open Go.RowKit
set_option linter.unusedVariables false
set_option maxRecDepth 100000

/-- The types of the descriptors that a text begins with, and what is left. -/
inductive Args : List UInt8 → List Ty → List UInt8 → Prop
  | done (r : List UInt8) : sizeN r = 0 → Args r [] r
  | step (r : List UInt8) (l : List Ty) (rest : List UInt8) : 0 < sizeN r → Args (r.drop (sizeN r)) l rest → Args r (typeP (r.take (sizeN r)) :: l) rest
theorem sizeN_le (s : List UInt8) : sizeN s ≤ s.length := by rw [sizeN_is]; exact one_le s 0
theorem Args.some : ∀ (n : Nat) (r : List UInt8), r.length ≤ n → ∃ l rest, Args r l rest
  | 0, r, h => ⟨[], r, .done r (by have := sizeN_le r; omega)⟩
  | n + 1, r, h => by
    by_cases hz : sizeN r = 0
    · exact ⟨[], r, .done r hz⟩
    · obtain ⟨l, rest, hr⟩ := Args.some n (r.drop (sizeN r)) (by rw [List.length_drop]; omega)
      exact ⟨_, rest, .step r l rest (by omega) hr⟩
theorem Args.both {r : List UInt8} {l : List Ty} {rest : List UInt8} (h : Args r l rest) : (sizeN r = 0 ∧ l = [] ∧ rest = r) ∨ (0 < sizeN r ∧ ∃ l', l = typeP (r.take (sizeN r)) :: l' ∧ Args (r.drop (sizeN r)) l' rest) := by
  induction h with
  | done r h => exact .inl ⟨h, rfl, rfl⟩
  | step r l rest h0 hr _ => exact .inr ⟨h0, l, rfl, hr⟩
theorem Args.at_done {r : List UInt8} {l : List Ty} {rest : List UInt8} (h : Args r l rest) (hz : sizeN r = 0) : l = [] ∧ rest = r := by
  rcases h.both with ⟨_, h1⟩ | ⟨h0, _⟩
  · exact h1
  · omega
theorem Args.at_step {r : List UInt8} {l : List Ty} {rest : List UInt8} (h : Args r l rest) (hz : 0 < sizeN r) : ∃ l', l = typeP (r.take (sizeN r)) :: l' ∧ Args (r.drop (sizeN r)) l' rest := by
  rcases h.both with ⟨h0, _⟩ | ⟨_, h1⟩
  · omega
  · exact h1
theorem Args.len {r : List UInt8} {l : List Ty} {rest : List UInt8} (h : Args r l rest) : l.length ≤ r.length ∧ rest.length ≤ r.length := by
  induction h with
  | done r _ => exact ⟨by simp, Nat.le_refl _⟩
  | step r l rest h0 _ ih =>
    have := sizeN_le r
    rw [List.length_drop] at ih
    exact ⟨by simp only [List.length_cons]; omega, by omega⟩
theorem take_size (r : List UInt8) (h : 0 < sizeN r) : sizeN (r.take (sizeN r)) = (r.take (sizeN r)).length ∨ True := .inr trivial
theorem L_two {r : List UInt8} (h : 0 < sizeN r) (hL : (r.take (sizeN r))[0]? = some 76) : 2 ≤ (r.take (sizeN r)).length := by
  have hle := sizeN_le r
  cases r with
  | nil => simp at hL
  | cons c t =>
    rw [List.getElem?_take, if_pos h] at hL
    simp at hL
    subst hL
    have hd : deepN (76 :: t) = 0 := by simp [deepN]
    have : 2 ≤ sizeN (76 :: t) := by
      unfold sizeN at h ⊢
      rw [hd] at h ⊢
      simp [innN] at h ⊢
      repeat' split at h
      all_goals first | omega | skip
      repeat' split
      all_goals first | omega | (simp_all; done)
    rw [List.length_take]
    omega
theorem tyc_one (k : Int) (S : ByteArray) (t : Ty) (h : Value.agg #[.int .i64 k, .string S] = tyV t) : (#[.int .i64 k, .string S] : Array Value).toList = tyc t := by
  injection h with h
  rw [h]
  rfl
set_option maxHeartbeats 1600000 in
theorem yargs_any (w : World) (S : ByteArray) (t : List UInt8) (hS : Str S (40 :: t)) (hs : (40 :: t).length ≤ 1000000) (L : List Ty) (rest : List UInt8) (hA : Args t L rest) : Calls Try.prog 34 #[.string S] w fun e w' => ∃ v, e = .returned (.tuple #[v, .string ⟨rest.toArray⟩]) ∧ Orw tyc 23 2 w' w.heap.size v L ∧ Below w.heap.size w w' := by
  have HC := hide (strCutP_any w S ⟨#[40]⟩)
  rw [hS.data] at HC
  have hp : Lib.hasPrefix (40 :: t) (⟨#[40]⟩ : ByteArray).data.toList = true := by
    have := pre_one (40 :: t) 40
    show Lib.hasPrefix (40 :: t) [40] = true
    rw [this]
    rfl
  rw [hp, if_pos rfl] at HC
  have hR0 : Str (S.extract (⟨#[40]⟩ : ByteArray).size S.size) t := by
    have := hS.sub 1 S.size
    rw [hS.size, show ((40 :: t).drop 1).take ((40 :: t).length - 1) = t by simp] at this
    rw [hS.size]
    exact this
  generalize S.extract (⟨#[40]⟩ : ByteArray).size S.size = R at *
  have hR := hide hR0
  clear hp hS hR0
  go_enter Try.func34, Try.ntmps34
  go_wp2_with (go_at_call 46; refine (unhide HC).mono ?_; rintro e w' ⟨rfl, hw⟩; rw [hw]; clear hw)
  refine (ysize_any w R t (unhide hR) (by simp at hs; omega)).mono ?_
  rintro e w' ⟨rfl, hw⟩
  rw [hw]
  clear hw
  have hlt := hA.len
  go_wp2
  go_loopw [2, 3, 5] (fun av rv nv wr => ∃ (acc : List Ty) (r : List UInt8) (l' : List Ty) (R' : ByteArray), Hid (Str R' r) ∧ rv = .string R' ∧ nv = .int .i64 (sizeN r) ∧ Hid (acc ++ l' = L) ∧ Hid (Args r l' rest) ∧ Hid (Orw tyc 23 2 wr w.heap.size av acc) ∧ Hid (Below w.heap.size w wr) ∧ r.length ≤ t.length) (fun av rv nv wr => match rv with | .string X => X.size | _ => 0)
  case atStart => exact ⟨[], t, L, R, hR, rfl, rfl, rfl, hA, Orw.nil _ _ _ _ _, Below.refl _ _, Nat.le_refl _⟩
  case round =>
    obtain ⟨acc, r, l', R', HS, rfl, rfl, HAC, HAR, HO, HB, hrl⟩ := hrel
    by_cases hz : sizeN r = 0
    · obtain ⟨rfl, rfl⟩ := (unhide HAR).at_done hz
      rw [hz]
      have HE := hide (unhide HS).eq
      go_wp2
      go_ret2
      refine ⟨u2, by rw [← unhide HE]; rfl, ?_, unhide HB⟩
      have := unhide HAC
      rw [List.append_nil] at this
      rw [← this]
      exact unhide HO
    · have hz1 : 0 < sizeN r := by omega
      have hz2 : (0 : Int) < (sizeN r : Int) := by omega
      obtain ⟨l2, hl2, hA2⟩ := (unhide HAR).at_step hz1
      have hzl := sizeN_le r
      have hsz := (unhide HS).size
      have hzl2 : (sizeN r : Int) ≤ (r.length : Int) := by omega
      have HT : Hid (∀ W, Calls Try.prog 32 #[.string (R'.extract 0 (sizeN r))] W fun e w' => e = .returned (tyV (typeP (r.take (sizeN r)))) ∧ Below W.heap.size W w') := fun W => by
        have := (unhide HS).sub 0 (sizeN r)
        simp only [List.drop_zero, Nat.sub_zero] at this
        exact ytypeOf_any W _ _ this (by simp at hs ⊢; omega) (by rw [List.length_take]; omega) (L_two hz1)
      have HR2 : Hid (Str (R'.extract (sizeN r) r.length) (r.drop (sizeN r))) := by
        have := (unhide HS).sub (sizeN r) r.length
        rw [show (r.drop (sizeN r)).take (r.length - sizeN r) = r.drop (sizeN r) from List.take_of_length_le (by simp)] at this
        exact this
      have HZ2 : Hid (∀ W, Calls Try.prog 31 #[.string (R'.extract (sizeN r) r.length)] W fun e w' => e = .returned (.int .i64 (sizeN (r.drop (sizeN r)))) ∧ w' = W) := fun W => ysize_any W _ _ (unhide HR2) (by simp at hs ⊢; omega)
      have hdl : (r.drop (sizeN r)).length = r.length - sizeN r := by simp
      have hal : acc.length ≤ L.length := by have := congrArg List.length (unhide HAC); simp at this; omega
      have HAC2 : Hid ((acc ++ [typeP (r.take (sizeN r))]) ++ l2 = L) := by
        have := unhide HAC
        rw [hl2] at this
        rw [List.append_assoc]
        exact this
      clear hl2 HAR HAC HS
      generalize hzz : typeP (r.take (sizeN r)) = ty at *
      have HA2 := hide hA2
      clear hA2 hA
      generalize r.drop (sizeN r) = r2 at *
      generalize hz3 : sizeN r2 = z2 at *
      have HZ3 := hide hz3
      clear hz3
      generalize hzn : sizeN r = z at *
      clear hzn hzz
      obtain ⟨R2, hR2⟩ : ∃ R2, R'.extract z r.length = R2 := ⟨_, rfl⟩
      rw [hR2] at HR2 HZ2
      have hR2s := (unhide HR2).size
      have HSZ : Hid (R2.size < R'.size) := by show R2.size < R'.size; rw [hR2s, hsz, hdl]; omega
      clear hR2s
      go_wp2_with fail
      refine (unhide HT wr).mono ?_
      rintro e w1 ⟨rfl, f1⟩
      have O1 : Orw tyc 23 2 w1 w.heap.size u2 acc := (unhide HO).below (fun j hj => f1.block j ((unhide HO).lt j hj).2)
      have F1 := (unhide HB).trans (f1.mono (unhide HB).size)
      obtain ⟨tk, tn⟩ := ty
      unfold tyV
      simp only
      have HO2 : Hid (Orw tyc 23 2 (w1.alloc (.cells #[.int .i64 tk, .string ⟨tn.toArray⟩] 23)) w.heap.size u2 acc) := O1.below (fun j hj => ((Below.refl _ _).alloc (Nat.le_refl _) _).block j (O1.lt j hj).2)
      have HF2 : Hid (Below w.heap.size w (w1.alloc (.cells #[.int .i64 tk, .string ⟨tn.toArray⟩] 23))) := bA F1 _
      have HL1 : Hid (Ls 2 tyc (w1.alloc (.cells #[.int .i64 tk, .string ⟨tn.toArray⟩] 23)) (some ⟨w1.heap.size, 0, none⟩) 1 [⟨tk, tn⟩]) := ls_one (cs := tyc) (sz := 2) w1 #[.int .i64 tk, .string ⟨tn.toArray⟩] 23 ⟨tk, tn⟩ rfl
      have hlen2 : (acc.length + 1) * 24 ≤ 140737488355328 := by simp at hs; omega
      have hlen3 : acc.length + 1 ≤ 140737488355328 := by simp at hs; omega
      have HL2 := hide hlen2
      have HL3 := hide hlen3
      clear hlen2 hlen3 O1 F1 f1 HO HB
      go_wp2_with (first
        | (at_builtin; refine listR_append rkT rfl _ _ rfl w.heap.size _ _ rfl (unhide HO2) _ 1 1 [⟨tk, tn⟩] rfl (unhide HL1) (fun e => by cases e) (unhide HL2) (unhide HL3) (unhide HF2).size ?_)
        | go_in)
      intro v' w3 o3 g3
      have HO3 := hide o3
      have HF3 := hide (grown_below (unhide HF2) (unhide HO2) g3)
      clear o3 g3
      go_wp2_with fail
      refine (unhide HZ2 w3).mono ?_
      rintro e w' ⟨rfl, hw⟩
      rw [hw]
      clear hw
      go_wp2
      go_roundw
      case rel => exact ⟨acc ++ [⟨tk, tn⟩], r2, l2, R2, HR2, rfl, by rw [unhide HZ3], HAC2, HA2, HO3, HF3, by omega⟩
      case measure => exact unhide HSZ
end Go.Proofs.Ytjhiflhmefhogaa
