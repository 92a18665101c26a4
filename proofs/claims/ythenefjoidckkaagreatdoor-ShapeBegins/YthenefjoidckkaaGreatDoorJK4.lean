/- Joined: KdP KdQ KdR KdS KdU. -/
import Derived.Test.YthenefjoidckkaaGreatDoorJK3
import Derived.Test.YthenefjoidckkaaGreatDoorJTxA
import Derived.Test.YthenefjoidckkaaGreatDoorJL1

/- A method's descriptor as plain values; the landed arguments. -/
namespace Go.Proofs.YthenefjoidckkaaGreatDoor
open Go.RowKit
set_option linter.unusedVariables false
set_option maxRecDepth 100000

/-- The types of the descriptors that a text begins with, and what is left. -/
inductive Args : List UInt8 → List Ty → List UInt8 → Prop
  | done (r : List UInt8) : sizeN r = 0 → Args r [] r
  | step (r : List UInt8) (l : List Ty) (rest : List UInt8) : 0 < sizeN r → Args (r.drop (sizeN r)) l rest → Args r (typeP (r.take (sizeN r)) :: l) rest
theorem sizeN_le (s : List UInt8) : sizeN s ≤ s.length := by rw [sizeN_is]; exact one_le s 0
theorem Args.some : ∀ (n : Nat) (r : List UInt8), r.length ≤ n → ∃ l rest, Args r l rest
  | 0, r, h => ⟨[], r, .done r (by have := sizeN_le r; omega)⟩
  | n + 1, r, h => by
    by_cases hz : sizeN r = 0
    · exact ⟨[], r, .done r hz⟩
    · obtain ⟨l, rest, hr⟩ := Args.some n (r.drop (sizeN r)) (by rw [List.length_drop]; omega)
      exact ⟨_, rest, .step r l rest (by omega) hr⟩
theorem Args.both {r : List UInt8} {l : List Ty} {rest : List UInt8} (h : Args r l rest) : (sizeN r = 0 ∧ l = [] ∧ rest = r) ∨ (0 < sizeN r ∧ ∃ l', l = typeP (r.take (sizeN r)) :: l' ∧ Args (r.drop (sizeN r)) l' rest) := by
  induction h with
  | done r h => exact .inl ⟨h, rfl, rfl⟩
  | step r l rest h0 hr _ => exact .inr ⟨h0, l, rfl, hr⟩
theorem Args.at_done {r : List UInt8} {l : List Ty} {rest : List UInt8} (h : Args r l rest) (hz : sizeN r = 0) : l = [] ∧ rest = r := by
  rcases h.both with ⟨_, h1⟩ | ⟨h0, _⟩
  · exact h1
  · omega
theorem Args.at_step {r : List UInt8} {l : List Ty} {rest : List UInt8} (h : Args r l rest) (hz : 0 < sizeN r) : ∃ l', l = typeP (r.take (sizeN r)) :: l' ∧ Args (r.drop (sizeN r)) l' rest := by
  rcases h.both with ⟨h0, _⟩ | ⟨_, h1⟩
  · omega
  · exact h1
theorem Args.len {r : List UInt8} {l : List Ty} {rest : List UInt8} (h : Args r l rest) : l.length ≤ r.length ∧ rest.length ≤ r.length := by
  induction h with
  | done r _ => exact ⟨by simp, Nat.le_refl _⟩
  | step r l rest h0 _ ih =>
    have := sizeN_le r
    rw [List.length_drop] at ih
    exact ⟨by simp only [List.length_cons]; omega, by omega⟩
theorem L_two {r : List UInt8} (h : 0 < sizeN r) (hL : (r.take (sizeN r))[0]? = some 76) : 2 ≤ (r.take (sizeN r)).length := by
  have hle := sizeN_le r
  cases r with
  | nil => simp at hL
  | cons c t =>
    rw [List.getElem?_take, if_pos h] at hL
    simp at hL
    subst hL
    have hd : deepN (76 :: t) = 0 := by simp [deepN]
    have : 2 ≤ sizeN (76 :: t) := by
      unfold sizeN at h ⊢
      rw [hd] at h ⊢
      simp [innN] at h ⊢
      repeat' split at h
      all_goals first | omega | skip
      repeat' split
      all_goals first | omega | (simp_all; done)
    rw [List.length_take]
    omega
set_option maxHeartbeats 1600000 in
theorem yargs_any (w : World) (S : ByteArray) (t : List UInt8) (hS : Str S (40 :: t)) (hs : (40 :: t).length ≤ 1000000) (L : List Ty) (rest : List UInt8) (hA : Args t L rest) : Calls Tryz.prog 40 #[.string S] w fun e w' => ∃ v, e = .returned (.tuple #[v, .string ⟨rest.toArray⟩]) ∧ Orw tyc 52 2 w' w.heap.size v L ∧ Below w.heap.size w w' := by
  have HC := hide (strCutP_any w S ⟨#[40]⟩)
  rw [hS.data] at HC
  have hp : Lib.hasPrefix (40 :: t) (⟨#[40]⟩ : ByteArray).data.toList = true := by
    have := pre_one (40 :: t) 40
    show Lib.hasPrefix (40 :: t) [40] = true
    rw [this]
    rfl
  rw [hp, if_pos rfl] at HC
  have hR0 : Str (S.extract (⟨#[40]⟩ : ByteArray).size S.size) t := by
    have := hS.sub 1 S.size
    rw [hS.size, show ((40 :: t).drop 1).take ((40 :: t).length - 1) = t by simp] at this
    rw [hS.size]
    exact this
  generalize S.extract (⟨#[40]⟩ : ByteArray).size S.size = R at *
  have hR := hide hR0
  clear hp hS hR0
  go_enter Tryz.func40, Tryz.ntmps40
  go_wp2_with (go_at_call 57; refine (unhide HC).mono ?_; rintro e w' ⟨rfl, hw⟩; rw [hw]; clear hw)
  refine (ysize_any w R t (unhide hR) (by simp at hs; omega)).mono ?_
  rintro e w' ⟨rfl, hw⟩
  rw [hw]
  clear hw
  have hlt := hA.len
  go_wp2
  go_loopw [2, 3, 5] (fun av rv nv wr => ∃ (acc : List Ty) (r : List UInt8) (l' : List Ty) (R' : ByteArray), Hid (Str R' r) ∧ rv = .string R' ∧ nv = .int .i64 (sizeN r) ∧ Hid (acc ++ l' = L) ∧ Hid (Args r l' rest) ∧ Hid (Orw tyc 52 2 wr w.heap.size av acc) ∧ Hid (Below w.heap.size w wr) ∧ r.length ≤ t.length) (fun av rv nv wr => match rv with | .string X => X.size | _ => 0)
  case atStart => exact ⟨[], t, L, R, hR, rfl, rfl, rfl, hA, Orw.nil _ _ _ _ _, Below.refl _ _, Nat.le_refl _⟩
  case round =>
    obtain ⟨acc, r, l', R', HS, rfl, rfl, HAC, HAR, HO, HB, hrl⟩ := hrel
    by_cases hz : sizeN r = 0
    · obtain ⟨rfl, rfl⟩ := (unhide HAR).at_done hz
      rw [hz]
      have HE := hide (unhide HS).eq
      go_wp2
      go_ret2
      refine ⟨u2, by rw [← unhide HE]; rfl, ?_, unhide HB⟩
      have := unhide HAC
      rw [List.append_nil] at this
      rw [← this]
      exact unhide HO
    · have hz1 : 0 < sizeN r := by omega
      have hz2 : (0 : Int) < (sizeN r : Int) := by omega
      obtain ⟨l2, hl2, hA2⟩ := (unhide HAR).at_step hz1
      have hzl := sizeN_le r
      have hsz := (unhide HS).size
      have hzl2 : (sizeN r : Int) ≤ (r.length : Int) := by omega
      have HT : Hid (∀ W, Calls Tryz.prog 59 #[.string (R'.extract 0 (sizeN r))] W fun e w' => e = .returned (tyV (typeP (r.take (sizeN r)))) ∧ Below W.heap.size W w') := fun W => by
        have := (unhide HS).sub 0 (sizeN r)
        simp only [List.drop_zero, Nat.sub_zero] at this
        exact ytypeOf_any W _ _ this (by simp at hs ⊢; omega) (by rw [List.length_take]; omega) (L_two hz1)
      have HR2 : Hid (Str (R'.extract (sizeN r) r.length) (r.drop (sizeN r))) := by
        have := (unhide HS).sub (sizeN r) r.length
        rw [show (r.drop (sizeN r)).take (r.length - sizeN r) = r.drop (sizeN r) from List.take_of_length_le (by simp)] at this
        exact this
      have HZ2 : Hid (∀ W, Calls Tryz.prog 58 #[.string (R'.extract (sizeN r) r.length)] W fun e w' => e = .returned (.int .i64 (sizeN (r.drop (sizeN r)))) ∧ w' = W) := fun W => ysize_any W _ _ (unhide HR2) (by simp at hs ⊢; omega)
      have hdl : (r.drop (sizeN r)).length = r.length - sizeN r := by simp
      have hal : acc.length ≤ L.length := by have := congrArg List.length (unhide HAC); simp at this; omega
      have HAC2 : Hid ((acc ++ [typeP (r.take (sizeN r))]) ++ l2 = L) := by
        have := unhide HAC
        rw [hl2] at this
        rw [List.append_assoc]
        exact this
      clear hl2 HAR HAC HS
      generalize hzz : typeP (r.take (sizeN r)) = ty at *
      have HA2 := hide hA2
      clear hA2 hA
      generalize r.drop (sizeN r) = r2 at *
      generalize hz3 : sizeN r2 = z2 at *
      have HZ3 := hide hz3
      clear hz3
      generalize hzn : sizeN r = z at *
      clear hzn hzz
      obtain ⟨R2, hR2⟩ : ∃ R2, R'.extract z r.length = R2 := ⟨_, rfl⟩
      rw [hR2] at HR2 HZ2
      have hR2s := (unhide HR2).size
      have HSZ : Hid (R2.size < R'.size) := by show R2.size < R'.size; rw [hR2s, hsz, hdl]; omega
      clear hR2s
      go_wp2_with fail
      refine (unhide HT wr).mono ?_
      rintro e w1 ⟨rfl, f1⟩
      have O1 : Orw tyc 52 2 w1 w.heap.size u2 acc := (unhide HO).below (fun j hj => f1.block j ((unhide HO).lt j hj).2)
      have F1 := (unhide HB).trans (f1.mono (unhide HB).size)
      obtain ⟨tk, tn⟩ := ty
      unfold tyV
      simp only
      have HO2 : Hid (Orw tyc 52 2 (w1.alloc (.cells #[.int .i64 tk, .string ⟨tn.toArray⟩] 52)) w.heap.size u2 acc) := O1.below (fun j hj => ((Below.refl _ _).alloc (Nat.le_refl _) _).block j (O1.lt j hj).2)
      have HF2 : Hid (Below w.heap.size w (w1.alloc (.cells #[.int .i64 tk, .string ⟨tn.toArray⟩] 52))) := bA F1 _
      have HL1 : Hid (Ls 2 tyc (w1.alloc (.cells #[.int .i64 tk, .string ⟨tn.toArray⟩] 52)) (some ⟨w1.heap.size, 0, none⟩) 1 [⟨tk, tn⟩]) := ls_one (cs := tyc) (sz := 2) w1 #[.int .i64 tk, .string ⟨tn.toArray⟩] 52 ⟨tk, tn⟩ rfl
      have hlen2 : (acc.length + 1) * 24 ≤ 140737488355328 := by simp at hs; omega
      have hlen3 : acc.length + 1 ≤ 140737488355328 := by simp at hs; omega
      have HL2 := hide hlen2
      have HL3 := hide hlen3
      clear hlen2 hlen3 O1 F1 f1 HO HB
      go_wp2_with (first
        | (at_builtin; refine listR_append rkT rfl _ _ rfl w.heap.size _ _ rfl (unhide HO2) _ 1 1 [⟨tk, tn⟩] rfl (unhide HL1) (fun e => by cases e) (unhide HL2) (unhide HL3) (unhide HF2).size ?_)
        | go_in)
      intro v' w3 o3 g3
      have HO3 := hide o3
      have HF3 := hide (grown_below (unhide HF2) (unhide HO2) g3)
      clear o3 g3
      go_wp2_with fail
      refine (unhide HZ2 w3).mono ?_
      rintro e w' ⟨rfl, hw⟩
      rw [hw]
      clear hw
      go_wp2
      go_roundw
      case rel => exact ⟨acc ++ [⟨tk, tn⟩], r2, l2, R2, HR2, rfl, by rw [unhide HZ3], HAC2, HA2, HO3, HF3, by omega⟩
      case measure => exact unhide HSZ
end Go.Proofs.YthenefjoidckkaaGreatDoor

/- The landed answer, Method. -/
namespace Go.Proofs.YthenefjoidckkaaGreatDoor
open Go.RowKit
set_option linter.unusedVariables false
set_option maxRecDepth 100000

set_option maxHeartbeats 800000 in
theorem yargs_no (w : World) (S : ByteArray) (s : List UInt8) (hS : Str S s) (h : s[0]? ≠ some 40) : Calls Tryz.prog 40 #[.string S] w fun e w' => e = .returned (.tuple #[.slice none 0 0, .string ⟨#[]⟩]) ∧ w' = w := by
  have HC := hide (strCutP_any w S ⟨#[40]⟩)
  rw [hS.data] at HC
  have hp : Lib.hasPrefix s (⟨#[40]⟩ : ByteArray).data.toList = false := by
    have := pre_one s 40
    show Lib.hasPrefix s [40] = false
    rw [this]
    exact decide_eq_false h
  rw [hp, if_neg (by decide)] at HC
  clear hp hS
  go_enter Tryz.func40, Tryz.ntmps40
  go_wp2_with (go_at_call 57; refine (unhide HC).mono ?_; rintro e w' ⟨rfl, hw⟩; rw [hw]; clear hw)
  go_ret2
  exact ⟨rfl, rfl⟩
/-- What a method answers, told by what stands behind its arguments. -/
def ansP (r : List UInt8) : Ty × Int := if r[0]? = some 41 then (if r.drop 1 = [86] then (ty0, 0) else parP (r.drop 1)) else (ty0, 100)
set_option maxHeartbeats 1600000 in
theorem yans_any (w : World) (S : ByteArray) (s : List UInt8) (hS : Str S s) (hs : s.length ≤ 140737488351232) : Calls Tryz.prog 41 #[.string S] w fun e w' => e = .returned (.tuple #[tyV (ansP s).1, .int .i64 (ansP s).2]) ∧ Below w.heap.size w w' := by
  obtain ⟨w0, hw0⟩ : ∃ w0, w0 = w.alloc (.cells #[.int .i64 0, .string ⟨#[]⟩] 52) := ⟨_, rfl⟩
  have HB : Hid (Bx2c w0 w.heap.size (.int .i64 0) (.string ⟨#[]⟩)) := by rw [hw0]; exact Bx2c.made _ _ _
  have F0 : Hid (Below w.heap.size w w0) := by rw [hw0]; exact bA (Below.refl _ _) _
  have HW0 := hide hw0
  clear hw0
  have HC := hide (strCutP_any w0 S ⟨#[41]⟩)
  rw [hS.data] at HC
  have hpre := pre_one s 41
  unfold ansP
  by_cases h : s[0]? = some 41
  case neg =>
    have hp : Lib.hasPrefix s (⟨#[41]⟩ : ByteArray).data.toList = false := by
      show Lib.hasPrefix s [41] = false
      rw [hpre]
      exact decide_eq_false h
    rw [hp, if_neg (by decide)] at HC
    rw [if_neg h]
    show Calls _ _ _ _ fun e w' => e = .returned (.tuple #[.agg #[.int .i64 0, .string ⟨#[]⟩], .int .i64 100]) ∧ Below w.heap.size w w'
    obtain ⟨k0, k1, k2⟩ := (unhide HB).cells
    clear hp hS hpre h
    go_enter Tryz.func41, Tryz.ntmps41
    go_wp2_with fail
    rw [← unhide HW0]
    refine (unhide HC).mono ?_
    rintro e w' ⟨rfl, hw⟩
    rw [hw]
    clear hw
    go_wp2
    exact bodyPost_ret (ty_ret2 Tryz.results41 _ w.heap.size _ _ (ty_set _ _ (unhide HB).row) _ rfl) rfl ⟨rfl, ty_bel _ _ (unhide F0) (Nat.le_refl _)⟩
  case pos =>
    rw [if_pos h]
    have hp : Lib.hasPrefix s (⟨#[41]⟩ : ByteArray).data.toList = true := by
      show Lib.hasPrefix s [41] = true
      rw [hpre]
      exact decide_eq_true h
    rw [hp, if_pos rfl] at HC
    obtain ⟨t, rfl⟩ : ∃ t, s = 41 :: t := by
      cases s with
      | nil => simp at h
      | cons c t => simp at h; exact ⟨t, by rw [h]⟩
    have hR0 : Str (S.extract (⟨#[41]⟩ : ByteArray).size S.size) t := by
      have := hS.sub 1 S.size
      rw [hS.size, show ((41 :: t).drop 1).take ((41 :: t).length - 1) = t by simp] at this
      rw [hS.size]
      exact this
    simp only [List.drop_succ_cons, List.drop_zero]
    generalize S.extract (⟨#[41]⟩ : ByteArray).size S.size = R at *
    have HR := hide hR0
    clear hp hS hpre h hR0
    by_cases hV : t = [86]
    · rw [if_pos hV]
      show Calls _ _ _ _ fun e w' => e = .returned (.tuple #[.agg #[.int .i64 0, .string ⟨#[]⟩], .int .i64 0]) ∧ Below w.heap.size w w'
      obtain rfl : R = ⟨#[86]⟩ := by rw [(unhide HR).eq, hV]
      obtain ⟨k0, k1, k2⟩ := (unhide HB).cells
      clear HR hV
      go_enter Tryz.func41, Tryz.ntmps41
      go_wp2_with fail
      rw [← unhide HW0]
      refine (unhide HC).mono ?_
      rintro e w' ⟨rfl, hw⟩
      rw [hw]
      clear hw
      go_wp2
      exact bodyPost_ret (ty_ret2 Tryz.results41 _ w.heap.size _ _ (ty_set _ _ (unhide HB).row) _ rfl) rfl ⟨rfl, ty_bel _ _ (unhide F0) (Nat.le_refl _)⟩
    · rw [if_neg hV]
      have HP := hide (yParse_any w0 R t (unhide HR) (by simp at hs; omega))
      have i1 : ¬ R.toList = [86] := by rw [(unhide HR).list]; exact hV
      have i2 : (R.toList == [86]) = false := by simpa using i1
      generalize parP t = pp at *
      obtain ⟨⟨tk, tn⟩, te⟩ := pp
      unfold tyV at *
      simp only at HP ⊢
      generalize (⟨tn.toArray⟩ : ByteArray) = T at *
      clear hV HR
      go_enter Tryz.func41, Tryz.ntmps41
      go_wp2_with fail
      rw [← unhide HW0]
      refine (unhide HC).mono ?_
      rintro e w' ⟨rfl, hw⟩
      rw [hw]
      clear hw
      go_wp2_with fail
      refine (unhide HP).mono ?_
      rintro e w1 ⟨rfl, f1⟩
      have HB1 := hide ((unhide HB).keep f1)
      have F1 := hide ((unhide F0).trans (f1.mono (unhide F0).size))
      obtain ⟨k0, k1, k2⟩ := (unhide HB1).cells
      clear f1
      go_wp2
      exact bodyPost_ret (ty_ret2 Tryz.results41 _ w.heap.size _ _ (ty_set _ _ (unhide HB1).row) _ rfl) rfl ⟨rfl, ty_bel _ _ (unhide F1) (Nat.le_refl _)⟩
def metP (L : List Ty) (rest : List UInt8) : List Ty × Ty × Int := if (ansP rest).2 = 0 then (if 32 < wideN L then ([], ty0, 3) else (L, (ansP rest).1, 0)) else ([], ty0, 100)
theorem ansP_err (r : List UInt8) : (ansP r).2 = 0 ∨ (ansP r).2 = 100 := by
  unfold ansP
  repeat' split
  · exact .inl rfl
  · exact parP_err _
  · exact .inr rfl
end Go.Proofs.YthenefjoidckkaaGreatDoor

/- The landed Method. -/
namespace Go.Proofs.YthenefjoidckkaaGreatDoor
open Go.RowKit
set_option linter.unusedVariables false
set_option maxRecDepth 100000

structure ArgsOf (s : List UInt8) (L : List Ty) (rest : List UInt8) : Prop where
  yes : s[0]? = some 40 → Args (s.drop 1) L rest
  no : s[0]? ≠ some 40 → L = [] ∧ rest = []
theorem ArgsOf.there (s : List UInt8) : ∃ L rest, ArgsOf s L rest := by
  by_cases h : s[0]? = some 40
  · obtain ⟨L, rest, hA⟩ := Args.some (s.drop 1).length (s.drop 1) (Nat.le_refl _)
    exact ⟨L, rest, fun _ => hA, fun hn => absurd h hn⟩
  · exact ⟨[], [], fun hy => absurd hy h, fun _ => ⟨rfl, rfl⟩⟩
theorem ArgsOf.len {s : List UInt8} {L : List Ty} {rest : List UInt8} (h : ArgsOf s L rest) : L.length ≤ s.length ∧ rest.length ≤ s.length := by
  by_cases h1 : s[0]? = some 40
  · have := (h.yes h1).len
    simp at this
    omega
  · obtain ⟨rfl, rfl⟩ := h.no h1
    simp
theorem yargs_all (w : World) (S : ByteArray) (s : List UInt8) (hS : Str S s) (hs : s.length ≤ 1000000) (L : List Ty) (rest : List UInt8) (hA : ArgsOf s L rest) : Calls Tryz.prog 40 #[.string S] w fun e w' => ∃ v, e = .returned (.tuple #[v, .string ⟨rest.toArray⟩]) ∧ Orw tyc 52 2 w' w.heap.size v L ∧ Below w.heap.size w w' := by
  by_cases h1 : s[0]? = some 40
  · obtain ⟨t, rfl⟩ : ∃ t, s = 40 :: t := by
      cases s with
      | nil => simp at h1
      | cons c t => simp at h1; exact ⟨t, by rw [h1]⟩
    exact yargs_any w S t hS hs L rest (hA.yes rfl)
  · obtain ⟨rfl, rfl⟩ := hA.no h1
    refine (yargs_no w S s hS h1).mono ?_
    rintro e w' ⟨rfl, rfl⟩
    exact ⟨_, rfl, Orw.nil _ _ _ _ _, Below.refl _ _⟩
theorem results_tmp_cell_tmp {fn : Func} {u p v : Tmp} {ty : TypeId} (h : fn.results = #[.tmp u, .cell p ty, .tmp v]) (tmps : Array Value) (P : Program) (w : World) :
    (results fn tmps).run P w =
      ((asAddr (tmps.getD p undef)).run P w).andThen fun a w₁ => ((loadVar ty a).run P w₁).andThen fun x w₂ => .ok (.tuple #[tmps.getD u undef, x, tmps.getD v undef]) w₂ := by
  simp only [results, h]
  simp [Sem.run_bind, Result.andThen]
theorem ty_ret3 {fn : Func} {u p v : Tmp} (h : fn.results = #[.tmp u, .cell p 52, .tmp v]) (W : World) (r : Nat) (x y : Value) (hb : W.heap[r]? = some (.cells #[x, y] 52 (0, 0))) (tmps : Array Value) (hp : tmps.getD p undef = .pointer (some ⟨r, 0, none⟩)) :
    (results fn tmps).run Tryz.prog W = .ok (.tuple #[tmps.getD u undef, .agg #[x, y], tmps.getD v undef]) W := by
  rw [results_tmp_cell_tmp h, hp]
  simp [asAddr, run_loadVar_row W r 52 52 _ (0, 0) _ hb Tryz.underlying52 rfl sizeTy]
set_option maxHeartbeats 1600000 in
theorem yMethod_any (w : World) (S : ByteArray) (s : List UInt8) (hS : Str S s) (hs : s.length ≤ 1000000) (L : List Ty) (rest : List UInt8) (hA : ArgsOf s L rest) : Calls Tryz.prog 22 #[.string S] w fun e w' => ∃ v, e = .returned (.tuple #[v, tyV (metP L rest).2.1, .int .i64 (metP L rest).2.2]) ∧ Orw tyc 52 2 w' w.heap.size v (metP L rest).1 ∧ Below w.heap.size w w' := by
  obtain ⟨w0, hw0⟩ : ∃ w0, w0 = w.alloc (.cells #[.int .i64 0, .string ⟨#[]⟩] 52) := ⟨_, rfl⟩
  have HB : Hid (Bx2c w0 w.heap.size (.int .i64 0) (.string ⟨#[]⟩)) := by rw [hw0]; exact Bx2c.made _ _ _
  have F0 : Hid (Below w.heap.size w w0) := by rw [hw0]; exact bA (Below.refl _ _) _
  have HW0 := hide hw0
  clear hw0
  have HG := hide (yargs_all w0 S s hS hs L rest hA)
  have hlen := hA.len
  have HN : Hid (∀ W, Calls Tryz.prog 41 #[.string ⟨rest.toArray⟩] W fun e w' => e = .returned (.tuple #[tyV (ansP rest).1, .int .i64 (ansP rest).2]) ∧ Below W.heap.size W w') := fun W => yans_any W _ rest ⟨rfl⟩ (by omega)
  have hae := ansP_err rest
  unfold metP
  generalize ansP rest = an at *
  obtain ⟨⟨bk, bn⟩, be⟩ := an
  unfold tyV at *
  simp only at HN hae ⊢
  clear hS hA
  obtain ⟨MV, hMV⟩ : ∃ MV, MV = (if be = 0 then (if 32 < wideN L then (([] : List Ty), ty0, (3 : Int)) else (L, ⟨bk, bn⟩, 0)) else ([], ty0, 100)) := ⟨_, rfl⟩
  rw [← hMV]
  have HMV := hide hMV
  clear hMV
  go_enter Tryz.func22, Tryz.ntmps22
  go_wp2_with fail
  rw [← unhide HW0]
  refine (unhide HG).mono ?_
  rintro e w1 ⟨v, rfl, o1, f1⟩
  have HB1 := hide ((unhide HB).keep f1)
  have F1 := hide ((unhide F0).trans (f1.mono (unhide F0).size))
  have HO1 := hide o1
  have HSZ : Hid (w.heap.size < w0.heap.size) := lt_of_heap (unhide HB).row
  clear f1 o1
  go_wp2_with fail
  refine (unhide HN w1).mono ?_
  rintro e w2 ⟨rfl, f2⟩
  obtain ⟨T, hT⟩ : ∃ T : ByteArray, ⟨bn.toArray⟩ = T := ⟨_, rfl⟩
  rw [hT]
  have HT := hide hT
  clear hT
  have HB3 : Hid (Bx2c (w2.alloc (.cells #[.int .i64 bk, .string T] 52)) w.heap.size _ _) := ((unhide HB1).keep f2).keep (bA (Below.refl _ _) _)
  have F2 := (unhide F1).trans (f2.mono (unhide F1).size)
  have F3 : Hid (Below w.heap.size w (w2.alloc (.cells #[.int .i64 bk, .string T] 52))) := bA F2 _
  have HY : Hid (Bx2c (w2.alloc (.cells #[.int .i64 bk, .string T] 52)) w2.heap.size _ _) := Bx2c.made _ _ _
  have O2 : Orw tyc 52 2 w2 w0.heap.size v L := (unhide HO1).below (fun j hj => f2.block j ((unhide HO1).lt j hj).2)
  have HO3 : Hid (Orw tyc 52 2 (w2.alloc (.cells #[.int .i64 bk, .string T] 52)) w0.heap.size v L) := O2.below (fun j hj => ((Below.refl _ _).alloc (Nat.le_refl _) _).block j (O2.lt j hj).2)
  have H12 : Hid (w1.heap.size ≤ w2.heap.size) := f2.size
  clear O2 F2 f2
  rcases hae with rfl | rfl
  · obtain ⟨va, vc, hv, hv1, hv2, hv3⟩ := (unhide HO3).form
    have HW := hide (yWide_any _ va L.length vc L (by have := unhide HO3; rw [hv] at this; exact this.ls rkT) (by omega))
    rw [hv]
    have HV := hide hv
    rw [hv] at HO3
    clear hv HV hv1 hv2 hv3
    go_wp2_with fail
    refine (unhide HW).mono ?_
    rintro e w4 ⟨rfl, f4⟩
    have HB4 := hide ((unhide HB3).keep f4)
    have F4 := hide ((unhide F3).trans (f4.mono (unhide F3).size))
    have HY4 := hide ((unhide HY).keep f4)
    have HO4 : Hid (Orw tyc 52 2 w4 w0.heap.size (.slice va L.length vc) L) := (unhide HO3).below (fun j hj => f4.block j ((unhide HO3).lt j hj).2)
    obtain ⟨k0, k1, k2⟩ := (unhide HB4).cells
    obtain ⟨j0, j1, j2⟩ := (unhide HY4).cells
    clear f4 HW
    by_cases h32 : 32 < wideN L
    · have h32' : (32 : Int) < (wideN L : Int) := by omega
      go_wp2
      refine bodyPost_ret (ty_ret3 Tryz.results22 _ w.heap.size _ _ (ty_set _ _ (unhide HB4).row) _ rfl) rfl ?_
      have hm : MV = ([], ty0, 3) := (unhide HMV).trans (by simp [h32])
      rw [hm]
      exact ⟨_, rfl, Orw.nil _ _ _ _ _, ty_bel _ _ (unhide F4) (Nat.le_refl _)⟩
    · have h32' : ¬ (32 : Int) < (wideN L : Int) := by omega
      have h32'' : (wideN L : Int) ≤ 32 := by omega
      have HBd : Hid (Bx2c w4.drew w.heap.size _ _) := (unhide HB4).keep (Below.refl _ _).drew
      have Fd : Hid (Below w.heap.size w w4.drew) := (unhide F4).drew
      have HOd : Hid (Orw tyc 52 2 w4.drew w0.heap.size (.slice va L.length vc) L) := (unhide HO4).below (fun _ _ => rfl)
      obtain ⟨SS, hSS⟩ : ∃ SS : World → Prop, SS = fun W => Bx2c W w2.heap.size (.int .i64 bk) (.string T) := ⟨_, rfl⟩
      have KS : Hid (∀ W, SS W ↔ Bx2c W w2.heap.size (.int .i64 bk) (.string T)) := fun W => by rw [hSS]
      have hne2 : ¬ w2.heap.size = w.heap.size := fun e => by
        have h1 := (unhide F1).size
        have h2 := lt_of_heap (unhide HB1).row
        have h3 := lt_of_heap (unhide HY4).row
        have h4 := unhide HSZ
        have h5 := unhide H12
        omega
      have HN2 := hide hne2
      clear hSS hne2
      go_wp2
      refine wp_region_txt SS [3] [0, 1, 2, 3, 4] (by kernel_rfl) (by kernel_rfl) ((unhide KS _).2 ((unhide HY4).keep (Below.refl _ _).drew)) ?_
      repeat (first
        | (refine Txt.reads (v := ?_) (by rfl) (by rfl) (by rfl) ?_ ?_; rotate_left; (focus ((intro W hSW; obtain ⟨p0, p1, p2⟩ := ((unhide KS W).1 hSW).cells; go_simp) <;> with_reducible rfl)); simp only [Act.put, List.setIfInBounds_toArray, List.set_cons_zero, List.set_cons_succ]))
      refine Txt.acts (by rfl) (by rfl) (by rfl) (fun K hK => ?_)
      obtain ⟨d0, d1, d2⟩ := (unhide HBd).cells
      go_simp
      refine hK.out _ _ ((unhide KS _).2 ⟨?_⟩) ?_
      · have hr := ((unhide HY4).keep (Below.refl _ _).drew).row
        exact (Below.heap_setCell _ _ _ _ (unhide HN2)).trans ((Below.heap_setCell _ _ _ _ (unhide HN2)).trans hr)
      clear hK K
      repeat (first
        | (refine Txt.reads (v := ?_) (by rfl) (by rfl) (by rfl) ?_ ?_; rotate_left; (focus ((intro W hSW; obtain ⟨p0, p1, p2⟩ := ((unhide KS W).1 hSW).cells; go_simp) <;> with_reducible rfl)); simp only [Act.put, List.setIfInBounds_toArray, List.set_cons_zero, List.set_cons_succ]))
      refine Txt.done ?_
      go_wp2
      refine bodyPost_ret (ty_ret3 Tryz.results22 _ w.heap.size _ _ (ty_set _ _ (unhide HBd).row) _ rfl) rfl ?_
      have hm : MV = (L, ⟨bk, bn⟩, 0) := (unhide HMV).trans (by simp [h32])
      rw [hm]
      refine ⟨.slice va L.length vc, by rw [show (⟨(⟨bk, bn⟩ : Ty).name.toArray⟩ : ByteArray) = T from unhide HT]; rfl, ?_, ty_bel _ _ (unhide Fd) (Nat.le_refl _)⟩
      refine ((unhide HOd).below (fun j hj => ?_)).base (unhide F0).size
      have hne : ¬ j = w.heap.size := fun e => by have := ((unhide HOd).lt j hj).1; have := unhide HSZ; omega
      exact (Below.heap_setCell _ _ _ _ hne).trans (Below.heap_setCell _ _ _ _ hne)
  · obtain ⟨k0, k1, k2⟩ := (unhide HB3).cells
    go_wp2
    refine bodyPost_ret (ty_ret3 Tryz.results22 _ w.heap.size _ _ (ty_set _ _ (unhide HB3).row) _ rfl) rfl ?_
    have hm : MV = ([], ty0, 100) := (unhide HMV).trans (by simp)
    rw [hm]
    exact ⟨_, rfl, Orw.nil _ _ _ _ _, ty_bel _ _ (unhide F3) (Nat.le_refl _)⟩
end Go.Proofs.YthenefjoidckkaaGreatDoor

/- The chapter's example. -/
namespace Go.Proofs.YthenefjoidckkaaGreatDoor
open Go.RowKit
set_option linter.unusedVariables false
set_option maxRecDepth 100000

end Go.Proofs.YthenefjoidckkaaGreatDoor

/- Types and texts that came in, opened; the walk of KindBack. -/
namespace Go.Proofs.YthenefjoidckkaaGreatDoor
open Go.ChangeShapes Go.WideShapes Go.ChangeAt Go.RowKit
set_option linter.unusedVariables false
set_option maxRecDepth 100000

def nmFit (s : List UInt8) : Prop := s.length ≤ 140737488351232
structure TyIn (t : Ty) : Prop where
  kind : fitI t.kind
  name : nmFit t.name
theorem str_leaf10 {H : Type} {enc : TypeId × Value → H} {w : World} {base m o : Nat} {cs : List Value} {y : DataW H × List MemPlace}
    (h : DataW.trod enc Tryz.prog w base (fun _ => true) true m 9 ((cs.drop o).take (Tryz.prog.cellsOf 9)) = some y) (hw : ∀ k ∈ y.1.weights Tryz.prog 9, k ≤ reachBytes) : ∃ s : List UInt8, cs[o]? = some (.string ⟨s.toArray⟩) ∧ nmFit s := by
  rw [cellsS7] at h
  obtain ⟨s, e1, hx1, hs⟩ := DataW.trod_string Tryz.underlying9 h
  refine ⟨s.data.toList, ?_, ?_⟩
  · rw [take_one e1]
  · have hm := hw s.data.toList.length (by rw [hx1]; simp [DataW.weights])
    unfold reachBytes at hm
    exact hm
theorem ty_cells10 {H : Type} {enc : TypeId × Value → H} {w : World} {base : Nat} (n : Nat) (cs : List Value) (x : DataW H × List MemPlace)
    (h : DataW.trod enc Tryz.prog w base (fun _ => true) true n 52 cs = some x) (hw : ∀ m ∈ x.1.weights Tryz.prog 52, m ≤ reachBytes) :
    ∃ y : Ty, cs = tyc y ∧ TyIn y := by
  have hl : cs.length = 2 := st_len Tryz.underlying52 (by kernel_rfl) h
  obtain ⟨_, y0, g0, w0⟩ := st_field Tryz.underlying52 h hw (i := 0) rfl
  obtain ⟨v0, c0, f0⟩ := int_leaf (o := 0) g0
  obtain ⟨_, y1, g1, w1⟩ := st_field Tryz.underlying52 h hw (i := 1) rfl
  obtain ⟨v1, c1, f1⟩ := str_leaf10 (o := 1) g1 w1
  refine ⟨⟨v0, v1⟩, ?_, ⟨f0, f1⟩⟩
  apply List.ext_getElem?
  intro i
  match i with
  | 0 => rw [c0]; rfl
  | 1 => rw [c1]; rfl
  | k + 2 => rw [List.getElem?_eq_none (by omega)]; rfl
theorem typeP_len (s : List UInt8) : (typeP s).name.length ≤ s.length := by
  unfold typeP
  repeat' split
  all_goals simp
  all_goals omega
end Go.Proofs.YthenefjoidckkaaGreatDoor
