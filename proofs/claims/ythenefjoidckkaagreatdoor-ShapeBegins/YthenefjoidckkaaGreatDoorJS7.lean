/- Joined: ShU ShT ShV. -/
import Derived.Test.YthenefjoidckkaaGreatDoorJShN
import Derived.Test.YthenefjoidckkaaGreatDoorJS6
import Derived.Test.YthenefjoidckkaaGreatDoorJShQ

/- Layer 11: deeds are done one by one. -/
namespace Go.Proofs.YthenefjoidckkaaGreatDoor
open Go.RowKit
set_option linter.unusedVariables false
set_option maxRecDepth 100000

/-- How great a state is; ne: there is something in hand. -/
structure Bd (m : Nat) (ne : Bool) (x : Wst) : Prop where
  st : x.st.length + x.ha.length ≤ m
  lo : x.lo.length ≤ 1000000
  ar : x.ar.length ≤ 1000
  ha : ne = true → x.ha ≠ []
/-- A function does a deed. -/
structure DOk (C : Wcx) (v : Value) (d : Deed) (ne ne' : Bool) : Prop where
  fn : ∃ (g : Nat) (bs : Array Value), v = .func (.func g) bs #[] ∧ (∀ args w, (callFunc g args).run Tryz.prog w = .ok (.enter g args) w) ∧ ∀ m x, m ≤ 1000000 → Bd m ne x → ∀ W, WK C x W → Calls Tryz.prog g bs W fun e w' => Dp C W (d x) e w'
  gr : ∀ m x x', Bd m ne x → d x = some x' → Bd (2 * m + 1) ne' x'
def Ch (C : Wcx) : Bool → List (Value × Deed) → Prop
  | _, [] => True
  | ne, p :: l => ∃ ne', DOk C p.1 p.2 ne ne' ∧ Ch C ne' l
set_option maxHeartbeats 1000000 in
theorem p11done_any (C : Wcx) (W : World) (t : List (Value × Deed)) (x : Wst) (v : Value) (base : Nat) (hv : Orw vf 103 1 W base v (t.map Prod.fst)) (ht : t.length ≤ 8) (ne : Bool) (hc : Ch C ne t) (m : Nat) (hm : m + 1 ≤ 1000) (hb : Bd m ne x) (k : WK C x W) :
    Calls Tryz.prog 38 #[v] W fun e w' => Dp C W (doD (t.map Prod.snd) x) e w' := by
  obtain ⟨a, c, rfl, _⟩ := hv.form
  obtain ⟨n, hn⟩ : ∃ n, t.length = n := ⟨_, rfl⟩
  rw [List.length_map, hn] at hv ⊢
  rw [hn] at ht
  obtain ⟨r, hr⟩ : ∃ r, r = doD (t.map Prod.snd) x := ⟨_, rfl⟩
  rw [← hr]
  have HV := hide hv
  have HC := hide hc
  have HB := hide hb
  have HK := hide k
  have HR : Hid (doD ((t.drop 0).map Prod.snd) x = r) := hr.symm
  have HN := hide hn
  clear hv hc hb k hr hn
  go_enter Tryz.func38, Tryz.ntmps38
  go_wp2
  go_loopw [7] (fun vk wr => ∃ (j m' : Nat) (nj : Bool) (y : Wst), j ≤ n ∧ vk = .int .i64 j ∧ Hid (WK C y wr) ∧ Hid (KeepsW C W wr) ∧ Hid (Bd m' nj y) ∧ Hid (m' + 1 ≤ 1000 * 2 ^ j) ∧ Hid (Ch C nj (t.drop j)) ∧ Hid (doD ((t.drop j).map Prod.snd) y = r)) (fun vk _ => n - (intOf vk).toNat)
  case atStart => exact ⟨0, m, ne, x, by omega, rfl, HK, KeepsW.refl _ _, HB, by show m + 1 ≤ 1000 * 2 ^ 0; omega, HC, HR⟩
  case round =>
    obtain ⟨j, m', nj, y, hj, rfl, HKy, HKP, HBy, HM, HCj, HRj⟩ := hrel
    by_cases hlt : j < n
    case neg =>
      obtain rfl : j = n := by omega
      have HR1 : Hid (r = some y) := by
        have := unhide HRj
        rw [List.drop_of_length_le (by rw [unhide HN]; exact Nat.le_refl _)] at this
        exact this.symm
      clear HRj HCj
      go_wp2
      go_ret
      rw [unhide HR1]
      exact ⟨rfl, unhide HKy, unhide HKP⟩
    have hlt1 : (j : Int) < (n : Int) := by omega
    have hjt : j < t.length := by rw [unhide HN]; exact hlt
    have hdr : t.drop j = t[j] :: t.drop (j + 1) := List.drop_eq_getElem_cons hjt
    obtain ⟨p, hp⟩ : ∃ p, p = t[j] := ⟨_, rfl⟩
    rw [← hp] at hdr
    rw [hdr] at HCj HRj
    obtain ⟨ne', dok, hch⟩ := unhide HCj
    obtain ⟨g, bs, hpv, eg, hcall⟩ := dok.fn
    have hpow : 2 ^ j ≤ 256 := Nat.le_trans (Nat.pow_le_pow_right (by omega) (by omega : j ≤ 8)) (by decide)
    have hP := hcall m' y (by have := unhide HM; omega) (unhide HBy) wr (unhide HKy)
    have hV2 : Orw vf 103 1 wr base (.slice a n c) (t.map Prod.fst) := (unhide HV).below fun i hi => by
      obtain ⟨Y, fr, hY, _⟩ := orw_blk0 (unhide HV) hi
      refine ((unhide HKP).2 i Y _ _ hY (fun e => ?_) (by decide)).trans hY.symm
      obtain ⟨_, _, _, _, _, kk⟩ := unhide HK
      rw [e, kk.blk] at hY
      injection hY with hY
      injection hY with _ hY
      exact absurd hY (by decide)
    obtain ⟨gb, hga, hcell⟩ : ∃ gb, a = some ⟨gb, 0, none⟩ ∧ wr.cell? ⟨gb, j, none⟩ = some p.1 := by
      rcases hV2.2 with ⟨_, h0⟩ | ⟨gb, cap, cur, hv', _, hh, _, _, _, htk⟩
      · rw [List.length_map, unhide HN] at h0; omega
      · injection hv' with ea _ _
        refine ⟨gb, ea, ?_⟩
        rw [flat_vf] at htk
        have h5 : (t.map Prod.fst)[j]? = some p.1 := by rw [List.getElem?_map, List.getElem?_eq_getElem hjt, ← hp]; rfl
        rw [← htk] at h5
        rw [List.getElem?_take] at h5
        split at h5
        · rw [cell_of_row _ _ _ _ _ _ hh]; simpa using h5
        · cases h5
    subst hga
    rw [hpv] at hcell
    have HP := hide hP
    have HEG := hide eg
    have HDOK := hide dok
    have HCH := hide hch
    clear hP eg dok hch hcall hV2 hdr HCj
    rw [List.map_cons, doD] at HRj
    cases hd : p.2 y with
    | none =>
      rw [hd] at HP HRj
      have HR1 : Hid (r = none) := (unhide HRj).symm
      clear HRj hd HDOK
      go_wp2_with fail
      rw [unhide HEG, Oper.upon_enter]
      refine (unhide HP).mono ?_
      rintro e w1 ⟨rfl, h1, h2⟩
      have H1 := hide (And.intro h1 ((unhide HKP).trans h2))
      clear h1 h2 HP
      go_wp2
      go_ret
      rw [unhide HR1]
      exact ⟨rfl, (unhide H1).1, (unhide H1).2⟩
    | some z =>
      rw [hd] at HP HRj
      have HR1 : Hid (doD ((t.drop (j + 1)).map Prod.snd) z = r) := unhide HRj
      have HB2 := hide ((unhide HDOK).gr m' y z (unhide HBy) hd)
      have HM2 : Hid (2 * m' + 1 + 1 ≤ 1000 * 2 ^ (j + 1)) := by have := unhide HM; show _ ≤ _; rw [Nat.pow_succ]; omega
      clear HRj hd HDOK HBy HM hpow
      go_wp2_with fail
      rw [unhide HEG, Oper.upon_enter]
      refine (unhide HP).mono ?_
      rintro e w1 ⟨rfl, h1, h2⟩
      have H1 := hide h1
      have H2 := hide ((unhide HKP).trans h2)
      clear h1 h2 HP
      go_wp2
      go_roundw
      case rel => exact ⟨j + 1, 2 * m' + 1, ne', z, by omega, by go_num, H1, H2, HB2, HM2, HCH, HR1⟩
      case measure => simp [intOf]; omega
end Go.Proofs.YthenefjoidckkaaGreatDoor

/- Layer 11: the table of deeds (written by mk/mkshq.py). -/
namespace Go.Proofs.YthenefjoidckkaaGreatDoor
open Go.RowKit
set_option linter.unusedVariables false
set_option maxRecDepth 100000

/-- What an instruction does: the functions, and what these do. -/
noncomputable def tabP (X : Nat) (p : Wpl) : List (Value × Deed) :=
  if p.op = 0 then [] else
  if p.op = 1 then [(fv X 68, pushD [tyN])] else
  if p.op = 17 then [(fv X 69, pushD [tyI])] else
  if p.op = 9 then [(fv X 70, pushD [tyJ])] else
  if p.op = 18 then [(fv X 71, findIntD p.en p.A), (fv X 69, pushD [tyI])] else
  if p.op = 20 then [(fv X 72, findLongD p.en p.A), (fv X 70, pushD [tyJ])] else
  if p.op = 21 then [(fv X 73, getD_ isIntB p.A), (fv X 74, pushFirstD)] else
  if p.op = 22 then [(fv X 75, getD_ isLongB p.A), (fv X 74, pushFirstD)] else
  if p.op = 25 then [(fv X 76, getD_ isRefB p.A), (fv X 74, pushFirstD)] else
  if p.op = 54 then [(fv X 78, popD p.cl tyI), (fv X 79, setLocalD p.A)] else
  if p.op = 55 then [(fv X 80, popD p.cl tyJ), (fv X 79, setLocalD p.A)] else
  if p.op = 58 then [(fv X 81, takeD isRefB), (fv X 79, setLocalD p.A)] else
  if p.op = 46 then [(fv X 78, popD p.cl tyI), (fv X 82, popD p.cl (refT [91, 73])), (fv X 69, pushD [tyI])] else
  if p.op = 47 then [(fv X 78, popD p.cl tyI), (fv X 83, popD p.cl (refT [91, 74])), (fv X 70, pushD [tyJ])] else
  if p.op = 51 then [(fv X 78, popD p.cl tyI), (fv X 84, popD p.cl (refT [91, 66])), (fv X 69, pushD [tyI])] else
  if p.op = 50 then [(fv X 78, popD p.cl tyI), (fv X 85, takeD refsM), (fv X 86, pushElementD)] else
  if p.op = 79 then [(fv X 78, popD p.cl tyI), (fv X 78, popD p.cl tyI), (fv X 82, popD p.cl (refT [91, 73]))] else
  if p.op = 80 then [(fv X 80, popD p.cl tyJ), (fv X 78, popD p.cl tyI), (fv X 83, popD p.cl (refT [91, 74]))] else
  if p.op = 84 then [(fv X 78, popD p.cl tyI), (fv X 78, popD p.cl tyI), (fv X 84, popD p.cl (refT [91, 66]))] else
  if p.op = 83 then [(fv X 81, takeD isRefB), (fv X 78, popD p.cl tyI), (fv X 85, takeD refsM)] else
  if p.op = 87 then [(fv X 87, takeD singleB)] else
  if p.op = 88 then [(fv X 88, popPairD)] else
  if p.op = 89 then [(fv X 87, takeD singleB), (fv X 74, pushFirstD), (fv X 74, pushFirstD)] else
  if p.op = 90 then [(fv X 87, takeD singleB), (fv X 87, takeD singleB), (fv X 74, pushFirstD), (fv X 89, pushLastD), (fv X 74, pushFirstD)] else
  if p.op = 92 then [(fv X 88, popPairD), (fv X 90, pushBackD), (fv X 90, pushBackD)] else
  if p.op = 95 then [(fv X 87, takeD singleB), (fv X 87, takeD singleB), (fv X 74, pushFirstD), (fv X 89, pushLastD)] else
  if p.op = 96 ∨ p.op = 100 ∨ p.op = 104 ∨ p.op = 108 ∨ p.op = 112 ∨ p.op = 120 ∨ p.op = 122 ∨ p.op = 124 ∨ p.op = 126 ∨ p.op = 128 ∨ p.op = 130 then [(fv X 78, popD p.cl tyI), (fv X 78, popD p.cl tyI), (fv X 69, pushD [tyI])] else
  if p.op = 97 ∨ p.op = 101 ∨ p.op = 105 ∨ p.op = 109 ∨ p.op = 113 ∨ p.op = 127 ∨ p.op = 129 ∨ p.op = 131 then [(fv X 80, popD p.cl tyJ), (fv X 80, popD p.cl tyJ), (fv X 70, pushD [tyJ])] else
  if p.op = 121 ∨ p.op = 123 ∨ p.op = 125 then [(fv X 78, popD p.cl tyI), (fv X 80, popD p.cl tyJ), (fv X 70, pushD [tyJ])] else
  if p.op = 116 ∨ p.op = 145 ∨ p.op = 146 ∨ p.op = 147 then [(fv X 78, popD p.cl tyI), (fv X 69, pushD [tyI])] else
  if p.op = 117 then [(fv X 80, popD p.cl tyJ), (fv X 70, pushD [tyJ])] else
  if p.op = 133 then [(fv X 78, popD p.cl tyI), (fv X 70, pushD [tyJ])] else
  if p.op = 136 then [(fv X 80, popD p.cl tyJ), (fv X 69, pushD [tyI])] else
  if p.op = 148 then [(fv X 80, popD p.cl tyJ), (fv X 80, popD p.cl tyJ), (fv X 69, pushD [tyI])] else
  if p.op = 132 then [(fv X 73, getD_ isIntB p.A)] else
  if p.op = 167 then [] else
  if p.op = 153 ∨ p.op = 154 ∨ p.op = 155 ∨ p.op = 156 ∨ p.op = 157 ∨ p.op = 158 ∨ p.op = 170 ∨ p.op = 171 then [(fv X 78, popD p.cl tyI)] else
  if p.op = 159 ∨ p.op = 160 ∨ p.op = 161 ∨ p.op = 162 ∨ p.op = 163 ∨ p.op = 164 then [(fv X 78, popD p.cl tyI), (fv X 78, popD p.cl tyI)] else
  if p.op = 165 ∨ p.op = 166 then [(fv X 81, takeD isRefB), (fv X 81, takeD isRefB)] else
  if p.op = 172 then [(fv X 91, answersD (isIntB p.bk)), (fv X 92, popD p.cl p.bk)] else
  if p.op = 173 then [(fv X 93, answersD (isLongB p.bk)), (fv X 92, popD p.cl p.bk)] else
  if p.op = 176 then [(fv X 94, answersD (decide (p.bk.kind = 4))), (fv X 92, popD p.cl p.bk)] else
  if p.op = 177 then [(fv X 95, answersD (decide (p.bk.kind = 0)))] else
  if p.op = 178 then [(fv X 96, findFieldD p.en p.A), (fv X 97, pushToldD)] else
  if p.op = 179 then [(fv X 96, findFieldD p.en p.A), (fv X 98, popToldD p.cl)] else
  if p.op = 180 then [(fv X 96, findFieldD p.en p.A), (fv X 99, popOwnerD p.cl), (fv X 97, pushToldD)] else
  if p.op = 181 then [(fv X 96, findFieldD p.en p.A), (fv X 98, popToldD p.cl), (fv X 99, popOwnerD p.cl)] else
  if p.op = 182 ∨ p.op = 183 then [(fv X 100, findMethodD p.en p.A), (fv X 101, popArgsD p.cl), (fv X 99, popOwnerD p.cl), (fv X 102, pushAnswerD)] else
  if p.op = 184 then [(fv X 100, findMethodD p.en p.A), (fv X 101, popArgsD p.cl), (fv X 102, pushAnswerD)] else
  if p.op = 187 then [(fv X 103, findClassD p.en p.A), (fv X 104, isNoArrayD), (fv X 97, pushToldD)] else
  if p.op = 188 then [(fv X 78, popD p.cl tyI), (fv X 105, pushNumbersD p.A)] else
  if p.op = 189 then [(fv X 103, findClassD p.en p.A), (fv X 78, popD p.cl tyI), (fv X 106, pushArrayD)] else
  if p.op = 190 then [(fv X 107, takeD arrM), (fv X 69, pushD [tyI])] else
  if p.op = 191 then [(fv X 108, popD p.cl (refT [84, 104, 114, 111, 119, 97, 98, 108, 101]))] else
  if p.op = 192 then [(fv X 103, findClassD p.en p.A), (fv X 81, takeD isRefB), (fv X 97, pushToldD)] else
  if p.op = 193 then [(fv X 103, findClassD p.en p.A), (fv X 81, takeD isRefB), (fv X 69, pushD [tyI])] else
  if p.op = 194 ∨ p.op = 195 ∨ p.op = 198 ∨ p.op = 199 then [(fv X 81, takeD isRefB)] else
  [(fabs, fun _ => none)]
set_option maxHeartbeats 400000 in
theorem deeds_pushes (C : Wcx) (x : Wst) (W : World) (k : WK C x W) (hop : C.p.op ≤ 45) {vs : List Value} (h : Calls Tryz.prog 50 #[.pointer (some ⟨C.X, 0, none⟩)] W fun e w' => Fn W vs e w') : Calls Tryz.prog 39 #[.pointer (some ⟨C.X, 0, none⟩)] W fun e w' => Fn W vs e w' := by
  have c5 := k.c56.1
  have H := hide h
  clear k h
  generalize C.p.op = op at *
  have y45 : op ≤ 45 := by omega
  clear hop
  go_enter Tryz.func39, Tryz.ntmps39
  go_wp2_with fail
  refine (unhide H).mono ?_
  rintro e w' ⟨v, rfl, h1, h2⟩
  have H1 := hide (And.intro h1 h2)
  clear h1 h2 H
  go_wp2
  go_ret
  exact ⟨v, rfl, (unhide H1).1, (unhide H1).2⟩
set_option maxHeartbeats 400000 in
theorem deeds_stores (C : Wcx) (x : Wst) (W : World) (k : WK C x W) (hop : 45 < C.p.op ∧ C.p.op ≤ 86) {vs : List Value} (h : Calls Tryz.prog 51 #[.pointer (some ⟨C.X, 0, none⟩)] W fun e w' => Fn W vs e w') : Calls Tryz.prog 39 #[.pointer (some ⟨C.X, 0, none⟩)] W fun e w' => Fn W vs e w' := by
  have c5 := k.c56.1
  have H := hide h
  clear k h
  generalize C.p.op = op at *
  have n45 : ¬ op ≤ 45 := by omega
  have y86 : op ≤ 86 := by omega
  clear hop
  go_enter Tryz.func39, Tryz.ntmps39
  go_wp2_with fail
  refine (unhide H).mono ?_
  rintro e w' ⟨v, rfl, h1, h2⟩
  have H1 := hide (And.intro h1 h2)
  clear h1 h2 H
  go_wp2
  go_ret
  exact ⟨v, rfl, (unhide H1).1, (unhide H1).2⟩
set_option maxHeartbeats 400000 in
theorem deeds_shuffles (C : Wcx) (x : Wst) (W : World) (k : WK C x W) (hop : 86 < C.p.op ∧ C.p.op ≤ 95) {vs : List Value} (h : Calls Tryz.prog 52 #[.pointer (some ⟨C.X, 0, none⟩)] W fun e w' => Fn W vs e w') : Calls Tryz.prog 39 #[.pointer (some ⟨C.X, 0, none⟩)] W fun e w' => Fn W vs e w' := by
  have c5 := k.c56.1
  have H := hide h
  clear k h
  generalize C.p.op = op at *
  have n45 : ¬ op ≤ 45 := by omega
  have n86 : ¬ op ≤ 86 := by omega
  have y95 : op ≤ 95 := by omega
  clear hop
  go_enter Tryz.func39, Tryz.ntmps39
  go_wp2_with fail
  refine (unhide H).mono ?_
  rintro e w' ⟨v, rfl, h1, h2⟩
  have H1 := hide (And.intro h1 h2)
  clear h1 h2 H
  go_wp2
  go_ret
  exact ⟨v, rfl, (unhide H1).1, (unhide H1).2⟩
set_option maxHeartbeats 400000 in
theorem deeds_sums (C : Wcx) (x : Wst) (W : World) (k : WK C x W) (hop : 95 < C.p.op ∧ C.p.op ≤ 152) {vs : List Value} (h : Calls Tryz.prog 53 #[.pointer (some ⟨C.X, 0, none⟩)] W fun e w' => Fn W vs e w') : Calls Tryz.prog 39 #[.pointer (some ⟨C.X, 0, none⟩)] W fun e w' => Fn W vs e w' := by
  have c5 := k.c56.1
  have H := hide h
  clear k h
  generalize C.p.op = op at *
  have n45 : ¬ op ≤ 45 := by omega
  have n86 : ¬ op ≤ 86 := by omega
  have n95 : ¬ op ≤ 95 := by omega
  have y152 : op ≤ 152 := by omega
  clear hop
  go_enter Tryz.func39, Tryz.ntmps39
  go_wp2_with fail
  refine (unhide H).mono ?_
  rintro e w' ⟨v, rfl, h1, h2⟩
  have H1 := hide (And.intro h1 h2)
  clear h1 h2 H
  go_wp2
  go_ret
  exact ⟨v, rfl, (unhide H1).1, (unhide H1).2⟩
set_option maxHeartbeats 400000 in
theorem deeds_branches (C : Wcx) (x : Wst) (W : World) (k : WK C x W) (hop : 152 < C.p.op ∧ C.p.op ≤ 177) {vs : List Value} (h : Calls Tryz.prog 54 #[.pointer (some ⟨C.X, 0, none⟩)] W fun e w' => Fn W vs e w') : Calls Tryz.prog 39 #[.pointer (some ⟨C.X, 0, none⟩)] W fun e w' => Fn W vs e w' := by
  have c5 := k.c56.1
  have H := hide h
  clear k h
  generalize C.p.op = op at *
  have n45 : ¬ op ≤ 45 := by omega
  have n86 : ¬ op ≤ 86 := by omega
  have n95 : ¬ op ≤ 95 := by omega
  have n152 : ¬ op ≤ 152 := by omega
  have y177 : op ≤ 177 := by omega
  clear hop
  go_enter Tryz.func39, Tryz.ntmps39
  go_wp2_with fail
  refine (unhide H).mono ?_
  rintro e w' ⟨v, rfl, h1, h2⟩
  have H1 := hide (And.intro h1 h2)
  clear h1 h2 H
  go_wp2
  go_ret
  exact ⟨v, rfl, (unhide H1).1, (unhide H1).2⟩
set_option maxHeartbeats 400000 in
theorem deeds_members (C : Wcx) (x : Wst) (W : World) (k : WK C x W) (hop : 177 < C.p.op ∧ C.p.op ≤ 186) {vs : List Value} (h : Calls Tryz.prog 55 #[.pointer (some ⟨C.X, 0, none⟩)] W fun e w' => Fn W vs e w') : Calls Tryz.prog 39 #[.pointer (some ⟨C.X, 0, none⟩)] W fun e w' => Fn W vs e w' := by
  have c5 := k.c56.1
  have H := hide h
  clear k h
  generalize C.p.op = op at *
  have n45 : ¬ op ≤ 45 := by omega
  have n86 : ¬ op ≤ 86 := by omega
  have n95 : ¬ op ≤ 95 := by omega
  have n152 : ¬ op ≤ 152 := by omega
  have n177 : ¬ op ≤ 177 := by omega
  have y186 : op ≤ 186 := by omega
  clear hop
  go_enter Tryz.func39, Tryz.ntmps39
  go_wp2_with fail
  refine (unhide H).mono ?_
  rintro e w' ⟨v, rfl, h1, h2⟩
  have H1 := hide (And.intro h1 h2)
  clear h1 h2 H
  go_wp2
  go_ret
  exact ⟨v, rfl, (unhide H1).1, (unhide H1).2⟩
set_option maxHeartbeats 400000 in
theorem deeds_objects (C : Wcx) (x : Wst) (W : World) (k : WK C x W) (hop : 186 < C.p.op) {vs : List Value} (h : Calls Tryz.prog 56 #[.pointer (some ⟨C.X, 0, none⟩)] W fun e w' => Fn W vs e w') : Calls Tryz.prog 39 #[.pointer (some ⟨C.X, 0, none⟩)] W fun e w' => Fn W vs e w' := by
  have c5 := k.c56.1
  have H := hide h
  clear k h
  generalize C.p.op = op at *
  have n45 : ¬ op ≤ 45 := by omega
  have n86 : ¬ op ≤ 86 := by omega
  have n95 : ¬ op ≤ 95 := by omega
  have n152 : ¬ op ≤ 152 := by omega
  have n177 : ¬ op ≤ 177 := by omega
  have n186 : ¬ op ≤ 186 := by omega
  clear hop
  go_enter Tryz.func39, Tryz.ntmps39
  go_wp2_with fail
  refine (unhide H).mono ?_
  rintro e w' ⟨v, rfl, h1, h2⟩
  have H1 := hide (And.intro h1 h2)
  clear h1 h2 H
  go_wp2
  go_ret
  exact ⟨v, rfl, (unhide H1).1, (unhide H1).2⟩
theorem deeds_any (C : Wcx) (x : Wst) (W : World) (k : WK C x W) : Calls Tryz.prog 39 #[.pointer (some ⟨C.X, 0, none⟩)] W fun e w' => Fn W ((tabP C.X C.p).map Prod.fst) e w' := by
  unfold tabP
  by_cases h0 : C.p.op = 0
  · rw [if_pos h0]
    exact deeds_pushes C x W k (by omega) (dv0 C x W k h0)
  rw [if_neg h0]
  by_cases h1 : C.p.op = 1
  · rw [if_pos h1]
    exact deeds_pushes C x W k (by omega) (dv1 C x W k h1)
  rw [if_neg h1]
  by_cases h17 : C.p.op = 17
  · rw [if_pos h17]
    exact deeds_pushes C x W k (by omega) (dv17 C x W k h17)
  rw [if_neg h17]
  by_cases h9 : C.p.op = 9
  · rw [if_pos h9]
    exact deeds_pushes C x W k (by omega) (dv9 C x W k h9)
  rw [if_neg h9]
  by_cases h18 : C.p.op = 18
  · rw [if_pos h18]
    exact deeds_pushes C x W k (by omega) (dv18 C x W k h18)
  rw [if_neg h18]
  by_cases h20 : C.p.op = 20
  · rw [if_pos h20]
    exact deeds_pushes C x W k (by omega) (dv20 C x W k h20)
  rw [if_neg h20]
  by_cases h21 : C.p.op = 21
  · rw [if_pos h21]
    exact deeds_pushes C x W k (by omega) (dv21 C x W k h21)
  rw [if_neg h21]
  by_cases h22 : C.p.op = 22
  · rw [if_pos h22]
    exact deeds_pushes C x W k (by omega) (dv22 C x W k h22)
  rw [if_neg h22]
  by_cases h25 : C.p.op = 25
  · rw [if_pos h25]
    exact deeds_pushes C x W k (by omega) (dv25 C x W k h25)
  rw [if_neg h25]
  by_cases h54 : C.p.op = 54
  · rw [if_pos h54]
    exact deeds_stores C x W k (by omega) (dv54 C x W k h54)
  rw [if_neg h54]
  by_cases h55 : C.p.op = 55
  · rw [if_pos h55]
    exact deeds_stores C x W k (by omega) (dv55 C x W k h55)
  rw [if_neg h55]
  by_cases h58 : C.p.op = 58
  · rw [if_pos h58]
    exact deeds_stores C x W k (by omega) (dv58 C x W k h58)
  rw [if_neg h58]
  by_cases h46 : C.p.op = 46
  · rw [if_pos h46]
    exact deeds_stores C x W k (by omega) (dv46 C x W k h46)
  rw [if_neg h46]
  by_cases h47 : C.p.op = 47
  · rw [if_pos h47]
    exact deeds_stores C x W k (by omega) (dv47 C x W k h47)
  rw [if_neg h47]
  by_cases h51 : C.p.op = 51
  · rw [if_pos h51]
    exact deeds_stores C x W k (by omega) (dv51 C x W k h51)
  rw [if_neg h51]
  by_cases h50 : C.p.op = 50
  · rw [if_pos h50]
    exact deeds_stores C x W k (by omega) (dv50 C x W k h50)
  rw [if_neg h50]
  by_cases h79 : C.p.op = 79
  · rw [if_pos h79]
    exact deeds_stores C x W k (by omega) (dv79 C x W k h79)
  rw [if_neg h79]
  by_cases h80 : C.p.op = 80
  · rw [if_pos h80]
    exact deeds_stores C x W k (by omega) (dv80 C x W k h80)
  rw [if_neg h80]
  by_cases h84 : C.p.op = 84
  · rw [if_pos h84]
    exact deeds_stores C x W k (by omega) (dv84 C x W k h84)
  rw [if_neg h84]
  by_cases h83 : C.p.op = 83
  · rw [if_pos h83]
    exact deeds_stores C x W k (by omega) (dv83 C x W k h83)
  rw [if_neg h83]
  by_cases h87 : C.p.op = 87
  · rw [if_pos h87]
    exact deeds_shuffles C x W k (by omega) (dv87 C x W k h87)
  rw [if_neg h87]
  by_cases h88 : C.p.op = 88
  · rw [if_pos h88]
    exact deeds_shuffles C x W k (by omega) (dv88 C x W k h88)
  rw [if_neg h88]
  by_cases h89 : C.p.op = 89
  · rw [if_pos h89]
    exact deeds_shuffles C x W k (by omega) (dv89 C x W k h89)
  rw [if_neg h89]
  by_cases h90 : C.p.op = 90
  · rw [if_pos h90]
    exact deeds_shuffles C x W k (by omega) (dv90 C x W k h90)
  rw [if_neg h90]
  by_cases h92 : C.p.op = 92
  · rw [if_pos h92]
    exact deeds_shuffles C x W k (by omega) (dv92 C x W k h92)
  rw [if_neg h92]
  by_cases h95 : C.p.op = 95
  · rw [if_pos h95]
    exact deeds_shuffles C x W k (by omega) (dv95 C x W k h95)
  rw [if_neg h95]
  by_cases h96 : C.p.op = 96 ∨ C.p.op = 100 ∨ C.p.op = 104 ∨ C.p.op = 108 ∨ C.p.op = 112 ∨ C.p.op = 120 ∨ C.p.op = 122 ∨ C.p.op = 124 ∨ C.p.op = 126 ∨ C.p.op = 128 ∨ C.p.op = 130
  · rw [if_pos h96]
    rcases h96 with h | h | h | h | h | h | h | h | h | h | h
    · exact deeds_sums C x W k (by omega) (dv96 C x W k h)
    · exact deeds_sums C x W k (by omega) (dv100 C x W k h)
    · exact deeds_sums C x W k (by omega) (dv104 C x W k h)
    · exact deeds_sums C x W k (by omega) (dv108 C x W k h)
    · exact deeds_sums C x W k (by omega) (dv112 C x W k h)
    · exact deeds_sums C x W k (by omega) (dv120 C x W k h)
    · exact deeds_sums C x W k (by omega) (dv122 C x W k h)
    · exact deeds_sums C x W k (by omega) (dv124 C x W k h)
    · exact deeds_sums C x W k (by omega) (dv126 C x W k h)
    · exact deeds_sums C x W k (by omega) (dv128 C x W k h)
    · exact deeds_sums C x W k (by omega) (dv130 C x W k h)
  rw [if_neg h96]
  by_cases h97 : C.p.op = 97 ∨ C.p.op = 101 ∨ C.p.op = 105 ∨ C.p.op = 109 ∨ C.p.op = 113 ∨ C.p.op = 127 ∨ C.p.op = 129 ∨ C.p.op = 131
  · rw [if_pos h97]
    rcases h97 with h | h | h | h | h | h | h | h
    · exact deeds_sums C x W k (by omega) (dv97 C x W k h)
    · exact deeds_sums C x W k (by omega) (dv101 C x W k h)
    · exact deeds_sums C x W k (by omega) (dv105 C x W k h)
    · exact deeds_sums C x W k (by omega) (dv109 C x W k h)
    · exact deeds_sums C x W k (by omega) (dv113 C x W k h)
    · exact deeds_sums C x W k (by omega) (dv127 C x W k h)
    · exact deeds_sums C x W k (by omega) (dv129 C x W k h)
    · exact deeds_sums C x W k (by omega) (dv131 C x W k h)
  rw [if_neg h97]
  by_cases h121 : C.p.op = 121 ∨ C.p.op = 123 ∨ C.p.op = 125
  · rw [if_pos h121]
    rcases h121 with h | h | h
    · exact deeds_sums C x W k (by omega) (dv121 C x W k h)
    · exact deeds_sums C x W k (by omega) (dv123 C x W k h)
    · exact deeds_sums C x W k (by omega) (dv125 C x W k h)
  rw [if_neg h121]
  by_cases h116 : C.p.op = 116 ∨ C.p.op = 145 ∨ C.p.op = 146 ∨ C.p.op = 147
  · rw [if_pos h116]
    rcases h116 with h | h | h | h
    · exact deeds_sums C x W k (by omega) (dv116 C x W k h)
    · exact deeds_sums C x W k (by omega) (dv145 C x W k h)
    · exact deeds_sums C x W k (by omega) (dv146 C x W k h)
    · exact deeds_sums C x W k (by omega) (dv147 C x W k h)
  rw [if_neg h116]
  by_cases h117 : C.p.op = 117
  · rw [if_pos h117]
    exact deeds_sums C x W k (by omega) (dv117 C x W k h117)
  rw [if_neg h117]
  by_cases h133 : C.p.op = 133
  · rw [if_pos h133]
    exact deeds_sums C x W k (by omega) (dv133 C x W k h133)
  rw [if_neg h133]
  by_cases h136 : C.p.op = 136
  · rw [if_pos h136]
    exact deeds_sums C x W k (by omega) (dv136 C x W k h136)
  rw [if_neg h136]
  by_cases h148 : C.p.op = 148
  · rw [if_pos h148]
    exact deeds_sums C x W k (by omega) (dv148 C x W k h148)
  rw [if_neg h148]
  by_cases h132 : C.p.op = 132
  · rw [if_pos h132]
    exact deeds_sums C x W k (by omega) (dv132 C x W k h132)
  rw [if_neg h132]
  by_cases h167 : C.p.op = 167
  · rw [if_pos h167]
    exact deeds_branches C x W k (by omega) (dv167 C x W k h167)
  rw [if_neg h167]
  by_cases h153 : C.p.op = 153 ∨ C.p.op = 154 ∨ C.p.op = 155 ∨ C.p.op = 156 ∨ C.p.op = 157 ∨ C.p.op = 158 ∨ C.p.op = 170 ∨ C.p.op = 171
  · rw [if_pos h153]
    rcases h153 with h | h | h | h | h | h | h | h
    · exact deeds_branches C x W k (by omega) (dv153 C x W k h)
    · exact deeds_branches C x W k (by omega) (dv154 C x W k h)
    · exact deeds_branches C x W k (by omega) (dv155 C x W k h)
    · exact deeds_branches C x W k (by omega) (dv156 C x W k h)
    · exact deeds_branches C x W k (by omega) (dv157 C x W k h)
    · exact deeds_branches C x W k (by omega) (dv158 C x W k h)
    · exact deeds_branches C x W k (by omega) (dv170 C x W k h)
    · exact deeds_branches C x W k (by omega) (dv171 C x W k h)
  rw [if_neg h153]
  by_cases h159 : C.p.op = 159 ∨ C.p.op = 160 ∨ C.p.op = 161 ∨ C.p.op = 162 ∨ C.p.op = 163 ∨ C.p.op = 164
  · rw [if_pos h159]
    rcases h159 with h | h | h | h | h | h
    · exact deeds_branches C x W k (by omega) (dv159 C x W k h)
    · exact deeds_branches C x W k (by omega) (dv160 C x W k h)
    · exact deeds_branches C x W k (by omega) (dv161 C x W k h)
    · exact deeds_branches C x W k (by omega) (dv162 C x W k h)
    · exact deeds_branches C x W k (by omega) (dv163 C x W k h)
    · exact deeds_branches C x W k (by omega) (dv164 C x W k h)
  rw [if_neg h159]
  by_cases h165 : C.p.op = 165 ∨ C.p.op = 166
  · rw [if_pos h165]
    rcases h165 with h | h
    · exact deeds_branches C x W k (by omega) (dv165 C x W k h)
    · exact deeds_branches C x W k (by omega) (dv166 C x W k h)
  rw [if_neg h165]
  by_cases h172 : C.p.op = 172
  · rw [if_pos h172]
    exact deeds_branches C x W k (by omega) (dv172 C x W k h172)
  rw [if_neg h172]
  by_cases h173 : C.p.op = 173
  · rw [if_pos h173]
    exact deeds_branches C x W k (by omega) (dv173 C x W k h173)
  rw [if_neg h173]
  by_cases h176 : C.p.op = 176
  · rw [if_pos h176]
    exact deeds_branches C x W k (by omega) (dv176 C x W k h176)
  rw [if_neg h176]
  by_cases h177 : C.p.op = 177
  · rw [if_pos h177]
    exact deeds_branches C x W k (by omega) (dv177 C x W k h177)
  rw [if_neg h177]
  by_cases h178 : C.p.op = 178
  · rw [if_pos h178]
    exact deeds_members C x W k (by omega) (dv178 C x W k h178)
  rw [if_neg h178]
  by_cases h179 : C.p.op = 179
  · rw [if_pos h179]
    exact deeds_members C x W k (by omega) (dv179 C x W k h179)
  rw [if_neg h179]
  by_cases h180 : C.p.op = 180
  · rw [if_pos h180]
    exact deeds_members C x W k (by omega) (dv180 C x W k h180)
  rw [if_neg h180]
  by_cases h181 : C.p.op = 181
  · rw [if_pos h181]
    exact deeds_members C x W k (by omega) (dv181 C x W k h181)
  rw [if_neg h181]
  by_cases h182 : C.p.op = 182 ∨ C.p.op = 183
  · rw [if_pos h182]
    rcases h182 with h | h
    · exact deeds_members C x W k (by omega) (dv182 C x W k h)
    · exact deeds_members C x W k (by omega) (dv183 C x W k h)
  rw [if_neg h182]
  by_cases h184 : C.p.op = 184
  · rw [if_pos h184]
    exact deeds_members C x W k (by omega) (dv184 C x W k h184)
  rw [if_neg h184]
  by_cases h187 : C.p.op = 187
  · rw [if_pos h187]
    exact deeds_objects C x W k (by omega) (dv187 C x W k h187)
  rw [if_neg h187]
  by_cases h188 : C.p.op = 188
  · rw [if_pos h188]
    exact deeds_objects C x W k (by omega) (dv188 C x W k h188)
  rw [if_neg h188]
  by_cases h189 : C.p.op = 189
  · rw [if_pos h189]
    exact deeds_objects C x W k (by omega) (dv189 C x W k h189)
  rw [if_neg h189]
  by_cases h190 : C.p.op = 190
  · rw [if_pos h190]
    exact deeds_objects C x W k (by omega) (dv190 C x W k h190)
  rw [if_neg h190]
  by_cases h191 : C.p.op = 191
  · rw [if_pos h191]
    exact deeds_objects C x W k (by omega) (dv191 C x W k h191)
  rw [if_neg h191]
  by_cases h192 : C.p.op = 192
  · rw [if_pos h192]
    exact deeds_objects C x W k (by omega) (dv192 C x W k h192)
  rw [if_neg h192]
  by_cases h193 : C.p.op = 193
  · rw [if_pos h193]
    exact deeds_objects C x W k (by omega) (dv193 C x W k h193)
  rw [if_neg h193]
  by_cases h194 : C.p.op = 194 ∨ C.p.op = 195 ∨ C.p.op = 198 ∨ C.p.op = 199
  · rw [if_pos h194]
    rcases h194 with h | h | h | h
    · exact deeds_objects C x W k (by omega) (dv194 C x W k h)
    · exact deeds_objects C x W k (by omega) (dv195 C x W k h)
    · exact deeds_objects C x W k (by omega) (dv198 C x W k h)
    · exact deeds_objects C x W k (by omega) (dv199 C x W k h)
  rw [if_neg h194]
  by_cases g45 : C.p.op ≤ 45
  · exact deeds_pushes C x W k (by omega) (dv_pushes_no C x W k (by omega))
  by_cases g86 : C.p.op ≤ 86
  · exact deeds_stores C x W k (by omega) (dv_stores_no C x W k (by omega))
  by_cases g95 : C.p.op ≤ 95
  · exact deeds_shuffles C x W k (by omega) (dv_shuffles_no C x W k (by omega))
  by_cases g152 : C.p.op ≤ 152
  · exact deeds_sums C x W k (by omega) (dv_sums_no C x W k (by omega))
  by_cases g177 : C.p.op ≤ 177
  · exact deeds_branches C x W k (by omega) (dv_branches_no C x W k (by omega))
  by_cases g186 : C.p.op ≤ 186
  · exact deeds_members C x W k (by omega) (dv_members_no C x W k (by omega))
  exact deeds_objects C x W k (by omega) (dv_objects_no C x W k (by omega))
end Go.Proofs.YthenefjoidckkaaGreatDoor

/- Layer 11: each function does its deed (written by mk/mkshv.py). -/
namespace Go.Proofs.YthenefjoidckkaaGreatDoor
open Go.RowKit
set_option linter.unusedVariables false
set_option maxRecDepth 100000

section
variable {m : Nat} {ne : Bool} {x x' : Wst}
theorem gr_take {fit : Ty → Bool} (h : Bd m ne x) (e : takeD fit x = some x') : Bd (2 * m + 1) true x' := by
  obtain ⟨h1, h2, h3, h4, h5, h6⟩ := takeD_size e
  exact ⟨by have := h.st; omega, by rw [h2]; exact h.lo, by rw [h3]; exact h.ar, fun _ => h6⟩
theorem gr_push {ys : List Ty} (h : Bd m ne x) (hy : ys.length ≤ m + 1) (e : pushD ys x = some x') : Bd (2 * m + 1) ne x' := by
  unfold pushD at e
  injection e with e
  subst e
  exact ⟨by have := h.st; simp only [List.length_append]; omega, h.lo, h.ar, h.ha⟩
theorem gr_same (h : Bd m ne x) : Bd (2 * m + 1) ne x := ⟨by have := h.st; omega, h.lo, h.ar, h.ha⟩
theorem gr_first (h : Bd m ne x) (e : pushFirstD x = some x') : Bd (2 * m + 1) ne x' := by
  unfold pushFirstD at e
  split at e
  · cases e
  · exact gr_push h (by simp) e
theorem gr_last (h : Bd m ne x) (e : pushLastD x = some x') : Bd (2 * m + 1) ne x' := by
  unfold pushLastD at e
  split at e
  · cases e
  · exact gr_push h (by simp) e
theorem gr_elem (h : Bd m ne x) (e : pushElementD x = some x') : Bd (2 * m + 1) ne x' := by
  unfold pushElementD at e
  split at e
  · cases e
  · exact gr_push h (by simp) e
theorem gr_back (h : Bd m ne x) (e : pushBackD x = some x') : Bd (2 * m + 1) ne x' := gr_push h (by have := h.st; simp; omega) e
theorem gr_answer (h : Bd m ne x) (e : pushAnswerD x = some x') : Bd (2 * m + 1) ne x' := by
  unfold pushAnswerD at e
  split at e
  · injection e with e; subst e; exact gr_same h
  · exact gr_push h (by simp) e
theorem gr_numbers {A : Int} (h : Bd m ne x) (e : pushNumbersD A x = some x') : Bd (2 * m + 1) ne x' := by
  unfold pushNumbersD at e
  split at e
  · exact gr_push h (by simp) e
  · split at e
    · exact gr_push h (by simp) e
    · split at e
      · exact gr_push h (by simp) e
      · cases e
theorem gr_array (h : Bd m ne x) (e : pushArrayD x = some x') : Bd (2 * m + 1) ne x' := by
  unfold pushArrayD at e
  split at e
  · exact gr_push h (by simp) e
  · cases e
theorem gr_pair (h : Bd m ne x) (e : popPairD x = some x') : Bd (2 * m + 1) true x' := by
  unfold popPairD at e
  split at e
  · rename_i y hy
    injection e with e
    subst e
    exact gr_take h hy
  · cases h1 : takeD singleB x with
    | none => rw [h1] at e; cases e
    | some y =>
      rw [h1] at e
      obtain ⟨a1, a2, a3, _⟩ := takeD_size h1
      obtain ⟨b1, b2, b3, b4, b5, b6⟩ := takeD_size (show takeD singleB y = some x' from e)
      exact ⟨by have := h.st; omega, by rw [b2, a2]; exact h.lo, by rw [b3, a3]; exact h.ar, fun _ => b6⟩
theorem popL_size {cl : List Nc} : ∀ (ys : List Ty) (x x' : Wst), popL cl ys x = some x' → x'.st.length + x'.ha.length = x.st.length + x.ha.length ∧ x'.lo = x.lo ∧ x'.ar = x.ar ∧ (x.ha ≠ [] → x'.ha ≠ [])
  | [], x, x', e => by unfold popL at e; injection e with e; subst e; exact ⟨rfl, rfl, rfl, fun h => h⟩
  | y :: ys, x, x', e => by
    unfold popL at e
    cases h1 : popD cl y x with
    | none => rw [h1] at e; cases e
    | some z =>
      rw [h1] at e
      obtain ⟨a1, a2, a3, _, _, a6⟩ := takeD_size h1
      obtain ⟨b1, b2, b3, b4⟩ := popL_size ys z x' e
      exact ⟨by omega, b2.trans a2, b3.trans a3, fun _ => b4 a6⟩
theorem gr_args {cl : List Nc} (h : Bd m ne x) (e : popArgsD cl x = some x') : Bd (2 * m + 1) ne x' := by
  obtain ⟨h1, h2, h3, h4⟩ := popL_size _ _ _ e
  exact ⟨by have := h.st; omega, by rw [h2]; exact h.lo, by rw [h3]; exact h.ar, fun hn => h4 (h.ha hn)⟩
theorem gr_get {fit : Ty → Bool} {A : Int} (h : Bd m ne x) (e : getD_ fit A x = some x') : Bd (2 * m + 1) true x' := by
  unfold getD_ at e
  split at e
  · cases e
  · split at e
    · cases e
    · split at e
      · injection e with e
        subst e
        exact ⟨by have := h.st; simp only [List.length_append, List.length_singleton]; omega, h.lo, h.ar, fun _ => by simp⟩
      · cases e
theorem setL_len (lo : List Ty) (k : Nat) (t : Ty) : (setL lo k t).length = lo.length := by
  have h1 : (setL1 lo k t).length = lo.length := by unfold setL1; split <;> simp
  unfold setL
  split
  · rw [List.length_set, h1]
  · exact h1
theorem gr_local {A : Int} (h : Bd m ne x) (e : setLocalD A x = some x') : Bd (2 * m + 1) ne x' := by
  unfold setLocalD at e
  split at e
  · cases e
  · split at e
    · cases e
    · injection e with e
      subst e
      exact ⟨by have := h.st; simp only; omega, by rw [setL_len]; exact h.lo, h.ar, h.ha⟩
theorem gr_answers {b : Bool} (h : Bd m ne x) (e : answersD b x = some x') : Bd (2 * m + 1) ne x' := by
  unfold answersD at e
  split at e
  · injection e with e; subst e; exact gr_same h
  · cases e
theorem gr_noarray (h : Bd m ne x) (e : isNoArrayD x = some x') : Bd (2 * m + 1) ne x' := by
  unfold isNoArrayD at e
  split at e
  · injection e with e; subst e; exact gr_same h
  · cases e
theorem gr_int {en : List Ent} {A : Int} (h : Bd m ne x) (e : findIntD en A x = some x') : Bd (2 * m + 1) ne x' := by
  unfold findIntD findD at e
  split at e
  · simp only [Option.some.injEq] at e; subst e; exact ⟨by have := h.st; simp only; omega, h.lo, h.ar, h.ha⟩
  · cases e
theorem gr_long {en : List Ent} {A : Int} (h : Bd m ne x) (e : findLongD en A x = some x') : Bd (2 * m + 1) ne x' := by
  unfold findLongD findD at e
  split at e
  · simp only [Option.some.injEq] at e; subst e; exact ⟨by have := h.st; simp only; omega, h.lo, h.ar, h.ha⟩
  · cases e
theorem gr_field {en : List Ent} {A : Int} (h : Bd m ne x) (e : findFieldD en A x = some x') : Bd (2 * m + 1) ne x' := by
  unfold findFieldD findD at e
  split at e
  · simp only at e
    split at e
    · simp only [Option.some.injEq] at e; subst e; exact ⟨by have := h.st; simp only; omega, h.lo, h.ar, h.ha⟩
    · cases e
  · cases e
theorem gr_class {en : List Ent} {A : Int} (h : Bd m ne x) (e : findClassD en A x = some x') : Bd (2 * m + 1) ne x' := by
  unfold findClassD findD at e
  split at e
  · simp only at e
    split at e
    · simp only [Option.some.injEq] at e; subst e; exact ⟨by have := h.st; simp only; omega, h.lo, h.ar, h.ha⟩
    · cases e
  · cases e
theorem gr_method {en : List Ent} {A : Int} (h : Bd m ne x) (e : findMethodD en A x = some x') : Bd (2 * m + 1) ne x' := by
  unfold findMethodD findD at e
  split at e
  · simp only at e
    split at e
    · simp only [Option.some.injEq] at e; subst e; exact ⟨by have := h.st; simp only; omega, h.lo, by have := (met_len (constP en A).1.type).2.2; simp only; omega, h.ha⟩
    · cases e
  · cases e
end
set_option maxHeartbeats 400000 in
theorem p11absent_any (W : World) : Calls Tryz.prog 77 #[] W fun e w' => e = .returned (.bool false) ∧ w' = W := by
  go_enter Tryz.func77, Tryz.ntmps77
  go_wp2
  go_ret
  exact ⟨rfl, rfl⟩
theorem ok_absent (C : Wcx) (hC : Cok C) (hP : Pok C) (hB : nmOk C.p.bk) (ne : Bool) : DOk C fabs (fun _ => none) ne ne := ⟨⟨_, _, rfl, enters_of Tryz.func77 (by kernel_rfl) rfl, fun m x hm hb W k => (p11absent_any W).mono fun e w' h => ⟨h.1, ⟨x, by rw [h.2]; exact k⟩, by rw [h.2]; exact KeepsW.refl _ _⟩⟩, fun m x x' hb e => by cases e⟩
theorem ok_popInt (C : Wcx) (hC : Cok C) (hP : Pok C) (hB : nmOk C.p.bk) (ne : Bool) : DOk C (fv C.X 78) (popD C.p.cl tyI) ne true := ⟨⟨_, _, rfl, enters_of Tryz.func78 (by kernel_rfl) rfl, fun m x hm hb W k => (w11popInt_any C x W k hC (by have := hb.st; omega)).mono fun e w' h => h.1⟩, fun m x x' hb e => gr_take hb e⟩
theorem ok_popLong (C : Wcx) (hC : Cok C) (hP : Pok C) (hB : nmOk C.p.bk) (ne : Bool) : DOk C (fv C.X 80) (popD C.p.cl tyJ) ne true := ⟨⟨_, _, rfl, enters_of Tryz.func80 (by kernel_rfl) rfl, fun m x hm hb W k => (w11popLong_any C x W k hC (by have := hb.st; omega)).mono fun e w' h => h.1⟩, fun m x x' hb e => gr_take hb e⟩
theorem ok_popReference (C : Wcx) (hC : Cok C) (hP : Pok C) (hB : nmOk C.p.bk) (ne : Bool) : DOk C (fv C.X 81) (takeD isRefB) ne true := ⟨⟨_, _, rfl, enters_of Tryz.func81 (by kernel_rfl) rfl, fun m x hm hb W k => (w11popReference_any C x W k hC (by have := hb.st; omega)).mono fun e w' h => h.1⟩, fun m x x' hb e => gr_take hb e⟩
theorem ok_popSingle (C : Wcx) (hC : Cok C) (hP : Pok C) (hB : nmOk C.p.bk) (ne : Bool) : DOk C (fv C.X 87) (takeD singleB) ne true := ⟨⟨_, _, rfl, enters_of Tryz.func87 (by kernel_rfl) rfl, fun m x hm hb W k => (w11popSingle_any C x W k hC (by have := hb.st; omega)).mono fun e w' h => h.1⟩, fun m x x' hb e => gr_take hb e⟩
theorem ok_popInts (C : Wcx) (hC : Cok C) (hP : Pok C) (hB : nmOk C.p.bk) (ne : Bool) : DOk C (fv C.X 82) (popD C.p.cl (refT [91, 73])) ne true := ⟨⟨_, _, rfl, enters_of Tryz.func82 (by kernel_rfl) rfl, fun m x hm hb W k => (w11popInts_any C x W k hC (by have := hb.st; omega)).mono fun e w' h => h.1⟩, fun m x x' hb e => gr_take hb e⟩
theorem ok_popLongs (C : Wcx) (hC : Cok C) (hP : Pok C) (hB : nmOk C.p.bk) (ne : Bool) : DOk C (fv C.X 83) (popD C.p.cl (refT [91, 74])) ne true := ⟨⟨_, _, rfl, enters_of Tryz.func83 (by kernel_rfl) rfl, fun m x hm hb W k => (w11popLongs_any C x W k hC (by have := hb.st; omega)).mono fun e w' h => h.1⟩, fun m x x' hb e => gr_take hb e⟩
theorem ok_popBytes (C : Wcx) (hC : Cok C) (hP : Pok C) (hB : nmOk C.p.bk) (ne : Bool) : DOk C (fv C.X 84) (popD C.p.cl (refT [91, 66])) ne true := ⟨⟨_, _, rfl, enters_of Tryz.func84 (by kernel_rfl) rfl, fun m x hm hb W k => (w11popBytes_any C x W k hC (by have := hb.st; omega)).mono fun e w' h => h.1⟩, fun m x x' hb e => gr_take hb e⟩
theorem ok_popThrowable (C : Wcx) (hC : Cok C) (hP : Pok C) (hB : nmOk C.p.bk) (ne : Bool) : DOk C (fv C.X 108) (popD C.p.cl (refT [84, 104, 114, 111, 119, 97, 98, 108, 101])) ne true := ⟨⟨_, _, rfl, enters_of Tryz.func108 (by kernel_rfl) rfl, fun m x hm hb W k => (w11popThrowable_any C x W k hC (by have := hb.st; omega)).mono fun e w' h => h.1⟩, fun m x x' hb e => gr_take hb e⟩
theorem ok_popReferences (C : Wcx) (hC : Cok C) (hP : Pok C) (hB : nmOk C.p.bk) (ne : Bool) : DOk C (fv C.X 85) (takeD refsM) ne true := ⟨⟨_, _, rfl, enters_of Tryz.func85 (by kernel_rfl) rfl, fun m x hm hb W k => (w11popReferences_any C x W k hC (by have := hb.st; omega)).mono fun e w' h => h.1⟩, fun m x x' hb e => gr_take hb e⟩
theorem ok_popArray (C : Wcx) (hC : Cok C) (hP : Pok C) (hB : nmOk C.p.bk) (ne : Bool) : DOk C (fv C.X 107) (takeD arrM) ne true := ⟨⟨_, _, rfl, enters_of Tryz.func107 (by kernel_rfl) rfl, fun m x hm hb W k => (w11popArray_any C x W k hC (by have := hb.st; omega)).mono fun e w' h => h.1⟩, fun m x x' hb e => gr_take hb e⟩
theorem ok_popOwner (C : Wcx) (hC : Cok C) (hP : Pok C) (hB : nmOk C.p.bk) (ne : Bool) : DOk C (fv C.X 99) (popOwnerD C.p.cl) ne true := ⟨⟨_, _, rfl, enters_of Tryz.func99 (by kernel_rfl) rfl, fun m x hm hb W k => (w11popOwner_any C x W k hC (by have := hb.st; omega)).mono fun e w' h => h.1⟩, fun m x x' hb e => gr_take hb e⟩
theorem ok_popTold (C : Wcx) (hC : Cok C) (hP : Pok C) (hB : nmOk C.p.bk) (ne : Bool) : DOk C (fv C.X 98) (popToldD C.p.cl) ne true := ⟨⟨_, _, rfl, enters_of Tryz.func98 (by kernel_rfl) rfl, fun m x hm hb W k => (w11popTold_any C x W k hC (by have := hb.st; omega)).mono fun e w' h => h.1⟩, fun m x x' hb e => gr_take hb e⟩
theorem ok_popAnswer (C : Wcx) (hC : Cok C) (hP : Pok C) (hB : nmOk C.p.bk) (ne : Bool) : DOk C (fv C.X 92) (popD C.p.cl C.p.bk) ne true := ⟨⟨_, _, rfl, enters_of Tryz.func92 (by kernel_rfl) rfl, fun m x hm hb W k => (w11popAnswer_any C x W k hC hB (by have := hb.st; omega)).mono fun e w' h => h.1⟩, fun m x x' hb e => gr_take hb e⟩
theorem ok_getInt (C : Wcx) (hC : Cok C) (hP : Pok C) (hB : nmOk C.p.bk) (ne : Bool) : DOk C (fv C.X 73) (getD_ isIntB C.p.A) ne true := ⟨⟨_, _, rfl, enters_of Tryz.func73 (by kernel_rfl) rfl, fun m x hm hb W k => (w11getInt_any C x W k hC (by have := hb.st; omega) (by have := hb.lo; omega)).mono fun e w' h => h.1⟩, fun m x x' hb e => gr_get hb e⟩
theorem ok_getLong (C : Wcx) (hC : Cok C) (hP : Pok C) (hB : nmOk C.p.bk) (ne : Bool) : DOk C (fv C.X 75) (getD_ isLongB C.p.A) ne true := ⟨⟨_, _, rfl, enters_of Tryz.func75 (by kernel_rfl) rfl, fun m x hm hb W k => (w11getLong_any C x W k hC (by have := hb.st; omega) (by have := hb.lo; omega)).mono fun e w' h => h.1⟩, fun m x x' hb e => gr_get hb e⟩
theorem ok_getReference (C : Wcx) (hC : Cok C) (hP : Pok C) (hB : nmOk C.p.bk) (ne : Bool) : DOk C (fv C.X 76) (getD_ isRefB C.p.A) ne true := ⟨⟨_, _, rfl, enters_of Tryz.func76 (by kernel_rfl) rfl, fun m x hm hb W k => (w11getReference_any C x W k hC (by have := hb.st; omega) (by have := hb.lo; omega)).mono fun e w' h => h.1⟩, fun m x x' hb e => gr_get hb e⟩
theorem ok_popPair (C : Wcx) (hC : Cok C) (hP : Pok C) (hB : nmOk C.p.bk) (ne : Bool) : DOk C (fv C.X 88) (popPairD) ne true := ⟨⟨_, _, rfl, enters_of Tryz.func88 (by kernel_rfl) rfl, fun m x hm hb W k => (w11popPair_any C x W k hC (by have := hb.st; omega)).mono fun e w' h => h⟩, fun m x x' hb e => gr_pair hb e⟩
theorem ok_popArguments (C : Wcx) (hC : Cok C) (hP : Pok C) (hB : nmOk C.p.bk) (ne : Bool) : DOk C (fv C.X 101) (popArgsD C.p.cl) ne ne := ⟨⟨_, _, rfl, enters_of Tryz.func101 (by kernel_rfl) rfl, fun m x hm hb W k => (w11popArguments_any C x W k hC (by have := hb.st; omega) (by have := hb.ar; omega)).mono fun e w' h => h⟩, fun m x x' hb e => gr_args hb e⟩
theorem ok_pushNull (C : Wcx) (hC : Cok C) (hP : Pok C) (hB : nmOk C.p.bk) (ne : Bool) : DOk C (fv C.X 68) (pushD [tyN]) ne ne := ⟨⟨_, _, rfl, enters_of Tryz.func68 (by kernel_rfl) rfl, fun m x hm hb W k => (w11pushNull_any C x W k hC (by have := hb.st; omega)).mono fun e w' h => h⟩, fun m x x' hb e => gr_push hb (by simp) e⟩
theorem ok_pushInt (C : Wcx) (hC : Cok C) (hP : Pok C) (hB : nmOk C.p.bk) (ne : Bool) : DOk C (fv C.X 69) (pushD [tyI]) ne ne := ⟨⟨_, _, rfl, enters_of Tryz.func69 (by kernel_rfl) rfl, fun m x hm hb W k => (w11pushInt_any C x W k hC (by have := hb.st; omega)).mono fun e w' h => h⟩, fun m x x' hb e => gr_push hb (by simp) e⟩
theorem ok_pushLong (C : Wcx) (hC : Cok C) (hP : Pok C) (hB : nmOk C.p.bk) (ne : Bool) : DOk C (fv C.X 70) (pushD [tyJ]) ne ne := ⟨⟨_, _, rfl, enters_of Tryz.func70 (by kernel_rfl) rfl, fun m x hm hb W k => (w11pushLong_any C x W k hC (by have := hb.st; omega)).mono fun e w' h => h⟩, fun m x x' hb e => gr_push hb (by simp) e⟩
theorem ok_pushTold (C : Wcx) (hC : Cok C) (hP : Pok C) (hB : nmOk C.p.bk) (ne : Bool) : DOk C (fv C.X 97) (pushToldD) ne ne := ⟨⟨_, _, rfl, enters_of Tryz.func97 (by kernel_rfl) rfl, fun m x hm hb W k => (w11pushTold_any C x W k hC (by have := hb.st; omega)).mono fun e w' h => h⟩, fun m x x' hb e => gr_push hb (by simp) e⟩
theorem ok_pushFirst (C : Wcx) (hC : Cok C) (hP : Pok C) (hB : nmOk C.p.bk) : DOk C (fv C.X 74) (pushFirstD) true true := ⟨⟨_, _, rfl, enters_of Tryz.func74 (by kernel_rfl) rfl, fun m x hm hb W k => (w11pushFirst_any C x W k hC (hb.ha rfl) (by have := hb.st; omega)).mono fun e w' h => h⟩, fun m x x' hb e => gr_first hb e⟩
theorem ok_pushLast (C : Wcx) (hC : Cok C) (hP : Pok C) (hB : nmOk C.p.bk) : DOk C (fv C.X 89) (pushLastD) true true := ⟨⟨_, _, rfl, enters_of Tryz.func89 (by kernel_rfl) rfl, fun m x hm hb W k => (w11pushLast_any C x W k hC (hb.ha rfl) (by have := hb.st; omega)).mono fun e w' h => h⟩, fun m x x' hb e => gr_last hb e⟩
theorem ok_pushElement (C : Wcx) (hC : Cok C) (hP : Pok C) (hB : nmOk C.p.bk) : DOk C (fv C.X 86) (pushElementD) true true := ⟨⟨_, _, rfl, enters_of Tryz.func86 (by kernel_rfl) rfl, fun m x hm hb W k => (w11pushElement_any C x W k hC (hb.ha rfl) (by have := hb.st; omega)).mono fun e w' h => h⟩, fun m x x' hb e => gr_elem hb e⟩
theorem ok_setLocal (C : Wcx) (hC : Cok C) (hP : Pok C) (hB : nmOk C.p.bk) : DOk C (fv C.X 79) (setLocalD C.p.A) true true := ⟨⟨_, _, rfl, enters_of Tryz.func79 (by kernel_rfl) rfl, fun m x hm hb W k => (w11setLocal_any C x W k hC (hb.ha rfl) (by have := hb.st; omega) (by have := hb.lo; omega)).mono fun e w' h => h⟩, fun m x x' hb e => gr_local hb e⟩
theorem ok_pushBack (C : Wcx) (hC : Cok C) (hP : Pok C) (hB : nmOk C.p.bk) (ne : Bool) : DOk C (fv C.X 90) (pushBackD) ne ne := ⟨⟨_, _, rfl, enters_of Tryz.func90 (by kernel_rfl) rfl, fun m x hm hb W k => (w11pushBack_any C x W k hC (by have := hb.st; omega)).mono fun e w' h => h⟩, fun m x x' hb e => gr_back hb e⟩
theorem ok_pushAnswer (C : Wcx) (hC : Cok C) (hP : Pok C) (hB : nmOk C.p.bk) (ne : Bool) : DOk C (fv C.X 102) (pushAnswerD) ne ne := ⟨⟨_, _, rfl, enters_of Tryz.func102 (by kernel_rfl) rfl, fun m x hm hb W k => (w11pushAnswer_any C x W k hC (by have := hb.st; omega)).mono fun e w' h => h⟩, fun m x x' hb e => gr_answer hb e⟩
theorem ok_pushNumbers (C : Wcx) (hC : Cok C) (hP : Pok C) (hB : nmOk C.p.bk) (ne : Bool) : DOk C (fv C.X 105) (pushNumbersD C.p.A) ne ne := ⟨⟨_, _, rfl, enters_of Tryz.func105 (by kernel_rfl) rfl, fun m x hm hb W k => (w11pushNumbers_any C x W k hC (by have := hb.st; omega)).mono fun e w' h => h⟩, fun m x x' hb e => gr_numbers hb e⟩
theorem ok_pushArray (C : Wcx) (hC : Cok C) (hP : Pok C) (hB : nmOk C.p.bk) (ne : Bool) : DOk C (fv C.X 106) (pushArrayD) ne ne := ⟨⟨_, _, rfl, enters_of Tryz.func106 (by kernel_rfl) rfl, fun m x hm hb W k => (w11pushArray_any C x W k hC (by have := hb.st; omega)).mono fun e w' h => h⟩, fun m x x' hb e => gr_array hb e⟩
theorem ok_answersInt (C : Wcx) (hC : Cok C) (hP : Pok C) (hB : nmOk C.p.bk) (ne : Bool) : DOk C (fv C.X 91) (answersD (isIntB C.p.bk)) ne ne := ⟨⟨_, _, rfl, enters_of Tryz.func91 (by kernel_rfl) rfl, fun m x hm hb W k => (w11answersInt_any C x W k hC).mono fun e w' h => h⟩, fun m x x' hb e => gr_answers hb e⟩
theorem ok_answersLong (C : Wcx) (hC : Cok C) (hP : Pok C) (hB : nmOk C.p.bk) (ne : Bool) : DOk C (fv C.X 93) (answersD (isLongB C.p.bk)) ne ne := ⟨⟨_, _, rfl, enters_of Tryz.func93 (by kernel_rfl) rfl, fun m x hm hb W k => (w11answersLong_any C x W k hC).mono fun e w' h => h⟩, fun m x x' hb e => gr_answers hb e⟩
theorem ok_answersReference (C : Wcx) (hC : Cok C) (hP : Pok C) (hB : nmOk C.p.bk) (ne : Bool) : DOk C (fv C.X 94) (answersD (decide (C.p.bk.kind = 4))) ne ne := ⟨⟨_, _, rfl, enters_of Tryz.func94 (by kernel_rfl) rfl, fun m x hm hb W k => (w11answersReference_any C x W k hC).mono fun e w' h => h⟩, fun m x x' hb e => gr_answers hb e⟩
theorem ok_answersNothing (C : Wcx) (hC : Cok C) (hP : Pok C) (hB : nmOk C.p.bk) (ne : Bool) : DOk C (fv C.X 95) (answersD (decide (C.p.bk.kind = 0))) ne ne := ⟨⟨_, _, rfl, enters_of Tryz.func95 (by kernel_rfl) rfl, fun m x hm hb W k => (w11answersNothing_any C x W k hC).mono fun e w' h => h⟩, fun m x x' hb e => gr_answers hb e⟩
theorem ok_isNoArray (C : Wcx) (hC : Cok C) (hP : Pok C) (hB : nmOk C.p.bk) (ne : Bool) : DOk C (fv C.X 104) (isNoArrayD) ne ne := ⟨⟨_, _, rfl, enters_of Tryz.func104 (by kernel_rfl) rfl, fun m x hm hb W k => (w11isNoArray_any C x W k hC).mono fun e w' h => h⟩, fun m x x' hb e => gr_noarray hb e⟩
theorem ok_findInt (C : Wcx) (hC : Cok C) (hP : Pok C) (hB : nmOk C.p.bk) (ne : Bool) : DOk C (fv C.X 71) (findIntD C.p.en C.p.A) ne ne := ⟨⟨_, _, rfl, enters_of Tryz.func71 (by kernel_rfl) rfl, fun m x hm hb W k => (w11findInt_any C x W k hP).mono fun e w' h => h⟩, fun m x x' hb e => gr_int hb e⟩
theorem ok_findLong (C : Wcx) (hC : Cok C) (hP : Pok C) (hB : nmOk C.p.bk) (ne : Bool) : DOk C (fv C.X 72) (findLongD C.p.en C.p.A) ne ne := ⟨⟨_, _, rfl, enters_of Tryz.func72 (by kernel_rfl) rfl, fun m x hm hb W k => (w11findLong_any C x W k hP).mono fun e w' h => h⟩, fun m x x' hb e => gr_long hb e⟩
theorem ok_findField (C : Wcx) (hC : Cok C) (hP : Pok C) (hB : nmOk C.p.bk) (ne : Bool) : DOk C (fv C.X 96) (findFieldD C.p.en C.p.A) ne ne := ⟨⟨_, _, rfl, enters_of Tryz.func96 (by kernel_rfl) rfl, fun m x hm hb W k => (w11findField_any C x W k hP).mono fun e w' h => h⟩, fun m x x' hb e => gr_field hb e⟩
theorem ok_findClass (C : Wcx) (hC : Cok C) (hP : Pok C) (hB : nmOk C.p.bk) (ne : Bool) : DOk C (fv C.X 103) (findClassD C.p.en C.p.A) ne ne := ⟨⟨_, _, rfl, enters_of Tryz.func103 (by kernel_rfl) rfl, fun m x hm hb W k => (w11findClass_any C x W k hP).mono fun e w' h => h⟩, fun m x x' hb e => gr_class hb e⟩
theorem ok_findMethod (C : Wcx) (hC : Cok C) (hP : Pok C) (hB : nmOk C.p.bk) (ne : Bool) : DOk C (fv C.X 100) (findMethodD C.p.en C.p.A) ne ne := ⟨⟨_, _, rfl, enters_of Tryz.func100 (by kernel_rfl) rfl, fun m x hm hb W k => (w11findMethod_any C x W k hP).mono fun e w' h => h⟩, fun m x x' hb e => gr_method hb e⟩
theorem tab_ok (C : Wcx) (hC : Cok C) (hP : Pok C) (hB : nmOk C.p.bk) : Ch C false (tabP C.X C.p) ∧ (tabP C.X C.p).length ≤ 8 := by
  unfold tabP
  by_cases h0 : C.p.op = 0
  · rw [if_pos h0]; exact ⟨trivial, by simp⟩
  rw [if_neg h0]; clear h0
  by_cases h1 : C.p.op = 1
  · rw [if_pos h1]; exact ⟨⟨_, ok_pushNull C hC hP hB false, trivial⟩, by simp⟩
  rw [if_neg h1]; clear h1
  by_cases h17 : C.p.op = 17
  · rw [if_pos h17]; exact ⟨⟨_, ok_pushInt C hC hP hB false, trivial⟩, by simp⟩
  rw [if_neg h17]; clear h17
  by_cases h9 : C.p.op = 9
  · rw [if_pos h9]; exact ⟨⟨_, ok_pushLong C hC hP hB false, trivial⟩, by simp⟩
  rw [if_neg h9]; clear h9
  by_cases h18 : C.p.op = 18
  · rw [if_pos h18]; exact ⟨⟨_, ok_findInt C hC hP hB false, _, ok_pushInt C hC hP hB false, trivial⟩, by simp⟩
  rw [if_neg h18]; clear h18
  by_cases h20 : C.p.op = 20
  · rw [if_pos h20]; exact ⟨⟨_, ok_findLong C hC hP hB false, _, ok_pushLong C hC hP hB false, trivial⟩, by simp⟩
  rw [if_neg h20]; clear h20
  by_cases h21 : C.p.op = 21
  · rw [if_pos h21]; exact ⟨⟨_, ok_getInt C hC hP hB false, _, ok_pushFirst C hC hP hB, trivial⟩, by simp⟩
  rw [if_neg h21]; clear h21
  by_cases h22 : C.p.op = 22
  · rw [if_pos h22]; exact ⟨⟨_, ok_getLong C hC hP hB false, _, ok_pushFirst C hC hP hB, trivial⟩, by simp⟩
  rw [if_neg h22]; clear h22
  by_cases h25 : C.p.op = 25
  · rw [if_pos h25]; exact ⟨⟨_, ok_getReference C hC hP hB false, _, ok_pushFirst C hC hP hB, trivial⟩, by simp⟩
  rw [if_neg h25]; clear h25
  by_cases h54 : C.p.op = 54
  · rw [if_pos h54]; exact ⟨⟨_, ok_popInt C hC hP hB false, _, ok_setLocal C hC hP hB, trivial⟩, by simp⟩
  rw [if_neg h54]; clear h54
  by_cases h55 : C.p.op = 55
  · rw [if_pos h55]; exact ⟨⟨_, ok_popLong C hC hP hB false, _, ok_setLocal C hC hP hB, trivial⟩, by simp⟩
  rw [if_neg h55]; clear h55
  by_cases h58 : C.p.op = 58
  · rw [if_pos h58]; exact ⟨⟨_, ok_popReference C hC hP hB false, _, ok_setLocal C hC hP hB, trivial⟩, by simp⟩
  rw [if_neg h58]; clear h58
  by_cases h46 : C.p.op = 46
  · rw [if_pos h46]; exact ⟨⟨_, ok_popInt C hC hP hB false, _, ok_popInts C hC hP hB true, _, ok_pushInt C hC hP hB true, trivial⟩, by simp⟩
  rw [if_neg h46]; clear h46
  by_cases h47 : C.p.op = 47
  · rw [if_pos h47]; exact ⟨⟨_, ok_popInt C hC hP hB false, _, ok_popLongs C hC hP hB true, _, ok_pushLong C hC hP hB true, trivial⟩, by simp⟩
  rw [if_neg h47]; clear h47
  by_cases h51 : C.p.op = 51
  · rw [if_pos h51]; exact ⟨⟨_, ok_popInt C hC hP hB false, _, ok_popBytes C hC hP hB true, _, ok_pushInt C hC hP hB true, trivial⟩, by simp⟩
  rw [if_neg h51]; clear h51
  by_cases h50 : C.p.op = 50
  · rw [if_pos h50]; exact ⟨⟨_, ok_popInt C hC hP hB false, _, ok_popReferences C hC hP hB true, _, ok_pushElement C hC hP hB, trivial⟩, by simp⟩
  rw [if_neg h50]; clear h50
  by_cases h79 : C.p.op = 79
  · rw [if_pos h79]; exact ⟨⟨_, ok_popInt C hC hP hB false, _, ok_popInt C hC hP hB true, _, ok_popInts C hC hP hB true, trivial⟩, by simp⟩
  rw [if_neg h79]; clear h79
  by_cases h80 : C.p.op = 80
  · rw [if_pos h80]; exact ⟨⟨_, ok_popLong C hC hP hB false, _, ok_popInt C hC hP hB true, _, ok_popLongs C hC hP hB true, trivial⟩, by simp⟩
  rw [if_neg h80]; clear h80
  by_cases h84 : C.p.op = 84
  · rw [if_pos h84]; exact ⟨⟨_, ok_popInt C hC hP hB false, _, ok_popInt C hC hP hB true, _, ok_popBytes C hC hP hB true, trivial⟩, by simp⟩
  rw [if_neg h84]; clear h84
  by_cases h83 : C.p.op = 83
  · rw [if_pos h83]; exact ⟨⟨_, ok_popReference C hC hP hB false, _, ok_popInt C hC hP hB true, _, ok_popReferences C hC hP hB true, trivial⟩, by simp⟩
  rw [if_neg h83]; clear h83
  by_cases h87 : C.p.op = 87
  · rw [if_pos h87]; exact ⟨⟨_, ok_popSingle C hC hP hB false, trivial⟩, by simp⟩
  rw [if_neg h87]; clear h87
  by_cases h88 : C.p.op = 88
  · rw [if_pos h88]; exact ⟨⟨_, ok_popPair C hC hP hB false, trivial⟩, by simp⟩
  rw [if_neg h88]; clear h88
  by_cases h89 : C.p.op = 89
  · rw [if_pos h89]; exact ⟨⟨_, ok_popSingle C hC hP hB false, _, ok_pushFirst C hC hP hB, _, ok_pushFirst C hC hP hB, trivial⟩, by simp⟩
  rw [if_neg h89]; clear h89
  by_cases h90 : C.p.op = 90
  · rw [if_pos h90]; exact ⟨⟨_, ok_popSingle C hC hP hB false, _, ok_popSingle C hC hP hB true, _, ok_pushFirst C hC hP hB, _, ok_pushLast C hC hP hB, _, ok_pushFirst C hC hP hB, trivial⟩, by simp⟩
  rw [if_neg h90]; clear h90
  by_cases h92 : C.p.op = 92
  · rw [if_pos h92]; exact ⟨⟨_, ok_popPair C hC hP hB false, _, ok_pushBack C hC hP hB true, _, ok_pushBack C hC hP hB true, trivial⟩, by simp⟩
  rw [if_neg h92]; clear h92
  by_cases h95 : C.p.op = 95
  · rw [if_pos h95]; exact ⟨⟨_, ok_popSingle C hC hP hB false, _, ok_popSingle C hC hP hB true, _, ok_pushFirst C hC hP hB, _, ok_pushLast C hC hP hB, trivial⟩, by simp⟩
  rw [if_neg h95]; clear h95
  by_cases h96 : C.p.op = 96 ∨ C.p.op = 100 ∨ C.p.op = 104 ∨ C.p.op = 108 ∨ C.p.op = 112 ∨ C.p.op = 120 ∨ C.p.op = 122 ∨ C.p.op = 124 ∨ C.p.op = 126 ∨ C.p.op = 128 ∨ C.p.op = 130
  · rw [if_pos h96]; exact ⟨⟨_, ok_popInt C hC hP hB false, _, ok_popInt C hC hP hB true, _, ok_pushInt C hC hP hB true, trivial⟩, by simp⟩
  rw [if_neg h96]; clear h96
  by_cases h97 : C.p.op = 97 ∨ C.p.op = 101 ∨ C.p.op = 105 ∨ C.p.op = 109 ∨ C.p.op = 113 ∨ C.p.op = 127 ∨ C.p.op = 129 ∨ C.p.op = 131
  · rw [if_pos h97]; exact ⟨⟨_, ok_popLong C hC hP hB false, _, ok_popLong C hC hP hB true, _, ok_pushLong C hC hP hB true, trivial⟩, by simp⟩
  rw [if_neg h97]; clear h97
  by_cases h121 : C.p.op = 121 ∨ C.p.op = 123 ∨ C.p.op = 125
  · rw [if_pos h121]; exact ⟨⟨_, ok_popInt C hC hP hB false, _, ok_popLong C hC hP hB true, _, ok_pushLong C hC hP hB true, trivial⟩, by simp⟩
  rw [if_neg h121]; clear h121
  by_cases h116 : C.p.op = 116 ∨ C.p.op = 145 ∨ C.p.op = 146 ∨ C.p.op = 147
  · rw [if_pos h116]; exact ⟨⟨_, ok_popInt C hC hP hB false, _, ok_pushInt C hC hP hB true, trivial⟩, by simp⟩
  rw [if_neg h116]; clear h116
  by_cases h117 : C.p.op = 117
  · rw [if_pos h117]; exact ⟨⟨_, ok_popLong C hC hP hB false, _, ok_pushLong C hC hP hB true, trivial⟩, by simp⟩
  rw [if_neg h117]; clear h117
  by_cases h133 : C.p.op = 133
  · rw [if_pos h133]; exact ⟨⟨_, ok_popInt C hC hP hB false, _, ok_pushLong C hC hP hB true, trivial⟩, by simp⟩
  rw [if_neg h133]; clear h133
  by_cases h136 : C.p.op = 136
  · rw [if_pos h136]; exact ⟨⟨_, ok_popLong C hC hP hB false, _, ok_pushInt C hC hP hB true, trivial⟩, by simp⟩
  rw [if_neg h136]; clear h136
  by_cases h148 : C.p.op = 148
  · rw [if_pos h148]; exact ⟨⟨_, ok_popLong C hC hP hB false, _, ok_popLong C hC hP hB true, _, ok_pushInt C hC hP hB true, trivial⟩, by simp⟩
  rw [if_neg h148]; clear h148
  by_cases h132 : C.p.op = 132
  · rw [if_pos h132]; exact ⟨⟨_, ok_getInt C hC hP hB false, trivial⟩, by simp⟩
  rw [if_neg h132]; clear h132
  by_cases h167 : C.p.op = 167
  · rw [if_pos h167]; exact ⟨trivial, by simp⟩
  rw [if_neg h167]; clear h167
  by_cases h153 : C.p.op = 153 ∨ C.p.op = 154 ∨ C.p.op = 155 ∨ C.p.op = 156 ∨ C.p.op = 157 ∨ C.p.op = 158 ∨ C.p.op = 170 ∨ C.p.op = 171
  · rw [if_pos h153]; exact ⟨⟨_, ok_popInt C hC hP hB false, trivial⟩, by simp⟩
  rw [if_neg h153]; clear h153
  by_cases h159 : C.p.op = 159 ∨ C.p.op = 160 ∨ C.p.op = 161 ∨ C.p.op = 162 ∨ C.p.op = 163 ∨ C.p.op = 164
  · rw [if_pos h159]; exact ⟨⟨_, ok_popInt C hC hP hB false, _, ok_popInt C hC hP hB true, trivial⟩, by simp⟩
  rw [if_neg h159]; clear h159
  by_cases h165 : C.p.op = 165 ∨ C.p.op = 166
  · rw [if_pos h165]; exact ⟨⟨_, ok_popReference C hC hP hB false, _, ok_popReference C hC hP hB true, trivial⟩, by simp⟩
  rw [if_neg h165]; clear h165
  by_cases h172 : C.p.op = 172
  · rw [if_pos h172]; exact ⟨⟨_, ok_answersInt C hC hP hB false, _, ok_popAnswer C hC hP hB false, trivial⟩, by simp⟩
  rw [if_neg h172]; clear h172
  by_cases h173 : C.p.op = 173
  · rw [if_pos h173]; exact ⟨⟨_, ok_answersLong C hC hP hB false, _, ok_popAnswer C hC hP hB false, trivial⟩, by simp⟩
  rw [if_neg h173]; clear h173
  by_cases h176 : C.p.op = 176
  · rw [if_pos h176]; exact ⟨⟨_, ok_answersReference C hC hP hB false, _, ok_popAnswer C hC hP hB false, trivial⟩, by simp⟩
  rw [if_neg h176]; clear h176
  by_cases h177 : C.p.op = 177
  · rw [if_pos h177]; exact ⟨⟨_, ok_answersNothing C hC hP hB false, trivial⟩, by simp⟩
  rw [if_neg h177]; clear h177
  by_cases h178 : C.p.op = 178
  · rw [if_pos h178]; exact ⟨⟨_, ok_findField C hC hP hB false, _, ok_pushTold C hC hP hB false, trivial⟩, by simp⟩
  rw [if_neg h178]; clear h178
  by_cases h179 : C.p.op = 179
  · rw [if_pos h179]; exact ⟨⟨_, ok_findField C hC hP hB false, _, ok_popTold C hC hP hB false, trivial⟩, by simp⟩
  rw [if_neg h179]; clear h179
  by_cases h180 : C.p.op = 180
  · rw [if_pos h180]; exact ⟨⟨_, ok_findField C hC hP hB false, _, ok_popOwner C hC hP hB false, _, ok_pushTold C hC hP hB true, trivial⟩, by simp⟩
  rw [if_neg h180]; clear h180
  by_cases h181 : C.p.op = 181
  · rw [if_pos h181]; exact ⟨⟨_, ok_findField C hC hP hB false, _, ok_popTold C hC hP hB false, _, ok_popOwner C hC hP hB true, trivial⟩, by simp⟩
  rw [if_neg h181]; clear h181
  by_cases h182 : C.p.op = 182 ∨ C.p.op = 183
  · rw [if_pos h182]; exact ⟨⟨_, ok_findMethod C hC hP hB false, _, ok_popArguments C hC hP hB false, _, ok_popOwner C hC hP hB false, _, ok_pushAnswer C hC hP hB true, trivial⟩, by simp⟩
  rw [if_neg h182]; clear h182
  by_cases h184 : C.p.op = 184
  · rw [if_pos h184]; exact ⟨⟨_, ok_findMethod C hC hP hB false, _, ok_popArguments C hC hP hB false, _, ok_pushAnswer C hC hP hB false, trivial⟩, by simp⟩
  rw [if_neg h184]; clear h184
  by_cases h187 : C.p.op = 187
  · rw [if_pos h187]; exact ⟨⟨_, ok_findClass C hC hP hB false, _, ok_isNoArray C hC hP hB false, _, ok_pushTold C hC hP hB false, trivial⟩, by simp⟩
  rw [if_neg h187]; clear h187
  by_cases h188 : C.p.op = 188
  · rw [if_pos h188]; exact ⟨⟨_, ok_popInt C hC hP hB false, _, ok_pushNumbers C hC hP hB true, trivial⟩, by simp⟩
  rw [if_neg h188]; clear h188
  by_cases h189 : C.p.op = 189
  · rw [if_pos h189]; exact ⟨⟨_, ok_findClass C hC hP hB false, _, ok_popInt C hC hP hB false, _, ok_pushArray C hC hP hB true, trivial⟩, by simp⟩
  rw [if_neg h189]; clear h189
  by_cases h190 : C.p.op = 190
  · rw [if_pos h190]; exact ⟨⟨_, ok_popArray C hC hP hB false, _, ok_pushInt C hC hP hB true, trivial⟩, by simp⟩
  rw [if_neg h190]; clear h190
  by_cases h191 : C.p.op = 191
  · rw [if_pos h191]; exact ⟨⟨_, ok_popThrowable C hC hP hB false, trivial⟩, by simp⟩
  rw [if_neg h191]; clear h191
  by_cases h192 : C.p.op = 192
  · rw [if_pos h192]; exact ⟨⟨_, ok_findClass C hC hP hB false, _, ok_popReference C hC hP hB false, _, ok_pushTold C hC hP hB true, trivial⟩, by simp⟩
  rw [if_neg h192]; clear h192
  by_cases h193 : C.p.op = 193
  · rw [if_pos h193]; exact ⟨⟨_, ok_findClass C hC hP hB false, _, ok_popReference C hC hP hB false, _, ok_pushInt C hC hP hB true, trivial⟩, by simp⟩
  rw [if_neg h193]; clear h193
  by_cases h194 : C.p.op = 194 ∨ C.p.op = 195 ∨ C.p.op = 198 ∨ C.p.op = 199
  · rw [if_pos h194]; exact ⟨⟨_, ok_popReference C hC hP hB false, trivial⟩, by simp⟩
  rw [if_neg h194]; clear h194
  exact ⟨⟨_, ok_absent C hC hP hB false, trivial⟩, by simp⟩
end Go.Proofs.YthenefjoidckkaaGreatDoor
