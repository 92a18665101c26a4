/- Joined: CkA ClK ClG. -/
import Derived.Test.YteooppjbpekepaaGreatDoorJL1
import Derived.Test.YteooppjbpekepaaGreatDoorJB
import Derived.Test.YteooppjbpekepaaGreatDoorJA

/- The landed class: what its functions judge, as plain values. -/
namespace Go.Proofs.YteooppjbpekepaaGreatDoor
open Go.RowKit
set_option linter.unusedVariables false

/-- At most so many, and each right. -/
def areB {α : Type} (p : α → Bool) (most : Nat) (l : List α) : Bool := decide (l.length ≤ most) && l.all p
def upB (most : Int) (l : List Int) : Bool := l.all fun n => decide (0 ≤ n ∧ n ≤ most)
def longsB : List Ty → Bool
  | [] => true
  | [t] => !decide (t.kind = 2)
  | t :: z :: r => (!decide (t.kind = 2) || decide (z.kind = 0)) && longsB (z :: r)
def riseB : Int → List Mp → Bool
  | _, [] => true
  | last, m :: r => decide (last < m.at_) && riseB m.at_ r
def mapOk (l : List Ent) (m : Mp) : Bool := upB 65535 [m.at_] && (areB (okT l) 64 m.loc && (longsB m.loc && areB (okT l) 64 m.stk))
def accB (n : Int) : Bool := decide (n = 0 ∨ n = 8 ∨ n = 32 ∨ n = 40)

theorem goT_false (l : List Ent) : ∀ ts, goT l false ts = ts.all (okT l)
  | [] => rfl
  | [t] => by simp [goT]
  | t :: z :: r => by
    have ih := goT_false l (z :: r)
    simp [goT, ih]
theorem longsB_top (z : Ty) (hz : z.kind = 0) : ∀ r, longsB (z :: r) = longsB r
  | [] => by simp [longsB, hz]
  | y :: r => by simp [longsB, hz]
theorem okT_top (l : List Ent) (z : Ty) : (okT l z && decide (z.kind = 0)) = decide (z = ⟨0, []⟩) := by
  obtain ⟨k, nm⟩ := z
  rw [Bool.eq_iff_iff]
  simp only [Bool.and_eq_true, decide_eq_true_eq, okT]
  constructor
  · rintro ⟨⟨_, h2⟩, rfl⟩
    simp at h2
    rw [h2]
  · intro h
    injection h with h1 h2
    subst h1 h2
    simp
theorem goT_true (l : List Ent) : ∀ (n : Nat) (ts : List Ty), ts.length ≤ n → goT l true ts = (ts.all (okT l) && longsB ts) := by
  intro n
  induction n with
  | zero => intro ts h; obtain rfl : ts = [] := List.length_eq_zero_iff.1 (by omega); rfl
  | succ n ih =>
    intro ts h
    match ts, h with
    | [], _ => rfl
    | [t], _ => simp [goT, longsB]
    | t :: z :: r, h =>
      have i1 := ih r (by simp at h; omega)
      have i2 := ih (z :: r) (by simp at h ⊢; omega)
      unfold goT longsB
      by_cases hk : t.kind = 2
      · rw [if_pos ⟨rfl, hk⟩, i1]
        have e := okT_top l z
        rw [← e]
        simp only [hk, decide_true, Bool.not_true, Bool.false_or, List.all_cons]
        by_cases hz : z.kind = 0
        · rw [longsB_top z hz]
          simp only [hz, decide_true, Bool.and_true, Bool.true_and]
          cases okT l t <;> cases okT l z <;> cases r.all (okT l) <;> rfl
        · simp [hz]
      · rw [if_neg (fun h => hk h.2), i2]
        simp only [hk, decide_false, Bool.not_false, Bool.true_or, Bool.true_and, List.all_cons]
        cases okT l t <;> cases okT l z <;> cases r.all (okT l) <;> rfl
theorem rightT_loc (l : List Ent) (ts : List Ty) : rightT l true ts = (areB (okT l) 64 ts && longsB ts) := by
  unfold rightT areB
  rw [goT_true l _ ts (Nat.le_refl _), Bool.and_assoc]
theorem rightT_stk (l : List Ent) (ts : List Ty) : rightT l false ts = areB (okT l) 64 ts := by
  unfold rightT areB
  rw [goT_false]
theorem rightM_all (l : List Ent) : ∀ (ms : List Mp) (last : Int), -1 ≤ last → rightM l last ms = (ms.all (mapOk l) && riseB last ms)
  | [], _, _ => rfl
  | m :: r, last, h => by
    unfold rightM riseB
    rw [List.all_cons, rightT_loc, rightT_stk]
    by_cases h1 : last < m.at_
    · rw [rightM_all l r m.at_ (by omega)]
      generalize r.all (mapOk l) = A
      unfold mapOk upB
      simp only [List.all_cons, List.all_nil, Bool.and_true]
      have e : decide (last < m.at_ ∧ m.at_ ≤ 65535) = decide (0 ≤ m.at_ ∧ m.at_ ≤ 65535) := by
        congr 1
        exact propext ⟨fun h => by omega, fun h => by omega⟩
      rw [e]
      simp only [h1, decide_true, Bool.true_and]
      cases decide (0 ≤ m.at_ ∧ m.at_ ≤ 65535) <;> cases areB (okT l) 64 m.loc <;> cases longsB m.loc <;> cases areB (okT l) 64 m.stk <;> cases A <;> cases riseB m.at_ r <;> rfl
    · simp [h1]
theorem rightH_is (l : List Ent) (h : Hd) : rightH l h = (upB 65535 [h.frm, h.to_, h.at_] && (decide (h.cls = 0) || decide (tagE l h.cls = 7))) := by
  unfold rightH upB in16
  have e : decide (h.cls = 0 ∨ 0 < h.cls ∧ h.cls < l.length ∧ tagE l h.cls = 7) = (decide (h.cls = 0) || decide (tagE l h.cls = 7)) := by
    rw [Bool.eq_iff_iff]
    simp only [Bool.or_eq_true, decide_eq_true_eq]
    constructor
    · rintro (h | ⟨_, _, h⟩)
      · exact .inl h
      · exact .inr h
    · rintro (h1 | h1)
      · exact .inl h1
      · by_cases h0 : h.cls = 0
        · exact .inl h0
        · refine .inr ?_
          unfold tagE atE at h1
          by_cases hp : 0 ≤ h.cls
          · rw [if_pos hp] at h1
            have : h.cls.toNat < l.length := by
              cases hl : l[h.cls.toNat]? with
              | none => rw [hl] at h1; simp [ent0] at h1
              | some x => exact (List.getElem?_eq_some_iff.1 hl).1
            refine ⟨by omega, by omega, ?_⟩
            unfold tagE atE
            rw [if_pos hp]
            exact h1
          · rw [if_neg hp] at h1
            simp [ent0] at h1
  rw [e]
  simp only [List.all_cons, List.all_nil, Bool.and_true]
  cases (decide (h.cls = 0) || decide (tagE l h.cls = 7)) <;> cases decide (0 ≤ h.frm ∧ h.frm ≤ 65535) <;> cases decide (0 ≤ h.to_ ∧ h.to_ ≤ 65535) <;> cases decide (0 ≤ h.at_ ∧ h.at_ ≤ 65535) <;> rfl
def codeOk (l : List Ent) (c : Cd) : Bool :=
  upB 64 [c.stack, c.locals] && (decide (0 < c.bytes.length) && (decide (c.bytes.length ≤ 4096) && (areB (rightH l) 256 c.hs && ((decide (c.maps.length = 0) || decide (utfN l sMaps ≠ 0)) && (areB (mapOk l) 256 c.maps && riseB (-1) c.maps)))))
theorem rightD_is (l : List Ent) (c : Cd) : rightD l c = codeOk l c := by
  unfold rightD codeOk
  rw [rightM_all l _ _ (by omega)]
  unfold areB upB
  rw [Bool.eq_iff_iff]
  simp only [Bool.and_eq_true, Bool.or_eq_true, decide_eq_true_eq, List.all_cons, List.all_nil, and_true, List.length_eq_zero_iff]
  constructor
  · rintro ⟨⟨⟨⟨a1, a2, a3, a4, a5, a6, a7, a8⟩, h2⟩, h3⟩, h4, h5⟩
    exact ⟨⟨⟨a1, a2⟩, a3, a4⟩, by omega, a6, ⟨a7, h2⟩, h3, ⟨a8, h4⟩, h5⟩
  · rintro ⟨⟨⟨a1, a2⟩, a3, a4⟩, a5, a6, ⟨a7, h2⟩, h3, ⟨a8, h4⟩, h5⟩
    exact ⟨⟨⟨⟨a1, a2, a3, a4, by omega, a6, a7, a8⟩, h2⟩, h3⟩, h4, h5⟩
def textsB (l : List Ent) (ss : List (List UInt8)) : Bool := ss.all fun s => decide (utfN l s ≠ 0)
theorem rightF_is (l : List Ent) (f : Fd) : rightF l f = (decide (f.acc = 0 ∨ f.acc = 8) && textsB l [f.name, f.type]) := by
  unfold rightF textsB
  rw [Bool.eq_iff_iff]
  simp
theorem rightMd_is (l : List Ent) (m : Md) : rightMd l m = (accB m.acc && (textsB l [m.name, m.type, sCode] && codeOk l m.code)) := by
  unfold rightMd textsB accB
  rw [rightD_is, Bool.eq_iff_iff]
  simp [and_assoc]
theorem rightK_is (c : Cl) : rightK c = (checkP c.pool && (decide (clsN c.pool c.name ≠ 0) && ((decide (c.super = []) || decide (clsN c.pool c.super ≠ 0)) && (areB (rightF c.pool) 256 c.fields && areB (rightMd c.pool) 256 c.methods)))) := by
  unfold rightK areB
  rw [Bool.eq_iff_iff]
  simp only [Bool.and_eq_true, Bool.or_eq_true, decide_eq_true_eq]
  constructor
  · rintro ⟨⟨⟨⟨h1, h2, h3⟩, h4, h5⟩, h6⟩, h7⟩
    exact ⟨h1, h4, h5, ⟨h2, h6⟩, h3, h7⟩
  · rintro ⟨h1, h4, h5, ⟨h2, h6⟩, h3, h7⟩
    exact ⟨⟨⟨⟨h1, h2, h3⟩, h4, h5⟩, h6⟩, h7⟩
/-- By places. -/
theorem longsB_at : ∀ (l : List Ty), longsB l = true ↔ ∀ (i : Nat) (t : Ty), l[i]? = some t → t.kind = 2 → ∃ z, l[i + 1]? = some z ∧ z.kind = 0
  | [] => by simp [longsB]
  | [t] => by
    simp only [longsB, Bool.not_eq_true', decide_eq_false_iff_not]
    constructor
    · intro h i x hx h2
      cases i with
      | zero => simp at hx; subst hx; exact absurd h2 h
      | succ i => simp at hx
    · intro h h2
      obtain ⟨z, hz, _⟩ := h 0 t rfl h2
      simp at hz
  | t :: y :: r => by
    have ih := longsB_at (y :: r)
    unfold longsB
    rw [Bool.and_eq_true, ih]
    constructor
    · rintro ⟨h1, h2⟩ i x hx hk
      cases i with
      | zero =>
        simp at hx
        subst hx
        simp [hk] at h1
        exact ⟨y, rfl, h1⟩
      | succ i => exact h2 i x (by simpa using hx) hk
    · intro h
      refine ⟨?_, fun i x hx hk => h (i + 1) x (by simpa using hx) hk⟩
      by_cases hk : t.kind = 2
      · obtain ⟨z, hz, hz0⟩ := h 0 t rfl hk
        simp at hz
        subst hz
        simp [hz0]
      · simp [hk]
theorem riseB_take : ∀ (ms : List Mp) (last : Int) (k : Nat) (m : Mp), ms[k]? = some m → riseB last (ms.take k) = true → (riseB last (ms.take (k + 1)) = decide ((((ms.take k).map Mp.at_).getLast?.getD last) < m.at_))
  | [], _, _, _, h, _ => by simp at h
  | x :: r, last, 0, m, h, _ => by
    simp at h
    subst h
    simp [riseB]
  | x :: r, last, k + 1, m, h, h2 => by
    simp only [List.take_succ_cons, riseB, Bool.and_eq_true] at h2 ⊢
    rw [riseB_take r x.at_ k m (by simpa using h) h2.2]
    have h21 : decide (last < x.at_) = true := h2.1
    rw [h21, Bool.true_and]
    simp only [List.map_cons, List.getLast?_cons, Option.getD_some]
theorem riseB_false : ∀ (ms : List Mp) (last : Int) (k : Nat), riseB last (ms.take k) = false → riseB last ms = false
  | [], _, k, h => by simp [riseB] at h
  | x :: r, last, 0, h => by simp [riseB] at h
  | x :: r, last, k + 1, h => by
    simp only [List.take_succ_cons, riseB, Bool.and_eq_false_iff] at h ⊢
    rcases h with h | h
    · exact .inl h
    · exact .inr (riseB_false r _ k h)
end Go.Proofs.YteooppjbpekepaaGreatDoor

/- What the walks of stage 8's laws ask of the program's class; works8. -/
namespace Go.Proofs.YteooppjbpekepaaGreatDoor
open Go.RowKit
set_option linter.unusedVariables false
set_option maxRecDepth 100000

/-- The error of a class; its bytes, where there is none. -/
def errK (c : Cl) : Int := if rightK c = false then 80 else if 32768 < (bytesK c).length then 3 else 0
def printK (c : Cl) : List UInt8 := if errK c = 0 then bytesK c else []
def cl0 : Cl := ⟨[], [], [], [], []⟩
def parseK (bs : List UInt8) : Cl × Int := if 32768 < bs.length then (cl0, 3) else match readK bs with
  | none => (cl0, 80)
  | some c => if rightK c = true ∧ bytesK c = bs then (c, 0) else (cl0, 80)
/-- The place of the first method with that name and that type. -/
def findK (ms : List Md) (s t : List UInt8) : Int × Int := match ms.findIdx? (fun m => decide (m.name = s ∧ m.type = t)) with
  | some i => ((i : Int), 0)
  | none => (0, 5)
def plEx : List Ent := [ent0, eUtf [97], ⟨7, [], 0, 1, 0⟩]
def clEx : Cl := ⟨plEx, [97], [], [], []⟩
def bytesEx : List UInt8 := [202, 254, 186, 190, 0, 0, 0, 52, 0, 3, 1, 0, 1, 97, 7, 0, 1, 0, 33, 0, 2, 0, 0, 0, 0, 0, 0, 0, 0, 0, 0]
theorem errEx : errK clEx = 0 := by decide +kernel
theorem printEx : printK clEx = bytesEx := by decide +kernel

/-- The chapter's class in memory. -/
def exR (z : Nat) : ClR := ⟨clEx, ⟨some ⟨z, 0, none⟩, 3, 3⟩, ⟨none, 0, 0⟩, ⟨none, 0, 0⟩, []⟩
theorem lin_none {α : Type} {sz by_ : Nat} {cs : α → List Value} {ok : α → Prop} {w : World} : LIn sz by_ cs ok w ⟨none, 0, 0⟩ [] :=
  ⟨⟨rfl, .inl rfl⟩, Nat.le_refl _, by decide, fun _ => ⟨rfl, rfl⟩, by simp, fun x hx => by cases hx⟩
end Go.Proofs.YteooppjbpekepaaGreatDoor

/- The document's class: the number of a text, of a class. -/
namespace Go.Proofs.YteooppjbpekepaaGreatDoor
open Go.RowKit
set_option linter.unusedVariables false

/-- A class of a right pool leads to a text. -/
theorem class_leads {l : List Ent} (hc : checkP l = true) {k : Nat} {y : Ent} (hy : l[k]? = some y) (h7 : y.tag = 7) : ∃ ka : Nat, y.a = ka ∧ ∃ z, l[ka]? = some z := by
  have hk := (List.getElem?_eq_some_iff.1 hy).1
  have h := ((checkP_all l).1 hc).2 k hk
  have ha : atE l (k : Int) = y := by rw [atE_nat, hy]; rfl
  have ho : okE l y = true := by
    unfold rightAt at h
    rw [ha] at h
    split at h
    · have h0 := of_decide_eq_true h
      rw [h0] at h7
      exact absurd h7 (by decide)
    · rw [Bool.and_eq_true] at h
      exact h.1
  unfold okE at ho
  simp only [h7] at ho
  simp at ho
  have hin := tagE_in (l := l) (i := y.a) (by rw [ho.1]; decide)
  exact ⟨y.a.toNat, by omega, _, List.getElem?_eq_getElem (by omega)⟩

end Go.Proofs.YteooppjbpekepaaGreatDoor
