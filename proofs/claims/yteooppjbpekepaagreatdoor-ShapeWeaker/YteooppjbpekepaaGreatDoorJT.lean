/- Joined: CfL CfM. -/
import Derived.Test.YteooppjbpekepaaGreatDoorJR
import Derived.Test.YteooppjbpekepaaGreatDoorJS
import Derived.Test.YteooppjbpekepaaGreatDoorJG1

/- The landed code: instrsOf. -/
namespace Go.Proofs.YteooppjbpekepaaGreatDoor
open Go.RowKit
set_option linter.unusedVariables false
set_option maxRecDepth 100000

theorem insL_fuel {bs : List UInt8} {i f g : Nat} (hi : i ≤ bs.length) (hf : bs.length - i ≤ f) (hg : bs.length - i ≤ g) : insL bs f i = insL bs g i := by
  cases h1 : insL bs f i with
  | some l => exact (insL_fit f i l h1 hi g hg).symm
  | none =>
    cases h2 : insL bs g i with
    | none => rfl
    | some l => rw [insL_fit g i l h2 hi f hf] at h1; cases h1
/-- Between two instructions. -/
structure ML (bs : List UInt8) (xs : List Ins) (j : Nat) (wj : Bool) : Prop where
  no : wj = true → insL bs bs.length 0 = none
  yes : wj = false → insL bs bs.length 0 = (insL bs (bs.length - j) j).bind fun r => some (xs ++ r)
  lenf : wj = false → xs.length ≤ j
  len : xs.length ≤ j + 1
  hj : j ≤ bs.length
theorem ML.start (bs : List UInt8) : ML bs [] 0 false := ⟨(fun e => by cases e), (fun _ => by cases h : insL bs bs.length 0 <;> simp), fun _ => Nat.le_refl _, by simp, Nat.zero_le _⟩
theorem ML.next {bs : List UInt8} {xs : List Ins} {j : Nat} (h : ML bs xs j false) (hlt : j < bs.length) {x : Ins} {j' : Nat} {w' : Bool} (g : G9 (insR bs j) false x j' w') (hle : j ≤ j') (h1 : w' = false → j < j') (hj' : j' ≤ bs.length) : ML bs (xs ++ [x]) j' w' := by
  have h2 := h.yes rfl
  obtain ⟨m, hm⟩ : ∃ m, bs.length - j = m + 1 := ⟨bs.length - j - 1, by omega⟩
  have h3 : insL bs (m + 1) j = (insR bs j).bind fun x => (insL bs m x.2).bind fun r => some (x.1 :: r) := by
    conv => lhs; unfold insL
    rw [if_neg (by omega)]
  rw [hm, h3] at h2
  have hl := h.lenf rfl
  refine ⟨fun e => ?_, fun e => ?_, fun e => by simp; have := h1 e; omega, by simp; omega, hj'⟩
  · rcases g.2 rfl with ⟨_, g2⟩ | ⟨g1, g2⟩
    · rw [g2] at e; cases e
    · rw [h2, g1]; rfl
  · rcases g.2 rfl with ⟨g1, g2⟩ | ⟨g1, g2⟩
    · rw [h2, g1]
      simp only [Option.bind_some]
      have := h1 e
      rw [insL_fuel (i := j') (f := m) (g := bs.length - j') hj' (by omega) (Nat.le_refl _)]
      cases insL bs (bs.length - j') j' with
      | none => rfl
      | some r => simp
    · rw [g2] at e; cases e
theorem ML.code {bs : List UInt8} {xs : List Ins} {j : Nat} {wj : Bool} (h : ML bs xs j wj) (hd : ¬ j < bs.length ∨ wj = true) :
    (wj = false → insL bs bs.length 0 = some xs) ∧ codeP bs = if wj = false ∧ xs ≠ [] ∧ leadsP xs = true then some xs else none := by
  have h1 : wj = false → insL bs bs.length 0 = some xs := fun e => by
    have hj : j = bs.length := by have := hd.resolve_right (by rw [e]; simp); have := h.hj; omega
    rw [h.yes e, hj, Nat.sub_self]
    simp [insL]
  refine ⟨h1, ?_⟩
  unfold codeP
  cases wj with
  | true => rw [h.no rfl]; simp
  | false => rw [h1 rfl]; simp
theorem rising_of {bs : List UInt8} {xs : List Ins} (h : insL bs bs.length 0 = some xs) : Rising xs := fun p q x y hpq hx hy => insL_rise _ _ _ h p q x y hpq hx hy
structure InsOk (w : World) (base : Nat) (r : InR) : Prop where
  own : Orw cac 99 2 w base r.s.v r.x.cs
  fit : InsFit r.x
theorem InsOk.keep {w w' : World} {base : Nat} {r : InR} (h : InsOk w base r) (f : ∀ (k : Nat) (Z : Array Value), w.heap[k]? = some (.cells Z 99 (0, 0)) → w'.heap[k]? = w.heap[k]?) : InsOk w' base r :=
  ⟨h.own.below fun k hk => by
    obtain ⟨X, fr, hX, hfr⟩ := orw_blk0 h.own hk
    subst hfr
    exact f k X hX, h.fit⟩
theorem InsOk.base {w : World} {base base' : Nat} {r : InR} (h : InsOk w base r) (hb : base' ≤ base) : InsOk w base' r := ⟨h.own.base hb, h.fit⟩
theorem InsOk.ls {w : World} {base : Nat} {r : InR} (h : InsOk w base r) : Ls 2 cac w r.s.a r.s.n r.x.cs ∧ r.s.n ≤ 100000000000 := by
  have h1 : Ls 2 cac w r.s.a r.s.n r.x.cs := Orw.ls rkC h.own
  exact ⟨h1, by have := h1.1; have := h.fit.2.2.2.2.2; omega⟩
def mu9b (C : Cr9) (W : World) : Nat := match W.cell? ⟨C.X, 42, none⟩, W.cell? ⟨C.x, 1, none⟩ with
  | some (.bool true), _ => 0
  | _, some (.int _ k) => C.bs.length + 1 - k.toNat
  | _, _ => 0
def instrs_post (bs : List UInt8) (w : World) (e : Ending) (w' : World) : Prop :=
  ∃ (s : Sl) (rs : List InR) (b : Bool), e = .returned (.tuple #[s.v, .bool b]) ∧ Orw inc 57 5 w' w.heap.size s.v rs ∧ (∀ r ∈ rs, InsOk w' w.heap.size r) ∧ rs.length ≤ bs.length + 1 ∧ (b = true → codeP bs = some (rs.map InR.x)) ∧ (b = false → codeP bs = none) ∧ Below w.heap.size w w'
theorem instrs_end {C : Cr9} {w W : World} {va : Option Addr} {L vc : Nat} {rs : List InR} {j : Nat} {wj b : Bool} (hO : Orw inc 57 5 W w.heap.size (.slice va L vc) rs) (hE : ∀ r ∈ rs, InsOk W w.heap.size r) (hM : ML C.bs (rs.map InR.x) j wj) (hd : ¬ j < C.bs.length ∨ wj = true) (hF : Below w.heap.size w W)
    (hb : b = decide (wj = false ∧ rs.map InR.x ≠ [] ∧ leadsP (rs.map InR.x) = true)) : instrs_post C.bs w (.returned (.tuple #[.slice va L vc, .bool b])) W := by
  have hc := (hM.code hd).2
  refine ⟨⟨va, L, vc⟩, rs, b, rfl, hO, hE, ?_, fun e => ?_, fun e => ?_, hF⟩
  · have h1 := hM.len
    have h2 := hM.hj
    simp only [List.length_map] at h1
    omega
  · rw [hb, decide_eq_true_iff] at e
    rw [hc, if_pos e]
  · rw [hb, decide_eq_false_iff_not] at e
    rw [hc, if_neg e]
end Go.Proofs.YteooppjbpekepaaGreatDoor

/- The landed code: Decode. -/
namespace Go.Proofs.YteooppjbpekepaaGreatDoor
open Go.RowKit
set_option linter.unusedVariables false
set_option maxRecDepth 100000

/-- What Decode answers. -/
def dec_post (bs : List UInt8) (w : World) (e : Ending) (w' : World) : Prop :=
  ∃ (s : Sl) (rs : List InR) (er : Int), e = .returned (.tuple #[s.v, .int .i64 er]) ∧ Orw inc 57 5 w' w.heap.size s.v rs ∧ (∀ r ∈ rs, InsOk w' w.heap.size r) ∧ Below w.heap.size w w' ∧
    ((er = 0 ∧ bs.length ≤ 4096 ∧ codeP bs = some (rs.map InR.x)) ∨ (rs = [] ∧ er = 3 ∧ 4096 < bs.length) ∨ (rs = [] ∧ er = 90 ∧ bs.length ≤ 4096 ∧ codeP bs = none))
end Go.Proofs.YteooppjbpekepaaGreatDoor
