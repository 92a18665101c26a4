/- What a slice of acts that came in reads as. -/
import Derived.Test.YtaflibnalhfenaaArA
import Derived.Test.YtaflibnalhfenaaDkP
import Derived.ProofKit
import Derived.OpenShut
import Derived.Deep.Slices
namespace Go.Proofs.Ytaflibnalhfenaa
open Go.ChangeShapes Go.WideShapes Go.ChangeAt Go.RowKit
set_option linter.unusedVariables false

theorem cellsA : Try.prog.cellsOf 35 = 6 := by kernel_rfl
theorem cellsB : Try.prog.cellsOf 5 = 1 := by kernel_rfl

theorem act_cells {H : Type} {enc : TypeId × Value → H} {w : World} {base : Nat} {spare : Nat → Bool} {held : Bool} {n : Nat} {cs : List Value} {x : DataW H × List MemPlace}
    (h : DataW.trod enc Try.prog w base spare held n 35 cs = some x) :
    ∃ a : LAct, cs[0]? = some (.int .i64 a.kind) ∧ cs[1]? = some (.int .i64 a.at_) ∧ cs[3]? = some (.int .u8 (a.byte.toNat : Int)) := by
  obtain ⟨xs, m, _, rfl, hl, hlen, hf⟩ := DataW.trod_struct Try.underlying35 h
  have f0 := hf 0 { name := "Do", type := 3, offset := 0, embedded := false, tag := "", pkgPath := "", byteOffset := 0 } rfl
  have f1 := hf 1 { name := "At", type := 3, offset := 1, embedded := false, tag := "", pkgPath := "", byteOffset := 8 } rfl
  have f3 := hf 3 { name := "Byte", type := 5, offset := 3, embedded := false, tag := "", pkgPath := "", byteOffset := 24 } rfl
  simp only [cellsI, cellsB] at f0 f1 f3
  have l6 : xs.length = 6 := hlen
  rw [List.getElem?_eq_getElem (by omega)] at f0 f1 f3
  obtain ⟨n0, e0, _, _⟩ := DataW.trod_int Try.underlying3 f0
  obtain ⟨n1, e1, _, _⟩ := DataW.trod_int Try.underlying3 f1
  obtain ⟨n3, e3, _, w3⟩ := DataW.trod_int Try.underlying5 f3
  have b3 := bounds_u8 w3
  refine ⟨⟨n0, n1, UInt8.ofNat n3.toNat⟩, take_one e0, take_one e1, ?_⟩
  have e : ((UInt8.ofNat n3.toNat).toNat : Int) = n3 := by simp; omega
  rw [e]
  exact take_one e3

theorem acts_open {H : Type} {enc : TypeId × Value → H} {w : World} {base : Nat} {spare : Nat → Bool} {held : Bool} {fuel : Nat} {a : Option Addr} {len cap : Nat} {x : DataW H × List MemPlace}
    (h : DataW.trod enc Try.prog w base spare held fuel 22 [.slice a len cap] = some x) :
    ∃ l : List LAct, l.length = len ∧ len ≤ cap ∧ cap ≤ maxLen ∧ (len = 0 ∨ ∃ b o, a = some ⟨b, o, none⟩ ∧ ActsAt w b o l) := by
  rcases Go.Deep.open_slice Try.underlying22 h with ⟨hcs, _⟩ | ⟨ad, len', cap', m, n, D, Pl, hcs, _, hl, hm, hmm, _, hel⟩
  · simp at hcs
    obtain ⟨rfl, rfl, rfl⟩ := hcs
    exact ⟨[], rfl, Nat.le_refl _, by simp, .inl rfl⟩
  · simp at hcs
    obtain ⟨rfl, rfl, rfl⟩ := hcs
    have hlm : len ≤ m := by rw [hmm]; split <;> omega
    have hE : ∀ i, i < len → ∃ y : LAct, w.cell? (ad.add (i * 6)) = some (.int .i64 y.kind) ∧ w.cell? ((ad.add (i * 6)).add 1) = some (.int .i64 y.at_) ∧ w.cell? ((ad.add (i * 6)).add 3) = some (.int .u8 (y.byte.toNat : Int)) := by
      intro i hi
      obtain ⟨cs', h1, h2⟩ := hel i (by omega)
      rw [cellsA] at h1
      obtain ⟨y, c0, c1, c3⟩ := act_cells h2
      have hc := World.cells?_some h1
      refine ⟨y, ?_, ?_, ?_⟩
      · have := hc.2.2 0 (by omega)
        rw [c0] at this
        simpa [Addr.add] using this
      · rw [hc.2.2 1 (by omega), c1]
      · rw [hc.2.2 3 (by omega), c3]
    by_cases h0 : len = 0
    · subst h0
      exact ⟨[], rfl, hl, hm, .inl rfl⟩
    · obtain ⟨y0, hy0, _⟩ := hE 0 (by omega)
      have hsp : ad = ⟨ad.block, ad.off, none⟩ := by
        have hy : w.cell? ad = some (.int .i64 y0.kind) := by simpa [Addr.add] using hy0
        cases hs : ad.spot with
        | none => cases ad; simp at hs; subst hs; rfl
        | some s =>
          unfold World.cell? at hy
          rw [hs] at hy
          split at hy <;> simp at hy
      let F : ∀ i, i < len → LAct := fun i hi => Classical.choose (hE i hi)
      have hF : ∀ i (hi : i < len), w.cell? (ad.add (i * 6)) = some (.int .i64 (F i hi).kind) ∧ w.cell? ((ad.add (i * 6)).add 1) = some (.int .i64 (F i hi).at_) ∧ w.cell? ((ad.add (i * 6)).add 3) = some (.int .u8 ((F i hi).byte.toNat : Int)) := fun i hi => Classical.choose_spec (hE i hi)
      refine ⟨List.ofFn (fun i : Fin len => F i.1 i.2), by simp, hl, hm, .inr ⟨ad.block, ad.off, by rw [← hsp], ?_⟩⟩
      intro j z hz
      have hj : j < len := by have := (List.getElem?_eq_some_iff.1 hz).1; simpa using this
      have hzz : z = F j hj := by
        obtain ⟨_, e⟩ := List.getElem?_eq_some_iff.1 hz
        rw [← e]; simp
      subst hzz
      have := hF j hj
      rw [hsp, Addr.add_mid, Addr.add_mid, Addr.add_mid] at this
      exact this

end Go.Proofs.Ytaflibnalhfenaa
