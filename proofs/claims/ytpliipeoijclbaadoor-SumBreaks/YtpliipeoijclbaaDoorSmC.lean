/- Other arguments of stage 2's laws: four bytes, numbers. -/
import Derived.Test.YtpliipeoijclbaaDoorSmC1
import Derived.Test.YtpliipeoijclbaaDoorSmPc
import Derived.Test.YtpliipeoijclbaaDoorSmW
import Derived.Test.YtpliipeoijclbaaDoorSmPieces
namespace Go.Proofs.YtpliipeoijclbaaDoor
open Go.ChangeShapes Go.WideShapes Go.ChangeAt Go.RowKit
set_option linter.unusedVariables false

theorem cells8 : Tryd.prog.cellsOf 5 = 1 := by kernel_rfl
/-- Four bytes that came in as an array. -/
theorem four_arg {H : Type} {enc : TypeId × Value → H} {W : World} {base b2 : Nat} {v : Value} {d : DataW H} {p : List MemPlace} (hv : Value.okWide Tryd.prog W .any b2 41 v)
    (h : DataW.Trod enc Tryd.prog W base (fun _ => true) true 41 v d p) : ∃ y0 y1 y2 y3 : UInt8, v = .agg #[.int .u8 (y0.toNat : Int), .int .u8 (y1.toNat : Int), .int .u8 (y2.toNat : Int), .int .u8 (y3.toNat : Int)] := by
  obtain ⟨fuel, hf⟩ := h
  simp only [Value.okWide, Tryd.underlying41] at hv
  obtain ⟨cs, rfl, hcs, _⟩ := hv
  obtain ⟨xs, m, _, hx, hcl, hl, hel⟩ := DataW.trod_array Tryd.underlying41 hf
  have one : ∀ i, i < 4 → ∃ y : UInt8, (Value.agg cs).cells.toList[i]? = some (.int .u8 (y.toNat : Int)) := by
    intro i hi
    have h2 := hel i hi
    rw [cells8, Nat.mul_one, List.getElem?_eq_getElem (by omega)] at h2
    obtain ⟨n, e, _, wn⟩ := DataW.trod_int Tryd.underlying5 h2
    have b := bounds_u8 wn
    refine ⟨UInt8.ofNat n.toNat, ?_⟩
    have : ((UInt8.ofNat n.toNat).toNat : Int) = n := by simp; omega
    rw [this]
    have h3 : (((Value.agg cs).cells.toList.drop i).take 1)[0]? = some (.int .u8 n) := by rw [e]; rfl
    simpa [List.getElem?_take] using h3
  obtain ⟨y0, h0⟩ := one 0 (by omega)
  obtain ⟨y1, h1⟩ := one 1 (by omega)
  obtain ⟨y2, h2⟩ := one 2 (by omega)
  obtain ⟨y3, h3⟩ := one 3 (by omega)
  have hc4 : Tryd.prog.cellsOf 41 = 4 := by kernel_rfl
  rw [hc4] at hcs
  refine ⟨y0, y1, y2, y3, congrArg Value.agg ?_⟩
  obtain ⟨L⟩ := cs
  simp only [Value.cells] at h0 h1 h2 h3
  have hL : L.length = 4 := hcs
  apply Array.toList_inj.1
  show L = [_, _, _, _]
  apply List.ext_getElem?
  intro i
  match i with
  | 0 => rw [h0]; rfl
  | 1 => rw [h1]; rfl
  | 2 => rw [h2]; rfl
  | 3 => rw [h3]; rfl
  | k + 4 => rw [List.getElem?_eq_none (by omega)]; rfl

theorem ints_arg {H : Type} {enc : TypeId × Value → H} {W : World} {base : Nat} {a : Option Addr} {len cap : Nat} {d : DataW H} {p : List MemPlace}
    (h : DataW.Trod enc Tryd.prog W base (fun _ => true) true 38 (.slice a len cap) d p) : ∃ zs : List Int, IntsOf W a len zs ∧ len ≤ 9223372036854775807 := by
  obtain ⟨fuel, hf⟩ := h
  rcases open_ints Tryd.underlying38 Tryd.underlying3 (by kernel_rfl) hf with ⟨hcs, _⟩ | ⟨x, l, c, zs, hcs, _, hl, hm, hz, _, hcell, hwz⟩
  · simp [Value.cells] at hcs
    obtain ⟨rfl, rfl, rfl⟩ := hcs
    exact ⟨[], ⟨rfl, .inl rfl⟩, by omega⟩
  · simp [Value.cells] at hcs
    obtain ⟨rfl, rfl, rfl⟩ := hcs
    have hzl : zs.length = cap := by simpa using hz
    unfold maxLen at hm
    by_cases h0 : len = 0
    · subst h0
      exact ⟨[], ⟨rfl, .inl rfl⟩, by omega⟩
    · have c0 := hcell 0 (by omega)
      have hx : x = ⟨x.block, x.off, none⟩ := spot_none (w := W) (a := x) (by simpa [Addr.add] using c0)
      refine ⟨zs.take len, ⟨by simp; omega, .inr ⟨x.block, x.off, by rw [← hx], fun j hj => ?_⟩⟩, by omega⟩
      have hg : (zs.take len).getD j 0 = zs.getD j 0 := by simp [List.getD_eq_getElem?_getD, hj]
      have hc := hcell j (by omega)
      rw [hx, Addr.add_mid] at hc
      rw [hg]
      exact hc

end Go.Proofs.YtpliipeoijclbaaDoor
