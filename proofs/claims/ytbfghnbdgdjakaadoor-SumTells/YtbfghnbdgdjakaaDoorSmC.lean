/- The program's table as its text lays it (this text names the code's variable), and a world that begins so. -/
import Derived.Test.YtbfghnbdgdjakaaDoorRows
import Derived.Test.YtbfghnbdgdjakaaDoorSmPc
import Derived.Test.YtbfghnbdgdjakaaDoorSmW
import Derived.Test.YtbfghnbdgdjakaaDoorSmPieces
import Derived.ProofKit
import Derived.OpenShut
import Derived.LaidMore
import Derived.Stop.Joined
namespace Go.Proofs.YtbfghnbdgdjakaaDoor
open Go.ChangeShapes Go.WideShapes Go.ChangeAt Go.RowKit
set_option linter.unusedVariables false

theorem ownKn : ownKnob Tryd.prog.godebug = none := by kernel_rfl
theorem laidOut : laidOutB Tryd.prog = true := by kernel_rfl
theorem gTab : Tryd.prog.globalNamed "larch/sum.halves" = some 0 := by kernel_rfl
theorem tTab : (Tryd.prog.globals[0]?).map (·.type) = some 48 := by kernel_rfl
theorem cells32 : Tryd.prog.cellsOf 22 = 1 := by kernel_rfl

def tabL : List Nat := (List.range 16).map (stepN 4)
theorem tab_said : (Rows.laid_larch_sum_halves : DataW Unit) = .agg (tabL.map fun (n : Nat) => .lit (.int .u32 (n : Int))) := rfl
abbrev laid1 : List (String × DataW Unit) := [("larch/sum.halves", Rows.laid_larch_sum_halves)]

theorem tab_of_laid {W : World} (h : laidMetH Tryd.prog laid1 W) : Tab W := by
  have h' : laidMet Tryd.prog laid1 W := h
  obtain ⟨ps, ⟨g, t, cs, fuel, p, q, hg, ht, hvar, hd, _, _⟩, _⟩ := h'
  obtain rfl := Option.some.inj (gTab.symm.trans hg)
  obtain rfl := Option.some.inj (tTab.symm.trans ht)
  rw [tab_said] at hd
  obtain ⟨xs, m, _, hx, _, hl, hel⟩ := DataW.trod_array Tryd.underlying48 hd
  injection hx with hx _
  injection hx with hx
  intro i hi
  have hi2 := hel i hi
  rw [cells32, Nat.mul_one, List.getElem?_eq_getElem (by omega)] at hi2
  obtain ⟨n, e, hd2, _⟩ := DataW.trod_int Tryd.underlying22 hi2
  have hn : (n : Int) = (stepN 4 i : Nat) := by
    have h1 : (xs.map (·.1))[i]? = some (.lit (.int .u32 n)) := by
      rw [List.getElem?_map, List.getElem?_eq_getElem (by omega), hd2]; rfl
    rw [← hx] at h1
    simp [tabL, hi] at h1
    exact h1.symm
  have hc : cs[i]? = some (.int .u32 n) := by
    have : ((cs.toList.drop i).take 1)[0]? = some (.int .u32 n) := by rw [e]; rfl
    simpa [List.getElem?_take] using this
  have := World.var?_cell gTab hvar i
  rw [this, hc, hn]

/-- The door's own heap meets the condition. -/
theorem door_met (os : Os) (args : Array Value) : laidMetH Tryd.prog laid1 ((World.doorLaid Tryd.prog 600 os).forCall (fun _ _ => 0) ⟨#[], args, []⟩).memory :=
  laidMetH_of_parts3 (fuel := 8) (laidMet_of_run' 8 (by kernel_rfl) (by kernel_rfl)) (by kernel_rfl) (by kernel_rfl)

theorem spot_none {w : World} {a : Addr} {v : Value} (h : w.cell? a = some v) : a = ⟨a.block, a.off, none⟩ := by
  cases hs : a.spot with
  | none => cases a; simp at hs; subst hs; rfl
  | some s =>
    unfold World.cell? at h
    rw [hs] at h
    split at h <;> simp at h

theorem bytes_arg {H : Type} {enc : TypeId × Value → H} {W : World} {base : Nat} {a : Option Addr} {len cap : Nat} {d : DataW H} {p : List MemPlace}
    (h : DataW.Trod enc Tryd.prog W base (fun _ => true) true 23 (.slice a len cap) d p) :
    ∃ l : List UInt8, BytesOf W a len cap l ∧ (a = none → len = 0 ∧ cap = 0) := by
  obtain ⟨fuel, hf⟩ := h
  rcases open_ints Tryd.underlying23 Tryd.underlying5 (by kernel_rfl) hf with ⟨hcs, _⟩ | ⟨x, l, c, zs, hcs, _, hl, hm, hz, hd, hcell, hwz⟩
  · simp [Value.cells] at hcs
    obtain ⟨rfl, rfl, rfl⟩ := hcs
    exact ⟨[], .inl ⟨rfl, by omega, by omega, .inl ⟨rfl, rfl, rfl⟩⟩, fun _ => ⟨rfl, rfl⟩⟩
  · simp [Value.cells] at hcs
    obtain ⟨rfl, rfl, rfl⟩ := hcs
    have hzl : zs.length = cap := by simpa using hz
    unfold maxLen at hm
    by_cases h0 : len = 0
    · subst h0
      exact ⟨[], .inr ⟨rfl, rfl, by omega, _, rfl⟩, (fun e => by cases e)⟩
    · have c0 := hcell 0 (by omega)
      have hx : x = ⟨x.block, x.off, none⟩ := spot_none (w := W) (a := x) (by simpa [Addr.add] using c0)
      refine ⟨(zs.take len).map fun z => UInt8.ofNat z.toNat, .inl ⟨by simp; omega, hl, by omega, .inr ⟨x.block, x.off, by rw [← hx], ⟨(fun e => by cases e), fun ad e j u hu => ?_⟩⟩⟩, (fun e => by cases e)⟩
      injection e with e
      subst e
      have hj : j < len := by
        have := (List.getElem?_eq_some_iff.1 hu).1
        rw [bv_length] at this
        simp at this
        omega
      have hc := hcell j (by omega)
      rw [hx] at hc
      rw [hc]
      have hmem : zs.getD j 0 ∈ zs := by rw [List.getD_eq_getElem?_getD, List.getElem?_eq_getElem (by omega)]; exact List.getElem_mem _
      have hb := bounds_u8 (hwz _ hmem)
      have hg : (bv ((zs.take len).map fun z => UInt8.ofNat z.toNat))[j]? = some (.int .u8 ((UInt8.ofNat (zs.getD j 0).toNat).toNat : Int)) := by
        have h1 : zs[j]? = some (zs.getD j 0) := by rw [List.getD_eq_getElem?_getD, List.getElem?_eq_getElem (by omega)]; rfl
        simp only [bv, List.getElem?_map, List.getElem?_take, if_pos hj, h1, Option.map_some]
      rw [hg] at hu
      rw [← hu]
      congr 2
      rw [UInt8.toNat_ofNat']
      omega

theorem arg_of_bytes {w : World} {a : Option Addr} {n cap : Nat} {l : List UInt8} (h : BytesOf w a n cap l) (hn : a = none → n = 0 ∧ cap = 0) : Arg w a n cap l := by
  rcases h with ⟨hl, h1, h2, ⟨rfl, rfl, rfl⟩ | ⟨b, o, rfl, h⟩⟩ | ⟨hl, rfl, h2, ad, rfl⟩
  · exact ⟨⟨hl, .inl rfl⟩, h1, h2, hn⟩
  · exact ⟨⟨hl, .inr ⟨b, o, rfl, h⟩⟩, h1, h2, hn⟩
  · exact ⟨⟨hl, .inl rfl⟩, by omega, h2, hn⟩

theorem cells8 : Tryd.prog.cellsOf 5 = 1 := by kernel_rfl
/-- Four bytes that came in as an array. -/
theorem four_arg {H : Type} {enc : TypeId × Value → H} {W : World} {base b2 : Nat} {v : Value} {d : DataW H} {p : List MemPlace} (hv : Value.okWide Tryd.prog W .any b2 41 v)
    (h : DataW.Trod enc Tryd.prog W base (fun _ => true) true 41 v d p) : ∃ y0 y1 y2 y3 : UInt8, v = .agg #[.int .u8 (y0.toNat : Int), .int .u8 (y1.toNat : Int), .int .u8 (y2.toNat : Int), .int .u8 (y3.toNat : Int)] := by
  obtain ⟨fuel, hf⟩ := h
  simp only [Value.okWide, Tryd.underlying41] at hv
  obtain ⟨cs, rfl, hcs, _⟩ := hv
  obtain ⟨xs, m, _, hx, hcl, hl, hel⟩ := DataW.trod_array Tryd.underlying41 hf
  have one : ∀ i, i < 4 → ∃ y : UInt8, (Value.agg cs).cells.toList[i]? = some (.int .u8 (y.toNat : Int)) := by
    intro i hi
    have h2 := hel i hi
    rw [cells8, Nat.mul_one, List.getElem?_eq_getElem (by omega)] at h2
    obtain ⟨n, e, _, wn⟩ := DataW.trod_int Tryd.underlying5 h2
    have b := bounds_u8 wn
    refine ⟨UInt8.ofNat n.toNat, ?_⟩
    have : ((UInt8.ofNat n.toNat).toNat : Int) = n := by simp; omega
    rw [this]
    have h3 : (((Value.agg cs).cells.toList.drop i).take 1)[0]? = some (.int .u8 n) := by rw [e]; rfl
    simpa [List.getElem?_take] using h3
  obtain ⟨y0, h0⟩ := one 0 (by omega)
  obtain ⟨y1, h1⟩ := one 1 (by omega)
  obtain ⟨y2, h2⟩ := one 2 (by omega)
  obtain ⟨y3, h3⟩ := one 3 (by omega)
  have hc4 : Tryd.prog.cellsOf 41 = 4 := by kernel_rfl
  rw [hc4] at hcs
  refine ⟨y0, y1, y2, y3, congrArg Value.agg ?_⟩
  obtain ⟨L⟩ := cs
  simp only [Value.cells] at h0 h1 h2 h3
  have hL : L.length = 4 := hcs
  apply Array.toList_inj.1
  show L = [_, _, _, _]
  apply List.ext_getElem?
  intro i
  match i with
  | 0 => rw [h0]; rfl
  | 1 => rw [h1]; rfl
  | 2 => rw [h2]; rfl
  | 3 => rw [h3]; rfl
  | k + 4 => rw [List.getElem?_eq_none (by omega)]; rfl

theorem ints_arg {H : Type} {enc : TypeId × Value → H} {W : World} {base : Nat} {a : Option Addr} {len cap : Nat} {d : DataW H} {p : List MemPlace}
    (h : DataW.Trod enc Tryd.prog W base (fun _ => true) true 38 (.slice a len cap) d p) : ∃ zs : List Int, IntsOf W a len zs ∧ len ≤ 9223372036854775807 := by
  obtain ⟨fuel, hf⟩ := h
  rcases open_ints Tryd.underlying38 Tryd.underlying3 (by kernel_rfl) hf with ⟨hcs, _⟩ | ⟨x, l, c, zs, hcs, _, hl, hm, hz, _, hcell, hwz⟩
  · simp [Value.cells] at hcs
    obtain ⟨rfl, rfl, rfl⟩ := hcs
    exact ⟨[], ⟨rfl, .inl rfl⟩, by omega⟩
  · simp [Value.cells] at hcs
    obtain ⟨rfl, rfl, rfl⟩ := hcs
    have hzl : zs.length = cap := by simpa using hz
    unfold maxLen at hm
    by_cases h0 : len = 0
    · subst h0
      exact ⟨[], ⟨rfl, .inl rfl⟩, by omega⟩
    · have c0 := hcell 0 (by omega)
      have hx : x = ⟨x.block, x.off, none⟩ := spot_none (w := W) (a := x) (by simpa [Addr.add] using c0)
      refine ⟨zs.take len, ⟨by simp; omega, .inr ⟨x.block, x.off, by rw [← hx], fun j hj => ?_⟩⟩, by omega⟩
      have hg : (zs.take len).getD j 0 = zs.getD j 0 := by simp [List.getD_eq_getElem?_getD, hj]
      have hc := hcell j (by omega)
      rw [hx, Addr.add_mid] at hc
      rw [hg]
      exact hc

end Go.Proofs.YtbfghnbdgdjakaaDoor
