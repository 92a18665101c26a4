/- The program's table as its text lays it (this text names the code's variable), a world that begins so, and bytes that came in. -/
import Derived.Test.YtnkmcndbbapeoaaDoorArA
import Derived.Test.YtnkmcndbbapeoaaDoorRows
import Derived.Test.YtnkmcndbbapeoaaDoorSmP2
import Derived.ProofKit
import Derived.OpenShut
import Derived.LaidMore
import Derived.Stop.Joined
namespace Go.Proofs.YtnkmcndbbapeoaaDoor
open Go.ChangeShapes Go.WideShapes Go.ChangeAt Go.RowKit
set_option linter.unusedVariables false

theorem gTab : Tryd.prog.globalNamed "larch/sum.halves" = some 0 := by kernel_rfl
theorem tTab : (Tryd.prog.globals[0]?).map (·.type) = some 64 := by kernel_rfl
theorem cells32 : Tryd.prog.cellsOf 58 = 1 := by kernel_rfl

def tabL : List Nat := (List.range 16).map (stepN 4)
theorem tab_said : (Rows.laid_larch_sum_halves : DataW Unit) = .agg (tabL.map fun (n : Nat) => .lit (.int .u32 (n : Int))) := rfl
abbrev laid1 : List (String × DataW Unit) := [("larch/sum.halves", Rows.laid_larch_sum_halves)]

theorem tab_of_laid {W : World} (h : laidMetH Tryd.prog laid1 W) : Tab W := by
  have h' : laidMet Tryd.prog laid1 W := h
  obtain ⟨ps, ⟨g, t, cs, fuel, p, q, hg, ht, hvar, hd, _, _⟩, _⟩ := h'
  obtain rfl := Option.some.inj (gTab.symm.trans hg)
  obtain rfl := Option.some.inj (tTab.symm.trans ht)
  rw [tab_said] at hd
  obtain ⟨xs, m, _, hx, _, hl, hel⟩ := DataW.trod_array Tryd.underlying64 hd
  injection hx with hx _
  injection hx with hx
  intro i hi
  have hi2 := hel i hi
  rw [cells32, Nat.mul_one, List.getElem?_eq_getElem (by omega)] at hi2
  obtain ⟨n, e, hd2, _⟩ := DataW.trod_int Tryd.underlying58 hi2
  have hn : (n : Int) = (stepN 4 i : Nat) := by
    have h1 : (xs.map (·.1))[i]? = some (.lit (.int .u32 n)) := by
      rw [List.getElem?_map, List.getElem?_eq_getElem (by omega), hd2]; rfl
    rw [← hx] at h1
    simp [tabL, hi] at h1
    exact h1.symm
  have hc : cs[i]? = some (.int .u32 n) := by
    have : ((cs.toList.drop i).take 1)[0]? = some (.int .u32 n) := by rw [e]; rfl
    simpa [List.getElem?_take] using this
  have := World.var?_cell gTab hvar i
  rw [this, hc, hn]

/-- The door's own heap meets the condition. -/
theorem door_met (os : Os) (args : Array Value) : laidMetH Tryd.prog laid1 ((World.doorLaid Tryd.prog 600 os).forCall (fun _ _ => 0) ⟨#[], args, []⟩).memory :=
  laidMetH_of_parts3 (fuel := 8) (laidMet_of_run' 8 (by kernel_rfl) (by kernel_rfl)) (by kernel_rfl) (by kernel_rfl)

theorem bytes_arg {H : Type} {enc : TypeId × Value → H} {W : World} {base : Nat} {a : Option Addr} {len cap : Nat} {d : DataW H} {p : List MemPlace}
    (h : DataW.Trod enc Tryd.prog W base (fun _ => true) true 25 (.slice a len cap) d p) :
    ∃ l : List UInt8, BytesOf W a len cap l ∧ (a = none → len = 0 ∧ cap = 0) := by
  obtain ⟨fuel, hf⟩ := h
  rcases open_ints Tryd.underlying25 Tryd.underlying5 (by kernel_rfl) hf with ⟨hcs, _⟩ | ⟨x, l, c, zs, hcs, _, hl, hm, hz, hd, hcell, hwz⟩
  · simp [Value.cells] at hcs
    obtain ⟨rfl, rfl, rfl⟩ := hcs
    exact ⟨[], .inl ⟨rfl, by omega, by omega, .inl ⟨rfl, rfl, rfl⟩⟩, fun _ => ⟨rfl, rfl⟩⟩
  · simp [Value.cells] at hcs
    obtain ⟨rfl, rfl, rfl⟩ := hcs
    have hzl : zs.length = cap := by simpa using hz
    unfold maxLen at hm
    by_cases h0 : len = 0
    · subst h0
      exact ⟨[], .inr ⟨rfl, rfl, by omega, _, rfl⟩, (fun e => by cases e)⟩
    · have c0 := hcell 0 (by omega)
      have hx : x = ⟨x.block, x.off, none⟩ := spot_none (w := W) (a := x) (by simpa [Addr.add] using c0)
      refine ⟨(zs.take len).map fun z => UInt8.ofNat z.toNat, .inl ⟨by simp; omega, hl, by omega, .inr ⟨x.block, x.off, by rw [← hx], ⟨(fun e => by cases e), fun ad e j u hu => ?_⟩⟩⟩, (fun e => by cases e)⟩
      injection e with e
      subst e
      have hj : j < len := by
        have := (List.getElem?_eq_some_iff.1 hu).1
        rw [bv_length] at this
        simp at this
        omega
      have hc := hcell j (by omega)
      rw [hx] at hc
      rw [hc]
      have hmem : zs.getD j 0 ∈ zs := by rw [List.getD_eq_getElem?_getD, List.getElem?_eq_getElem (by omega)]; exact List.getElem_mem _
      have hb := bounds_u8 (hwz _ hmem)
      have hg : (bv ((zs.take len).map fun z => UInt8.ofNat z.toNat))[j]? = some (.int .u8 ((UInt8.ofNat (zs.getD j 0).toNat).toNat : Int)) := by
        have h1 : zs[j]? = some (zs.getD j 0) := by rw [List.getD_eq_getElem?_getD, List.getElem?_eq_getElem (by omega)]; rfl
        simp only [bv, List.getElem?_map, List.getElem?_take, if_pos hj, h1, Option.map_some]
      rw [hg] at hu
      rw [← hu]
      congr 2
      rw [UInt8.toNat_ofNat']
      omega

theorem arg_of_bytes {w : World} {a : Option Addr} {n cap : Nat} {l : List UInt8} (h : BytesOf w a n cap l) (hn : a = none → n = 0 ∧ cap = 0) : Arg w a n cap l := by
  rcases h with ⟨hl, h1, h2, ⟨rfl, rfl, rfl⟩ | ⟨b, o, rfl, h⟩⟩ | ⟨hl, rfl, h2, ad, rfl⟩
  · exact ⟨⟨hl, .inl rfl⟩, h1, h2, hn⟩
  · exact ⟨⟨hl, .inr ⟨b, o, rfl, h⟩⟩, h1, h2, hn⟩
  · exact ⟨⟨hl, .inl rfl⟩, by omega, h2, hn⟩

end Go.Proofs.YtnkmcndbbapeoaaDoor
