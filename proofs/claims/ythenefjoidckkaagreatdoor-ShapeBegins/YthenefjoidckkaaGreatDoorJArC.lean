/- Bytes that came in, opened for the walks. -/
import Derived.Test.YthenefjoidckkaaGreatDoorJF
import Derived.SizedLaws

namespace Go.Proofs.YthenefjoidckkaaGreatDoor
open Go.ChangeShapes Go.WideShapes Go.ChangeAt Go.RowKit
set_option linter.unusedVariables false

theorem cells1B : Tryz.prog.cellsOf 5 = 1 := by kernel_rfl
theorem bytes1B : Tryz.prog.bytesOf 5 = 1 := by kernel_rfl
theorem byte_cells {H : Type} {enc : TypeId × Value → H} {w : World} {base : Nat} (n : Nat) (cs : List Value) (x : DataW H × List MemPlace)
    (h : DataW.trod enc Tryz.prog w base (fun _ => true) true n 5 cs = some x) (hw : ∀ m ∈ x.1.weights Tryz.prog 5, m ≤ reachBytes) : ∃ y : UInt8, cs = [.int .u8 (y.toNat : Int)] ∧ True := by
  obtain ⟨z, e, _, hz⟩ := DataW.trod_int Tryz.underlying5 h
  have b := bounds_u8 hz
  refine ⟨UInt8.ofNat z.toNat, ?_, trivial⟩
  have e2 : ((UInt8.ofNat z.toNat).toNat : Int) = z := by simp; omega
  rw [e2]
  exact e
theorem arg6 {H : Type} {enc : TypeId × Value → H} {w : World} {base : Nat} {a : Option Addr} {len cap : Nat} {d : DataW H} {p : List MemPlace}
    (h : DataW.Trod enc Tryz.prog w base (fun _ => true) true 23 (.slice a len cap) d p) (hw : ∀ m ∈ d.weights Tryz.prog 23, m ≤ reachBytes) :
    ∃ l : List UInt8, Arg w a len cap l ∧ len ≤ 140737488351232 := by
  obtain ⟨l, h1, h2, h3, h4, h5, _, h6⟩ := open_list Tryz.underlying23 cells1B (by omega) (val := fun (y : UInt8) => [.int .u8 (y.toNat : Int)]) (ok := fun _ => True) (fun _ => rfl) (fun y => ⟨_, rfl⟩) byte_cells h hw
  rw [bytes1B] at h4
  unfold reachBytes at h4
  refine ⟨l, ⟨⟨h1, h6.elim .inl fun ⟨b, o, e, _, hc⟩ => .inr ⟨b, o, e, (fun e => by cases e), fun ad e2 j u hu => ?_⟩⟩, h2, h3, h5⟩, by omega⟩
  injection e2 with e2
  subst e2
  rw [Addr.add_mid]
  simp only [bv, List.getElem?_map] at hu
  obtain ⟨y, hy, rfl⟩ := Option.map_eq_some_iff.1 hu
  have := hc j y hy 0 _ rfl
  rw [Nat.mul_one, Nat.add_zero] at this
  exact this

end Go.Proofs.YthenefjoidckkaaGreatDoor
