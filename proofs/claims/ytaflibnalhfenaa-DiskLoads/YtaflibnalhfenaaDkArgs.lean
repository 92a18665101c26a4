/- How arguments that came in are opened for the walks: acts and kept numbers. -/
import Derived.Test.YtaflibnalhfenaaArA
import Derived.Test.YtaflibnalhfenaaRows
import Derived.Test.YtaflibnalhfenaaDkR
import Derived.ProofKit
import Derived.OpenShut
import Derived.ShutString
import Derived.ChangeOld
namespace Go.Proofs.Ytaflibnalhfenaa
open Go.ChangeShapes Go.WideShapes Go.ChangeAt Go.RowKit
set_option linter.unusedVariables false

theorem acts_arg {H : Type} {enc : TypeId × Value → H} {W : World} {base : Nat} {a : Option Addr} {len cap : Nat} {d : DataW H} {p : List MemPlace}
    (h : DataW.Trod enc Try.prog W base (fun _ => true) true 22 (.slice a len cap) d p) : ∃ l : List LAct, l.length = len ∧ len ≤ 9223372036854775807 ∧ ActsOf W a l := by
  obtain ⟨fuel, hf⟩ := h
  obtain ⟨l, h1, h2, h3, h4⟩ := acts_open (by simpa [Value.cells] using hf)
  unfold maxLen at h3
  refine ⟨l, h1, by omega, ?_⟩
  rcases h4 with h4 | h4
  · exact .inl (by omega)
  · exact .inr h4

theorem acts_arg2 {H : Type} {enc : TypeId × Value → H} {W : World} {base : Nat} {a : Option Addr} {len cap : Nat} {d : DataW H} {p : List MemPlace}
    (h : DataW.Trod enc Try.prog W base (fun _ => true) true 22 (.slice a len cap) d p) : ∃ l : List LAct, l.length = len ∧ len ≤ cap ∧ cap ≤ 9223372036854775807 ∧ ActsOf W a l := by
  obtain ⟨fuel, hf⟩ := h
  obtain ⟨l, h1, h2, h3, h4⟩ := acts_open (by simpa [Value.cells] using hf)
  unfold maxLen at h3
  refine ⟨l, h1, h2, by omega, ?_⟩
  rcases h4 with h4 | h4
  · exact .inl (by omega)
  · exact .inr h4

theorem kept_arg {H : Type} {enc : TypeId × Value → H} {W : World} {base : Nat} {a : Option Addr} {len cap : Nat} {d : DataW H} {p : List MemPlace}
    (h : DataW.Trod enc Try.prog W base (fun _ => true) true 33 (.slice a len cap) d p) : ∃ kept : List Int, kept.length = len ∧ len ≤ 9223372036854775807 ∧ KeptOf W W.heap.size a kept := by
  obtain ⟨fuel, hf⟩ := h
  rcases open_ints Try.underlying33 Try.underlying3 (by kernel_rfl) hf with ⟨hcs, _⟩ | ⟨x, l, c, zs, hcs, _, hl, hm, hz, _, hcell, hwz⟩
  · simp [Value.cells] at hcs
    obtain ⟨rfl, rfl, rfl⟩ := hcs
    exact ⟨[], rfl, by omega, .inl rfl⟩
  · simp [Value.cells] at hcs
    obtain ⟨rfl, rfl, rfl⟩ := hcs
    have hzl : zs.length = cap := by simpa using hz
    unfold maxLen at hm
    by_cases h0 : len = 0
    · subst h0
      exact ⟨[], rfl, by omega, .inl rfl⟩
    · have c0 := hcell 0 (by omega)
      have hx : x = ⟨x.block, x.off, none⟩ := spot_none (w := W) (a := x) (by simpa [Addr.add] using c0)
      refine ⟨zs.take len, by simp; omega, by omega, .inr ⟨x.block, x.off, by rw [← hx], ?_, ?_, ?_⟩⟩
      · exact World.block_lt_of_cell? W x (by simpa [Addr.add] using c0)
      · exact World.block_lt_of_cell? W x (by simpa [Addr.add] using c0)
      · intro j hj
        have hj' : j < len := by simp at hj; omega
        have hg : (zs.take len).getD j 0 = zs.getD j 0 := by simp [List.getD_eq_getElem?_getD, hj']
        have hc := hcell j (by omega)
        rw [hx, Addr.add_mid] at hc
        rw [hg]
        have hb := bounds_i64 (hwz (zs.getD j 0) (by rw [List.getD_eq_getElem?_getD, List.getElem?_eq_getElem (by omega)]; exact List.getElem_mem _))
        exact ⟨hc, hb.1, hb.2⟩

end Go.Proofs.Ytaflibnalhfenaa
