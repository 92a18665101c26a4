/- Kept numbers that came in within something else. -/
import Derived.Test.YtaflibnalhfenaaArA
import Derived.Test.YtaflibnalhfenaaDkR
namespace Go.Proofs.Ytaflibnalhfenaa
open Go.ChangeShapes Go.WideShapes Go.ChangeAt Go.RowKit
set_option linter.unusedVariables false

theorem bytes_eight : Try.prog.bytesOf 3 = 8 := by kernel_rfl
theorem cellsBo : Try.prog.cellsOf 4 = 1 := by kernel_rfl
theorem cellsSl : Try.prog.cellsOf 33 = 1 := by kernel_rfl
theorem take_one_any {l : List Value} {j : Nat} (hj : j < l.length) : ∃ v, (l.drop j).take 1 = [v] ∧ l[j]? = some v := by
  refine ⟨l[j], ?_, List.getElem?_eq_getElem hj⟩
  rw [List.drop_eq_getElem_cons hj]
  rfl
/-- The kept numbers of an act. -/
theorem kept_open {H : Type} {enc : TypeId × Value → H} {W : World} {base : Nat} {fuel : Nat} {cs : List Value} {x : DataW H × List MemPlace}
    (h : DataW.trod enc Try.prog W base (fun _ => true) true fuel 33 cs = some x) :
    ∃ (a : Option Addr) (cap : Nat) (kept : List Int), cs = [.slice a kept.length cap] ∧ KeptOf W W.heap.size a kept ∧ (a = none → cap = 0) ∧ (kept.length = 0 ∨ ∃ es ss, x.1 = .slice es ss ∧ kept.length ≤ es.length + ss.length) := by
  rcases open_ints Try.underlying33 Try.underlying3 (by kernel_rfl) h with ⟨hcs, _⟩ | ⟨ad, len, cap, zs, hcs, _, hl, hm, hz, hd, hcell, hwz⟩
  · exact ⟨none, 0, [], hcs, .inl rfl, fun _ => rfl, .inl rfl⟩
  · have hzl : zs.length = cap := by simpa using hz
    by_cases h0 : len = 0
    · subst h0
      exact ⟨some ad, cap, [], hcs, .inl rfl, (fun e => by cases e), .inl rfl⟩
    · have c0 := hcell 0 (by omega)
      have hx : ad = ⟨ad.block, ad.off, none⟩ := spot_none (w := W) (a := ad) (by simpa [Addr.add] using c0)
      have hkl : (zs.take len).length = len := by simp; omega
      refine ⟨some ad, cap, zs.take len, by rw [hkl]; exact hcs, .inr ⟨ad.block, ad.off, by rw [← hx], ?_, ?_, ?_⟩, (fun e => by cases e), .inr ⟨_, _, by rw [hd], by rw [hkl]; simp [lits]; omega⟩⟩
      · exact World.block_lt_of_cell? W ad (by simpa [Addr.add] using c0)
      · exact World.block_lt_of_cell? W ad (by simpa [Addr.add] using c0)
      · intro j hj
        have hj' : j < len := by omega
        have hg : (zs.take len).getD j 0 = zs.getD j 0 := by simp [List.getD_eq_getElem?_getD, hj']
        have hc := hcell j (by omega)
        rw [hx, Addr.add_mid] at hc
        rw [hg]
        have hb := bounds_i64 (hwz (zs.getD j 0) (by rw [List.getD_eq_getElem?_getD, List.getElem?_eq_getElem (by omega)]; exact List.getElem_mem _))
        exact ⟨hc, hb.1, hb.2⟩

end Go.Proofs.Ytaflibnalhfenaa
