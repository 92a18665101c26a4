/- The contracts of the document's own frames: four, number. -/
import Derived.Test.YtnkmcndbbapeoaaDoorFrA
import Derived.Test.YtnkmcndbbapeoaaDoorSmS
namespace Go.Proofs.YtnkmcndbbapeoaaDoor
open Go.RowKit
set_option linter.unusedVariables false

set_option maxHeartbeats 400000 in
theorem zfour_any (w : World) (n : Nat) (hn : n < W32) :
    Calls Tryd.prog 28 #[.int .i64 (n : Int)] w fun e w' => e = .returned (.slice (some ⟨w.heap.size, 0, none⟩) 4 4) ∧ w' = w.alloc (.cells (bv (be4 n)).toArray 5) := by
  have hn' : n < 4294967296 := hn
  have hm : (n : Int) / 16777216 % 256 = (n : Int) / 16777216 := by omega
  rw [bv_be4 n, hm]
  clear hm
  go_enter Tryd.func28, Tryd.ntmps28
  go_wp2
  go_ret
  exact ⟨rfl, rfl⟩

set_option maxHeartbeats 800000 in
theorem znumber_at (w : World) (b o n cap : Nat) (l : List UInt8) (hn : l.length = n) (h4 : 4 ≤ n) (h : BytesAt w (some ⟨b, o, none⟩) l) :
    Calls Tryd.prog 32 #[.slice (some ⟨b, o, none⟩) n cap] w fun e w' => e = .returned (.int .i64 (num l : Int)) ∧ ∃ m, w' = w.drewN m := by
  obtain ⟨b0, h0⟩ : ∃ x, l[0]? = some x := ⟨_, List.getElem?_eq_getElem (by omega)⟩
  obtain ⟨b1, h1⟩ : ∃ x, l[1]? = some x := ⟨_, List.getElem?_eq_getElem (by omega)⟩
  obtain ⟨b2, h2⟩ : ∃ x, l[2]? = some x := ⟨_, List.getElem?_eq_getElem (by omega)⟩
  obtain ⟨b3, h3⟩ : ∃ x, l[3]? = some x := ⟨_, List.getElem?_eq_getElem (by omega)⟩
  have get : ∀ (i : Nat) (x : UInt8), l[i]? = some x → w.cell? ⟨b, o + i, none⟩ = some (.int .u8 (x.toNat : Int)) := fun i x hx => by
    have := h.2 _ rfl i (.int .u8 (x.toNat : Int)) (by simp [bv, hx])
    simpa [Addr.add_mid] using this
  have c0 := get 0 b0 h0
  rw [Nat.add_zero] at c0
  have c1 := get 1 b1 h1
  have c2 := get 2 b2 h2
  have c3 := get 3 b3 h3
  have hnum : (num l : Int) = (b0.toNat : Int) * 16777216 + (b1.toNat : Int) * 65536 + (b2.toNat : Int) * 256 + (b3.toNat : Int) := by
    unfold num
    simp only [List.getD_eq_getElem?_getD, h0, h1, h2, h3, Option.getD_some]
    omega
  rw [hnum]
  have l0 := b0.toNat_lt
  have l1 := b1.toNat_lt
  have l2 := b2.toNat_lt
  have l3 := b3.toNat_lt
  have g0 : (0 : Int) < (n : Int) := by omega
  have g1 : (1 : Int) < (n : Int) := by omega
  have g2 : (2 : Int) < (n : Int) := by omega
  have g3 : (3 : Int) < (n : Int) := by omega
  clear h get h0 h1 h2 h3 hnum
  go_enter Tryd.func32, Tryd.ntmps32
  go_wp2
  go_quiet (fail)
  go_wp2
  go_ret
  exact ⟨rfl, _, rfl⟩

end Go.Proofs.YtnkmcndbbapeoaaDoor
