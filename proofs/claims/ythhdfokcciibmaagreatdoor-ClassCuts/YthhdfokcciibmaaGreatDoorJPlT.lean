/- SameEntries. -/
import Derived.Test.YthhdfokcciibmaaGreatDoorJB

namespace Go.Proofs.YthhdfokcciibmaaGreatDoor
open Go.RowKit
set_option linter.unusedVariables false

set_option maxHeartbeats 1600000 in
theorem SameEntries_same (w : World) (a b : Option Addr) (n c d : Nat) (x : List Ent) (hA : Es w a n x) (hB : Es w b n x) (hs : n ≤ 140737488351232) :
    Calls Tryz.prog 32 #[.slice a n c, .slice b n d] w fun e w' => e = .returned (.bool true) ∧ Below w.heap.size w w' := by
  have hln := hA.1
  have HA := hide hA
  have HB := hide hB
  clear hA hB
  go_enter Tryz.func32, Tryz.ntmps32
  go_wp2
  go_loopw [5] (fun i wr => ∃ k : Nat, k ≤ n ∧ i = .int .i64 k ∧ Below w.heap.size w wr) (fun i _ => n - (intOf i).toNat)
  case atStart => exact ⟨0, by omega, rfl, Below.refl _ _⟩
  case round =>
    obtain ⟨k, hk, rfl, hR⟩ := hrel
    by_cases hlt : k < n
    · have hlt1 : (k : Int) < (n : Int) := by omega
      obtain ⟨b1, o1, rfl, h1⟩ := (unhide HA).2.resolve_left (by omega)
      obtain ⟨b2, o2, rfl, h2⟩ := (unhide HB).2.resolve_left (by omega)
      obtain ⟨r, hr⟩ : ∃ r, x[k]? = some r := ⟨_, List.getElem?_eq_getElem (by omega)⟩
      obtain ⟨c0, c1, c2, c3, c4⟩ := ents_get (h1.below hR) hr
      obtain ⟨d0, d1, d2, d3, d4⟩ := ents_get (h2.below hR) hr
      generalize r.tag = tg at *
      generalize r.n = rn at *
      generalize r.a = ra at *
      generalize r.b = rb at *
      generalize (⟨r.text.toArray⟩ : ByteArray) = st at *
      have HR := hide hR
      clear h1 h2 hr hR
      go_wp2
      go_quiet (fail)
      go_wp2
      go_roundw
      case rel => exact ⟨k + 1, by omega, by go_num, below_drewN (unhide HR) _⟩
      case measure => simp [intOf]; omega
    · obtain rfl : k = n := by omega
      have HR := hide hR
      clear hR
      go_wp2
      go_ret
      exact ⟨rfl, unhide HR⟩

end Go.Proofs.YthhdfokcciibmaaGreatDoor
