/- Joined: PlT ClD. -/
import Derived.Test.YthenefjoidckkaaGreatDoorJB
import Derived.Test.YthenefjoidckkaaGreatDoorJL1

/- SameEntries. -/
namespace Go.Proofs.YthenefjoidckkaaGreatDoor
open Go.RowKit
set_option linter.unusedVariables false

end Go.Proofs.YthenefjoidckkaaGreatDoor

/- Classes held against one another: SameFields, SameHandlers, SameTypes, SameMaps. -/
namespace Go.Proofs.YthenefjoidckkaaGreatDoor
open Go.RowKit
set_option linter.unusedVariables false

/-- The cells of record k. -/
def RowAt (w : World) (b o : Nat) (vs : List Value) : Prop := ∀ (q : Nat) (u : Value), vs[q]? = some u → w.cell? ⟨b, o + q, none⟩ = some u
theorem RowAt.zero {w : World} {b o : Nat} {v : Value} {vs : List Value} (h : RowAt w b o (v :: vs)) : w.cell? ⟨b, o, none⟩ = some v := h 0 v rfl
theorem Ls.row {α : Type} {sz : Nat} {cs : α → List Value} {w w' : World} {a : Option Addr} {n : Nat} {l : List α} (h : Ls sz cs w a n l) (hn : n ≠ 0) : ∃ b o, a = some ⟨b, o, none⟩ ∧ ∀ {w' : World}, Below w.heap.size w w' → ∀ (k : Nat) (x : α), l[k]? = some x → RowAt w' b (o + k * sz) (cs x) := by
  rcases h.2 with h0 | ⟨b, o, e, hb, hc⟩
  · exact absurd h0 hn
  · exact ⟨b, o, e, fun f k x hx q u hu => (f.cell hb).trans (hc k x hx q u hu)⟩

set_option maxHeartbeats 1600000 in
theorem SameTypes_same (w : World) (s t : Sl) (l : List Ty) (hA : LIn 2 24 tyc TyFit w s l) (hB : LIn 2 24 tyc TyFit w t l) :
    Calls Tryz.prog 29 #[s.v, t.v] w fun e w' => e = .returned (.bool true) ∧ Below w.heap.size w w' := by
  obtain ⟨a, n, c⟩ := s
  obtain ⟨b, m, d⟩ := t
  have hs := hA.small
  have hln := hA.ls.1
  have hlm := hB.ls.1
  simp only at hln hlm hs
  obtain rfl : n = m := by omega
  have hs1 : n ≤ 140737488351232 := by omega
  unfold Sl.v
  simp only
  have HA := hide hA.ls
  have HB := hide hB.ls
  clear hA hB hs
  go_enter Tryz.func29, Tryz.ntmps29
  go_wp2
  go_loopw [5] (fun i wr => ∃ k : Nat, k ≤ n ∧ i = .int .i64 k ∧ Below w.heap.size w wr) (fun i _ => n - (intOf i).toNat)
  case atStart => exact ⟨0, by omega, rfl, Below.refl _ _⟩
  case round =>
    obtain ⟨k, hk, rfl, hR⟩ := hrel
    by_cases hlt : k < n
    · have hlt1 : (k : Int) < (n : Int) := by omega
      obtain ⟨b1, o1, h1a, h1⟩ := Ls.row (unhide HA) (w' := w) (by show n ≠ 0; omega)
      obtain ⟨b2, o2, h2a, h2⟩ := Ls.row (unhide HB) (w' := w) (by show n ≠ 0; omega)
      subst h1a h2a
      obtain ⟨r, hr⟩ : ∃ r, l[k]? = some r := ⟨_, List.getElem?_eq_getElem (by omega)⟩
      have q1 := h1 hR k r hr
      have q2 := h2 hR k r hr
      have c0 := q1.zero
      have c1 := q1 1 _ rfl
      have d0 := q2.zero
      have d1 := q2 1 _ rfl
      clear q1 q2
      generalize r.kind = ra at *
      generalize (⟨r.name.toArray⟩ : ByteArray) = s1 at *
      have HR := hide hR
      clear h1 h2 hr hR
      go_wp2
      go_quiet (fail)
      go_wp2
      go_roundw
      case rel => exact ⟨k + 1, by omega, by go_num, below_drewN (unhide HR) _⟩
      case measure => simp [intOf]; omega
    · obtain rfl : k = n := by omega
      have HR := hide hR
      clear hR
      go_wp2
      go_ret
      exact ⟨rfl, unhide HR⟩
end Go.Proofs.YthenefjoidckkaaGreatDoor
