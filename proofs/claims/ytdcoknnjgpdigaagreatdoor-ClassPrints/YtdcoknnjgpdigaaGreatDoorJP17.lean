/- Joined: PkG PkH PkI PkJ. -/
import Derived.Test.YtdcoknnjgpdigaaGreatDoorJP16
import Derived.Test.YtdcoknnjgpdigaaGreatDoorJP11
import Derived.Maps.OwnSet

/- The landed pool: canMean. -/
namespace Go.Proofs.YtdcoknnjgpdigaaGreatDoor
open Go.RowKit
set_option linter.unusedVariables false

end Go.Proofs.YtdcoknnjgpdigaaGreatDoor

/- The landed pool: a pool that grows, in memory; put. -/
namespace Go.Proofs.YtdcoknnjgpdigaaGreatDoor
open Go.RowKit
set_option linter.unusedVariables false

/-- A map of the first number of each text, of the first k entries. -/
structure TX (l : List Ent) (k : Nat) (D : DataW Unit) : Prop where
  no : ∀ s : List UInt8, Maps.has D (.string s) = false → ∀ j, j < k → l[j]? ≠ some (eUtf s)
  yes : ∀ s : List UInt8, Maps.has D (.string s) = true → ∃ j : Nat, D.atKey (.string s) (.lit (.int .i64 0)) = .lit (.int .i64 (j : Int)) ∧ j < k ∧ l[j]? = some (eUtf s) ∧ ∀ i, i < j → l[i]? ≠ some (eUtf s)
theorem eUtf_inj {s t : List UInt8} (h : eUtf s = eUtf t) : s = t := by
  injection h
theorem TX.start (l : List Ent) : TX l 0 (.map []) := ⟨fun s _ j hj => by omega, fun s h => by cases h⟩
theorem TX.skip {l : List Ent} {k : Nat} {D : DataW Unit} (h : TX l k D) (hk : ∀ s, l[k]? ≠ some (eUtf s)) : TX l (k + 1) D := by
  refine ⟨fun s hs j hj => ?_, fun s hs => ?_⟩
  · by_cases e : j = k
    · subst e; exact hk s
    · exact h.no s hs j (by omega)
  · obtain ⟨j, h1, h2, h3, h4⟩ := h.yes s hs
    exact ⟨j, h1, by omega, h3, h4⟩
theorem TX.there {l : List Ent} {k : Nat} {D : DataW Unit} {s0 : List UInt8} (h : TX l k D) (h0 : Maps.has D (.string s0) = true) (hk : l[k]? = some (eUtf s0)) : TX l (k + 1) D := by
  refine ⟨fun s hs j hj => ?_, fun s hs => ?_⟩
  · by_cases e : j = k
    · subst e
      rw [hk]
      intro e
      injection e with e
      rw [eUtf_inj e] at h0
      rw [h0] at hs
      cases hs
    · exact h.no s hs j (by omega)
  · obtain ⟨j, h1, h2, h3, h4⟩ := h.yes s hs
    exact ⟨j, h1, by omega, h3, h4⟩
theorem TX.new {l : List Ent} {k : Nat} {D : DataW Unit} {s0 : List UInt8} (h : TX l k D) (hm : Maps.IsMap D) (h0 : Maps.has D (.string s0) = false) (hk : l[k]? = some (eUtf s0)) : TX l (k + 1) (D.put (.string s0) (.lit (.int .i64 (k : Int)))) := by
  refine ⟨fun s hs j hj => ?_, fun s hs => ?_⟩
  · by_cases es : s = s0
    · subst es
      rw [Maps.has_put_same hm (k := .string s) True.intro] at hs
      cases hs
    · rw [Maps.has_put_other (fun e => es (by injection e))] at hs
      by_cases e : j = k
      · subst e
        rw [hk]
        intro e
        injection e with e
        exact es (eUtf_inj e).symm
      · exact h.no s hs j (by omega)
  · by_cases es : s = s0
    · subst es
      exact ⟨k, Maps.atKey_put_same hm (k := .string s) True.intro _ _, by omega, hk, fun i hi => h.no s h0 i hi⟩
    · rw [Maps.has_put_other (fun e => es (by injection e))] at hs
      obtain ⟨j, h1, h2, h3, h4⟩ := h.yes s hs
      exact ⟨j, by rw [Maps.atKey_put_other (fun e => es (by injection e))]; exact h1, by omega, h3, h4⟩
theorem TX.text {l : List Ent} {D : DataW Unit} {s0 : List UInt8} (h : TX l l.length D) (hm : Maps.IsMap D) (h0 : Maps.has D (.string s0) = false) : TX (l ++ [eUtf s0]) (l ++ [eUtf s0]).length (D.put (.string s0) (.lit (.int .i64 (l.length : Int)))) := by
  have h1 : TX (l ++ [eUtf s0]) l.length D := by
    refine ⟨fun s hs j hj => ?_, fun s hs => ?_⟩
    · rw [List.getElem?_append_left hj]
      exact h.no s hs j hj
    · obtain ⟨j, h1, h2, h3, h4⟩ := h.yes s hs
      refine ⟨j, h1, h2, by rw [List.getElem?_append_left h2]; exact h3, fun i hi => ?_⟩
      rw [List.getElem?_append_left (by omega)]
      exact h4 i hi
  have := h1.new hm h0 (by rw [List.getElem?_append_right (Nat.le_refl _), Nat.sub_self]; rfl)
  simpa using this

end Go.Proofs.YtdcoknnjgpdigaaGreatDoor

/- The landed pool: a pool that grows: text. -/
namespace Go.Proofs.YtdcoknnjgpdigaaGreatDoor
open Go.RowKit Go.Maps
set_option linter.unusedVariables false

end Go.Proofs.YtdcoknnjgpdigaaGreatDoor

/- The landed pool: a pool that grows: what stands between the steps of number. -/
namespace Go.Proofs.YtdcoknnjgpdigaaGreatDoor
open Go.RowKit Go.Maps
set_option linter.unusedVariables false

/-- What lies beside a growing pool while number runs. -/
structure Beside (w : World) (h4 B g m : Nat) (v : Value) (C X : Nat) : Prop where
  hB : B ≤ w.heap.size
  g : g < w.heap.size
  m : m < w.heap.size
  v : ∀ k, v.ownBlock = some k → k < w.heap.size
  c1 : w.heap.size ≤ C
  c2 : C < h4
  x1 : w.heap.size ≤ X
  x2 : X < h4
  ne : X ≠ C
end Go.Proofs.YtdcoknnjgpdigaaGreatDoor
