/- The landed code: a list of cases cloned. -/
import Derived.Test.YthenefjoidckkaaGreatDoorJL2
import Derived.Test.YthenefjoidckkaaGreatDoorJG1
import Derived.Test.YthenefjoidckkaaGreatDoorJD

namespace Go.Proofs.YthenefjoidckkaaGreatDoor
open Go.RowKit
set_option linter.unusedVariables false
set_option maxRecDepth 100000

def cac (c : Cas) : List Value := [.int .i64 c.key, .int .i64 c.to_]
theorem rkC : Rk cac 99 55 2 16 (.agg #[.int .i64 0, .int .i64 0]) := ⟨fun _ => rfl, fun x u hu => by simp [cac] at hu; rcases hu with rfl | rfl <;> rfl, by decide, by kernel_rfl, rfl, Tryz.underlying55⟩
set_option maxHeartbeats 800000 in
theorem slCloneC_any (w : World) (s : Sl) (l : List Cas) (hL : Ls 2 cac w s.a s.n l) (hnil : s.a = none → s.n = 0 ∧ s.c = 0) (hsm : s.n * 16 ≤ 140737488351232) :
    Calls Tryz.prog 49 #[s.v] w fun e w' => ∃ v, e = .returned v ∧ Orw cac 99 2 w' w.heap.size v l ∧ Below w.heap.size w w' := by
  obtain ⟨a, n, c⟩ := s
  have q : ∀ (w : World) (a : Option Addr) (n c n' c' : Nat), (binOp .eql 55 (.slice a n c) (.slice none n' c')).run Tryz.prog w = .ok (.bool a.isNone) w := fun w a n c n' c' => Lib.run_eql_slice_nil w _ _ a n c n' c' Tryz.underlying55
  unfold Sl.v
  simp only at hL hnil hsm ⊢
  cases a with
  | none =>
    obtain ⟨rfl, rfl⟩ := hnil rfl
    have hl0 : l = [] := List.eq_nil_of_length_eq_zero hL.1
    subst hl0
    clear hL hnil
    go_enter Tryz.func49, Tryz.ntmps49
    go_wp2
    go_ret
    exact ⟨_, rfl, Orw.nil _ _ _ _ _, Below.refl _ _⟩
  | some ad =>
    have hown : Orw cac 99 2 (w.alloc (.cells #[] 99)) w.heap.size (.slice (some ⟨w.heap.size, 0, none⟩) 0 0) [] := Orw.made _ _ _ w _ (Nat.le_refl _)
    have HB := hide (hL.below ((Below.refl _ _).alloc (Nat.le_refl _) (.cells #[] 99)))
    have HO0 := hide hown
    have hsm1 : ([] : List Cas).length + n ≤ 140737488355328 := by simp; omega
    have hsm2 : (([] : List Cas).length + n) * 16 ≤ 140737488355328 := by simp; omega
    have HS1 := hide hsm1
    have HS2 := hide hsm2
    clear hL hown hsm1 hsm2 hnil
    go_enter Tryz.func49, Tryz.ntmps49
    go_wp2_with (at_builtin; refine listR_append rkC rfl _ _ rfl w.heap.size _ [] rfl (unhide HO0) (some ad) n c l rfl (unhide HB) (fun e => by cases e) (unhide HS2) (unhide HS1) (by simp) ?_)
    intro v' w1 o1 g1
    try rw [List.nil_append] at o1
    have hb1 : Below w.heap.size w w1 := grown_below ((Below.refl _ _).alloc (Nat.le_refl _) _) (unhide HO0) g1
    obtain ⟨a1, c1, rfl, _⟩ := o1.form
    have HO := hide o1
    have HB1 := hide hb1
    clear o1 g1 hb1
    go_wp2
    go_ret
    exact ⟨_, rfl, unhide HO, unhide HB1⟩

end Go.Proofs.YthenefjoidckkaaGreatDoor
