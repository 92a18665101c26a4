/- What the walks of stage 8's laws ask of the program's class, call by call, where its table is as its text lays it; works8; the walk of ClassFinds. -/
import Derived.Test.YthhdfokcciibmaaGreatDoorJCkG
import Derived.Test.YthhdfokcciibmaaGreatDoorJClFi

namespace Go.Proofs.YthhdfokcciibmaaGreatDoor
open Go.RowKit
set_option linter.unusedVariables false
set_option maxRecDepth 100000

def CheckOk : Prop := ∀ (w : World) (r : ClR), Tab8 w → CIn w r → Calls Tryz.prog 12 #[r.v] w fun e w' => e = .returned (.int .i64 (errK r.c)) ∧ Below w.heap.size w w'
def PrintOk : Prop := ∀ (w : World) (r : ClR), Tab8 w → CIn w r → Calls Tryz.prog 9 #[r.v] w fun e w' => (∃ v, e = .returned (.tuple #[v, .int .i64 (errK r.c)]) ∧ w'.ownsRow w.heap.size 5 1 v (printK r.c).length (bv (printK r.c))) ∧ Below w.heap.size w w'
def ParseOk : Prop := ∀ (w : World) (a : Option Addr) (n c : Nat) (bs : List UInt8), Tab8 w → Arg w a n c bs → n ≤ 140737488351232 → Calls Tryz.prog 16 #[.slice a n c] w fun e w' => (∃ r : ClR, e = .returned (.tuple #[r.v, .int .i64 (parseK bs).2]) ∧ r.c = (parseK bs).1 ∧ CIn w' r) ∧ Below w.heap.size w w'
set_option maxHeartbeats 3200000 in
theorem works8_tab (P : PrintOk) (w : World) (hT : Tab8 w) :
    Calls Tryz.prog 14 #[] w fun e w' => e = .returned (.bool true) ∧ Below w.heap.size w w' := by
  have HS := hide (small8_any w)
  go_enter Tryz.func14, Tryz.ntmps14
  go_wp2_with fail
  refine (unhide HS).mono ?_
  rintro e w1 ⟨⟨r, rfl, hrc, hin⟩, f1⟩
  have HP := P w1 r (hT.below f1) hin
  rw [hrc, errEx, printEx] at HP
  have HP1 := hide HP
  have F1 := hide f1
  clear HP f1 hin hrc HS
  go_wp2_with fail
  refine (unhide HP1).mono ?_
  rintro e w2 ⟨⟨v, rfl, o2⟩, f2⟩
  have F2 := hide ((unhide F1).trans (f2.mono (unhide F1).size))
  obtain ⟨a2, c2, rfl, _⟩ := own_form o2
  have hcv : (convert 29 9 (.slice a2 bytesEx.length c2)).run Tryz.prog w2 = .ok (.string ⟨bytesEx.toArray⟩) w2 := conv_bytes w2 a2 bytesEx c2 (own_bytes o2)
  have hcv : (convert 29 9 (.slice a2 31 c2)).run Tryz.prog w2 = .ok (.string ⟨#[202, 254, 186, 190, 0, 0, 0, 52, 0, 3, 1, 0, 1, 97, 7, 0, 1, 0, 33, 0, 2, 0, 0, 0, 0, 0, 0, 0, 0, 0, 0]⟩) w2 := hcv
  have hL : bytesEx.length = 31 := rfl
  rw [hL]
  clear f2 F1 HP1 o2
  go_wp2
  go_ret
  exact ⟨rfl, unhide F2⟩


end Go.Proofs.YthhdfokcciibmaaGreatDoor
