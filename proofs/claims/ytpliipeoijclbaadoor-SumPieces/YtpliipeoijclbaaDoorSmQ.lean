/- What the walks of the laws ask of the program's sums, whatever its inner functions are. -/
import Derived.Test.YtpliipeoijclbaaDoorSmU
import Derived.Test.YtpliipeoijclbaaDoorSmO
namespace Go.Proofs.YtpliipeoijclbaaDoor
open Go.RowKit
set_option linter.unusedVariables false

/-- The contracts of On, Of, Turned, Seal and Right; T: what of memory the program's tables need. -/
structure Sums (T : World → Prop) : Prop where
  below : ∀ (w w' : World), T w → Below w.heap.size w w' → T w'
  on : ∀ (w : World) (c : Nat) (a : Option Addr) (n cap : Nat) (l : List UInt8), T w → c < W32 → n ≤ 140737488351232 → Bs w a n l →
    Calls Tryd.prog 10 #[.int .u32 (c : Int), .slice a n cap] w fun e w' => e = .returned (.int .u32 (onS c l : Int)) ∧ Below w.heap.size w w'
  parts : ∀ (w : World) (b o n cap : Nat) (ls : List (List UInt8)), T w → ls.length = n → n ≤ 1000000 → PartsAt w b o ls →
    Calls Tryd.prog 12 #[.slice (some ⟨b, o, none⟩) n cap] w fun e w' => e = .returned (.int .u32 (onS 0 ls.flatten : Int)) ∧ Below w.heap.size w w'
  nil : ∀ (w : World) (a : Option Addr) (cap : Nat), T w → Calls Tryd.prog 12 #[.slice a 0 cap] w fun e w' => e = .returned (.int .u32 0) ∧ Below w.heap.size w w'
  turned_bad : ∀ (w : World) (c : Nat) (size at_ bit : Int), T w → ¬ turnOk size at_ bit →
    Calls Tryd.prog 16 #[.int .u32 (c : Int), .int .i64 size, .int .i64 at_, .int .i64 bit] w fun e w' => e = .returned (.tuple #[.int .u32 0, .int .i64 2]) ∧ Below w.heap.size w w'
  turned_ok : ∀ (w : World) (c s t q k : Nat), T w → c < W32 → s ≤ 65536 → s = t + q → 1 ≤ q → k ≤ 7 →
    Calls Tryd.prog 16 #[.int .u32 (c : Int), .int .i64 (s : Int), .int .i64 (t : Int), .int .i64 (k : Int)] w fun e w' => e = .returned (.tuple #[.int .u32 ((c ^^^ turnV (q - 1) k : Nat) : Int), .int .i64 0]) ∧ Below w.heap.size w w'
  sealed : ∀ (w : World) (a : Option Addr) (n cap : Nat) (l : List UInt8), T w → n ≤ 1000000 → (a = none → n = 0 ∧ cap = 0) → Bs w a n l →
    Calls Tryd.prog 19 #[.slice a n cap] w fun e w' => ∃ v, e = .returned v ∧ w'.ownsRow w.heap.size 5 1 v (n + 4) (bv (sealL l)) ∧ Below w.heap.size w w'
  judged : ∀ (w : World) (a : Option Addr) (n cap : Nat) (l : List UInt8), T w → n ≤ cap → cap ≤ 9223372036854775807 → n ≤ 1000000 → Bs w a n l →
    Calls Tryd.prog 21 #[.slice a n cap] w fun e w' => e = .returned (.bool (rightL l)) ∧ Below w.heap.size w w'

end Go.Proofs.YtpliipeoijclbaaDoor
