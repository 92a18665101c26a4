/- The program's own sums: all contracts. -/
import Derived.Test.YtpliipeoijclbaaDoorSmPb
import Derived.Test.YtpliipeoijclbaaDoorSmP2
namespace Go.Proofs.YtpliipeoijclbaaDoor
open Go.RowKit
set_option linter.unusedVariables false

/-- The landed code keeps all contracts, where its table stands in memory. -/
theorem sums : Sums Tab where
  below := fun w w' h f => h.below f
  on := fun w c a n cap l hT hc hn h => sOn_any w c hc a n cap l hT hn h
  parts := fun w b o n cap ls hT hl hn h => sOf_at w b o n cap ls hT hl hn h
  nil := fun w a cap _ => sOf_nil w a cap
  turned_bad := fun w c size at_ bit _ h => sTurned_bad w c size at_ bit h
  turned_ok := fun w c s t q k hT hc hs hm hq hk => sTurned_ok w c hc s t q k hs hm hq hk hT
  sealed := fun w a n cap l hT hn ha h => sSeal_any w a n cap l hT hn ha h
  judged := fun w a n cap l hT hc hcap hn h => sRight_any w a n cap l hT hc hcap hn h

end Go.Proofs.YtpliipeoijclbaaDoor
