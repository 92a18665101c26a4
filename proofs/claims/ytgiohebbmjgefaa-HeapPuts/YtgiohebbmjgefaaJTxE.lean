/- TxD's law, for a list of operations whose last one is told by its number. -/
import Derived.Test.YtgiohebbmjgefaaJTxD

namespace Go.Proofs.Ytgiohebbmjgefaa
open Go.RowKit
set_option linter.unusedVariables false

section
variable {P : Program} {Q : Exit → Act → World → Prop}
theorem take_snoc {l : List Oper} {n : Nat} {o : Oper} (hn : l.length = n + 1) (ho : l[n]? = some o) : l.take n ++ [o] = l := by
  have h1 : n < l.length := by omega
  have h2 : l[n] = o := by rw [List.getElem?_eq_getElem h1] at ho; injection ho
  rw [← h2, List.take_append_getElem h1, List.take_of_length_le (by omega)]
theorem wp_region_txtn {id : Nat} {l : List Oper} {a : Act} {w : World} (I : World → Prop) (acts π : List Nat) (n : Nat) (hn : l.length = n + 1) (hm : P.follows .mixedOrders = true) (hok : (splitOk l.toArray n && txtOk (l.take n).toArray (fun i => acts.contains i) π) = true) (hI : I w.drew)
    (h : Txt P (l.take n).toArray (thenLast P l.toArray n Q) I (fun i => acts.contains i) π a w.drew) : (Code.region id l.toArray true).wp P Q a w := by
  have h1 : n < l.length := by omega
  have e := take_snoc hn (List.getElem?_eq_getElem h1)
  have e2 : (l.take n).length = n := by rw [List.length_take]; omega
  have := wp_region_txtl (P := P) (Q := Q) (id := id) (pre := l.take n) (o := l[n]) (a := a) (w := w) I acts π hm (by rw [e, e2]; exact hok) hI (by rw [e, e2]; exact h)
  rwa [e] at this
theorem thenLast_n {l : List Oper} {n : Nat} {o : Oper} {a : Act} {w : World} (hn : l.length = n + 1) (ho : l[n]? = some o) (hw : Region.wanted o (yielded l.toArray a.tmps) = true)
    (h : ∀ K : Act → World → Prop, Shut (∀ a' w', Q .normal a' w' → K a' w') → Oper.wp P o a w K Q) : thenLast P l.toArray n Q .normal a w := by
  have e := take_snoc hn ho
  have e2 : (l.take n).length = n := by rw [List.length_take]; omega
  have := thenLast_does (P := P) (Q := Q) (pre := l.take n) (o := o) (a := a) (w := w) (by rw [e]; exact hw) h
  rwa [e, e2] at this
end
end Go.Proofs.Ytgiohebbmjgefaa
