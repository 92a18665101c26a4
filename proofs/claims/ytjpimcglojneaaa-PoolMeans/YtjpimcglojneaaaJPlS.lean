/- The document's own pool: Text. -/
import Derived.Test.YtjpimcglojneaaaJPlQ

namespace Go.Proofs.Ytjpimcglojneaaa
open Go.RowKit
set_option linter.unusedVariables false

def EntsFit (l : List Ent) : Prop := (∀ x ∈ l, x.text.length ≤ 140737488355328) ∧ ∀ x ∈ l, EntFit x

set_option maxHeartbeats 1600000 in
theorem jText_any (w : World) (a : Option Addr) (n c : Nat) (l : List Ent) (h : Es w a n l) (i : Int) (hi : -9223372036854775808 ≤ i ∧ i ≤ 9223372036854775807) (hn : n ≤ 140737488351232) (hf : EntsFit l) :
    Calls Try.prog 26 #[.slice a n c, .int .i64 i] w fun e w' => e = .returned (.tuple #[.string ⟨(textP l i).1.toArray⟩, .int .i64 (textP l i).2]) ∧ Below w.heap.size w w' := by
  have HC := hide (jCheck_any w a n c l h hn hf.1 hf.2)
  by_cases hc : checkP l = true
  case neg =>
    have e1 : textP l i = ([], 70) := if_pos (by simpa using hc)
    rw [if_neg hc] at HC
    rw [e1]
    clear h e1 hc
    go_enter Try.func26, Try.ntmps26
    go_wp2_with fail
    refine (unhide HC).mono ?_
    rintro e w1 ⟨rfl, f1⟩
    have F1 := hide f1
    clear f1 HC
    go_wp2
    go_ret2
    exact ⟨rfl, unhide F1⟩
  rw [if_pos hc] at HC
  have HT : Hid (∀ W, Below w.heap.size w W → Calls Try.prog 40 #[.slice a n c, .int .i64 i] W fun e w' => e = .returned (.int .i64 (tagE l i)) ∧ w' = W) := fun W f => jtag_any W a n c l (h.below f) i hi hn
  by_cases ht : tagE l i = 1
  case neg =>
    have e1 : textP l i = ([], 2) := by
      unfold textP
      rw [if_neg (by rw [hc]; simp), if_pos ht]
    have ht' : (tagE l i == 1) = false := by simpa using ht
    have ht2 : (tagE l i != 1) = true := by simpa using ht
    rw [e1]
    generalize tagE l i = T at *
    clear h e1 hc ht
    go_enter Try.func26, Try.ntmps26
    go_wp2_with fail
    refine (unhide HC).mono ?_
    rintro e w1 ⟨rfl, f1⟩
    have F1 := hide f1
    have HT1 := hide (unhide HT w1 f1)
    clear f1 HC HT
    go_wp2_with fail
    refine (unhide HT1).mono ?_
    rintro e w2 ⟨rfl, e0⟩
    have e0' := e0.symm
    clear e0
    subst e0'
    clear HT1
    go_wp2
    go_ret2
    exact ⟨rfl, unhide F1⟩
  have e1 : textP l i = ((atE l i).text, 0) := by
    unfold textP
    rw [if_neg (by rw [hc]; simp), if_neg (by simpa using ht)]
  obtain ⟨k, rfl, hk, hx⟩ := atE_in (l := l) (i := i) (by have h2 : (atE l i).tag = 1 := ht; omega)
  obtain ⟨b, o, rfl, hE⟩ := h.2.resolve_left (by have := h.1; omega)
  have hkn : (k : Int) < (n : Int) := by have := h.1; omega
  have HE : Hid (∀ W, Below w.heap.size w W → W.cell? ⟨b, o + k * 5 + 1, none⟩ = some (.string ⟨(atE l (k : Int)).text.toArray⟩)) := fun W f => (ents_get (hE.below f) hx).2.1
  rw [e1]
  rw [ht] at HT
  generalize (atE l (k : Int)).text = tx at *
  clear h e1 hc ht hx hE hk
  show Calls _ _ _ _ fun e w' => e = .returned (.tuple #[.string ⟨tx.toArray⟩, .int .i64 0]) ∧ Below w.heap.size w w'
  generalize (⟨tx.toArray⟩ : ByteArray) = st at *
  go_enter Try.func26, Try.ntmps26
  go_wp2_with fail
  refine (unhide HC).mono ?_
  rintro e w1 ⟨rfl, f1⟩
  have F1 := hide f1
  have HT1 := hide (unhide HT w1 f1)
  have cc := unhide HE w1 f1
  clear f1 HC HT HE
  go_wp2_with fail
  refine (unhide HT1).mono ?_
  rintro e w2 ⟨rfl, e0⟩
  have e0' := e0.symm
  clear e0
  subst e0'
  clear HT1
  go_wp2
  go_ret2
  exact ⟨rfl, unhide F1⟩

end Go.Proofs.Ytjpimcglojneaaa
