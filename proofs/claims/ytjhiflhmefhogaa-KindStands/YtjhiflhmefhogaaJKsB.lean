/- The landed kind: finder and what it answers; upwards; the classes of a law. -/
import Derived.Test.YtjhiflhmefhogaaJKsA
import Derived.Test.YtjhiflhmefhogaaJTxA

namespace Go.Proofs.Ytjhiflhmefhogaa
open Go.RowKit
set_option linter.unusedVariables false
set_option maxRecDepth 100000

set_option maxHeartbeats 800000 in
theorem yfinder_any (w : World) (a : Option Addr) (n c : Nat) (hn : n ≤ 64) :
    Calls Try.prog 50 #[.slice a n c] w fun e w' => e = .returned (.func (.func 55) #[] #[.pointer (some ⟨w.heap.size, 0, none⟩)]) ∧ w' = w.alloc (.cells #[.slice a n c] 40) := by
  have h1 : (n : Int) ≤ 64 := by omega
  go_enter Try.func50, Try.ntmps50
  go_wp2
  go_ret
  exact ⟨rfl, rfl⟩
set_option maxHeartbeats 800000 in
theorem yfinder1_any (w : World) (B : Nat) (a : Option Addr) (n c : Nat) (hB : w.cell? ⟨B, 0, none⟩ = some (.slice a n c)) (l : List Nc) (h : Ls 5 ncc w a n l) (hn : n ≤ 100000) (N : ByteArray) (nm : List UInt8) (hN : Str N nm) :
    Calls Try.prog 55 #[.string N, .pointer (some ⟨B, 0, none⟩)] w fun e w' => e = .returned (.int .i64 (fstI l nm)) ∧ Below w.heap.size w w' := by
  have HF := hide (yfirstOf_any w a n c l h hn N nm hN)
  clear h hN
  go_enter Try.func55, Try.ntmps55
  go_wp2_with fail
  refine (unhide HF).mono ?_
  rintro e w1 ⟨rfl, f1⟩
  have F1 := hide f1
  clear f1
  go_wp2
  go_ret
  exact ⟨rfl, unhide F1⟩
set_option maxHeartbeats 800000 in
theorem yupwards_any (w : World) (a : Option Addr) (n c : Nat) (N : ByteArray) :
    Calls Try.prog 43 #[.slice a n c, .string N] w fun e w' => e = .returned (.func (.func 49) #[] #[.pointer (some ⟨w.heap.size, 0, none⟩), .pointer (some ⟨w.heap.size + 1, 0, none⟩)]) ∧ w' = (w.alloc (.cells #[.slice a n c] 40)).alloc (.cells #[.string N] 9) := by
  go_enter Try.func43, Try.ntmps43
  go_wp2
  go_ret
  exact ⟨rfl, rfl⟩
theorem stepN_append {w : World} {ops : Array Oper} {o : Oper} {a : Act} {K : Act → World → Prop} {Q : Exit → Act → World → Prop} {E : Prop} (hgd : o.guard = none) (s x : Operand) (ho : o.op = .call { callee := .builtin .append, args := #[s, x], argTypes := #[40, 40] })
    (base : Nat) (v : Value) (xs : List Nc) (hs : a.eval s = v) (hown : Orw ncc 52 5 w base v xs) (src : Option Addr) (m c : Nat) (ys : List Nc) (hx : a.eval x = .slice src m c) (hb : Ls 5 ncc w src m ys) (hnil : src = none → m = 0 ∧ c = 0)
    (hsm : (xs.length + m) * 104 ≤ 140737488355328) (hmx : xs.length + m ≤ 140737488355328) (hbase : base ≤ w.heap.size) (h : ∀ v' w', Orw ncc 52 5 w' base v' (xs ++ ys) → w.grownBy w' v.ownBlock → K (a.put o.dst v') w') :
    if Region.wanted o (yielded ops a.tmps) = true then Oper.wp Try.prog o a w K Q else E := by
  rw [if_pos (by simp [Region.wanted, hgd])]
  exact wpR_append rkN s x ho base v xs hs hown src m c ys hx hb hnil hsm hmx hbase h
theorem orw_drew {α : Type} {cs : α → List Value} {e : TypeId} {sz : Nat} {w : World} {base : Nat} {v : Value} {l : List α} (h : Orw cs e sz w base v l) : Orw cs e sz w.drew base v l := h.below fun _ _ => rfl
theorem orw_alloc {α : Type} {cs : α → List Value} {e : TypeId} {sz : Nat} {w : World} {base : Nat} {v : Value} {l : List α} (h : Orw cs e sz w base v l) (o : Obj) : Orw cs e sz (w.alloc o) base v l := h.below fun k hk => ((Below.refl _ _).alloc (Nat.le_refl _) _).block k (h.lt k hk).2
theorem ls_drew {α : Type} {cs : α → List Value} {sz : Nat} {w : World} {a : Option Addr} {n : Nat} {l : List α} (h : Ls sz cs w a n l) : Ls sz cs w.drew a n l := h.below (Below.refl _ _).drew
set_option maxHeartbeats 1600000 in
theorem classes10_any (w : World) (a : Option Addr) (n c : Nat) (l : List Nc) (h : Ls 2 nc2 w a n l) (hn : n ≤ 140737488351232) :
    Calls Try.prog 23 #[.slice a n c] w fun e w' => ∃ v, e = .returned v ∧ Orw ncc 52 5 w' w.heap.size v (l.take 40) ∧ Below w.heap.size w w' := by
  have hln := h.1
  have HL := hide h
  clear h
  go_enter Try.func23, Try.ntmps23
  go_wp2
  have O0 : Hid (Orw ncc 52 5 (w.alloc (.cells #[] 52)) w.heap.size (.slice (some ⟨w.heap.size, 0, none⟩) 0 0) ([] : List Nc)) := Orw.made _ _ _ _ _ (Nat.le_refl _)
  have F0 : Hid (Below w.heap.size w (w.alloc (.cells #[] 52))) := bA (Below.refl _ _) _
  generalize w.alloc (.cells #[] 52) = w0 at *
  go_loopw [3, 4] (fun v i wr => ∃ k : Nat, k ≤ n ∧ k ≤ 40 ∧ i = .int .i64 k ∧ Hid (Orw ncc 52 5 wr w.heap.size v (l.take k)) ∧ Hid (Below w.heap.size w wr)) (fun _ i _ => n - (intOf i).toNat)
  case atStart => exact ⟨0, by omega, by omega, rfl, O0, F0⟩
  case round =>
    obtain ⟨k, hk, hk40, rfl, HO, HF⟩ := hrel
    by_cases hlt : k < n
    case neg =>
      obtain rfl : k = n := by omega
      have he : l.take 40 = l.take k := by rw [List.take_of_length_le (by omega), List.take_of_length_le (by omega)]
      have HE := hide he
      clear he
      go_wp2
      go_ret
      exact ⟨_, rfl, by rw [unhide HE]; exact unhide HO, unhide HF⟩
    have hlt1 : (k : Int) < (n : Int) := by omega
    by_cases h40 : k < 40
    case neg =>
      obtain rfl : k = 40 := by omega
      go_wp2
      go_ret
      exact ⟨_, rfl, unhide HO, unhide HF⟩
    have h40' : (k : Int) < 40 := by omega
    obtain ⟨b1, o1, h1a, h1⟩ := Ls.row (unhide HL) (w' := w) (by omega)
    subst h1a
    obtain ⟨r, hr⟩ : ∃ r, l[k]? = some r := ⟨_, List.getElem?_eq_getElem (by omega)⟩
    have HRow : Hid (∀ W, Below w.heap.size w W → W.cell? ⟨b1, o1 + k * 2, none⟩ = some (.string ⟨r.name.toArray⟩) ∧ W.cell? ⟨b1, o1 + k * 2 + 1, none⟩ = some (.string ⟨r.sup.toArray⟩)) := fun W f => ⟨(h1 f k r hr).zero, (h1 f k r hr) 1 _ rfl⟩
    have hst : l.take (k + 1) = l.take k ++ [r] := by
      rw [List.take_succ_eq_append_getElem (by omega), (List.getElem?_eq_some_iff.1 hr).2]
    have HST := hide hst
    have hlk : (l.take k).length = k := by rw [List.length_take]; omega
    have HLK := hide hlk
    have hlen2 : ((l.take k).length + 1) * 104 ≤ 140737488355328 := by omega
    have hlen3 : (l.take k).length + 1 ≤ 140737488355328 := by omega
    have HL2 := hide hlen2
    have HL3 := hide hlen3
    obtain ⟨e0, e1⟩ := unhide HRow wr (unhide HF)
    clear hst hr h1 hlk hlen2 hlen3
    go_wp2
    go_region_held_law (fun W => W.cell? ⟨b1, o1 + k * 2, none⟩ = some (.string ⟨r.name.toArray⟩) ∧ W.cell? ⟨b1, o1 + k * 2 + 1, none⟩ = some (.string ⟨r.sup.toArray⟩)) (go_keep)
      (first | (refine stepN_append rfl (.tmp 16) (.tmp 28) rfl w.heap.size u3 (l.take k) (by rfl) (by repeat (first | exact unhide HO | refine orw_drew ?_ | refine orw_alloc ?_ _)) (some ⟨wr.heap.size, 0, none⟩) 1 1 [r] (by rfl) (by first | exact ls_one (cs := ncc) (sz := 5) _ _ _ r rfl | exact ls_drew (ls_one (cs := ncc) (sz := 5) _ _ _ r rfl)) (fun e => by cases e) (unhide HL2) (unhide HL3) (by first | exact (unhide HF).size | exact Nat.le_trans (unhide HF).size (by simp)) ?_; intro v7 w7 o7 g7; have F7 : Hid (Below w.heap.size w w7) := (by repeat (first | exact unhide HF | refine Below.drew ?_ | refine bA ?_ _) : Below w.heap.size w _).grown g7 (by first | exact (unhide HF).size | exact Nat.le_trans (unhide HF).size (by simp)) (fun k hk => ((unhide HO).lt k hk).1); have r0 := (unhide HRow w7 (unhide F7)).1; have r1 := (unhide HRow w7 (unhide F7)).2; have O7 := hide o7; clear o7 g7))
    all_goals
      have HO7 : Hid (Orw ncc 52 5 w7 w.heap.size v7 (l.take (k + 1))) := by rw [unhide HST]; exact unhide O7
      clear r0 r1
      go_wp2
      go_roundw
      case rel => exact ⟨k + 1, by omega, by omega, by go_num, HO7, F7⟩
      case measure => simp [intOf]; omega
end Go.Proofs.Ytjhiflhmefhogaa
