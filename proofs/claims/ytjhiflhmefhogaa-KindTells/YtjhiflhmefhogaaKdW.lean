/- The walk of KindTells. -/
import Derived.Test.YtjhiflhmefhogaaKdU
namespace Go.Proofs.Ytjhiflhmefhogaa
open Go.RowKit
set_option linter.unusedVariables false
set_option maxRecDepth 100000

theorem listR_append_wanted {α : Type} {cs : α → List Value} {e t : TypeId} {sz by_ : Nat} {z : Value} (R : Rk cs e t sz by_ z) {w : World} {ops : Array Oper} {rest : List Oper} {o : Oper} {a : Act} {Q : Exit → Act → World → Prop} (hw : Region.wanted o (yielded ops a.tmps) = true) (s x : Operand) (ho : o.op = .call { callee := .builtin .append, args := #[s, x], argTypes := #[t, t] })
    (base : Nat) (v : Value) (xs : List α) (hs : a.eval s = v) (hown : Orw cs e sz w base v xs) (src : Option Addr) (m c : Nat) (ys : List α) (hx : a.eval x = .slice src m c) (hb : Ls sz cs w src m ys) (hnil : src = none → m = 0 ∧ c = 0)
    (hsm : (xs.length + m) * by_ ≤ 140737488355328) (hmx : xs.length + m ≤ 140737488355328) (hbase : base ≤ w.heap.size) (h : ∀ v' w', Orw cs e sz w' base v' (xs ++ ys) → w.grownBy w' v.ownBlock → wpList Try.prog ops Q rest (a.put o.dst v') w') : wpList Try.prog ops Q (o :: rest) a w :=
  wpList_step fun K hK => by
    rw [if_pos hw]
    exact wpR_append R s x ho base v xs hs hown src m c ys hx hb hnil hsm hmx hbase (fun v' w' h1 h2 => hK _ _ (h v' w' h1 h2))
set_option maxHeartbeats 1600000 in
theorem ktells_rest (w : World) (a : Option Addr) (m c : Nat) (l : List Ty) (hL : TysIn w ⟨a, m, c⟩ l) (k : Int) (N : ByteArray) (n : List UInt8) (hN : Str N n) (hn : n.length ≤ 2000) :
    Calls Try.prog 4 #[.agg #[.int .i64 k, .string N], .slice a m c] w fun e w' => e = .returned (.bool true) ∧ Below w.heap.size w w' := by
  have HL := hide hL
  clear hL
  have hzn := hN.size
  have h2 : ¬ (2000 : Int) < (n.length : Int) := by omega
  have h2' : (n.length : Int) ≤ 2000 := by omega
  obtain ⟨w0, hw0⟩ : ∃ w0, w0 = w.alloc (.cells #[.int .i64 k, .string N] 23) := ⟨_, rfl⟩
  have HB : Hid (Bx2c w0 w.heap.size (.int .i64 k) (.string N)) := by rw [hw0]; exact Bx2c.made _ _ _
  have F0 : Hid (Below w.heap.size w w0) := by rw [hw0]; exact bA (Below.refl _ _) _
  obtain ⟨a0, a1, a2⟩ := (unhide HB).cells
  have HW0 := hide hw0
  clear hw0
  have HP1 : Hid (∀ W, Calls Try.prog 17 #[.agg #[.int .i64 k, .string N]] W fun e w' => e = .returned (.tuple #[.string ⟨(prnP ⟨k, n⟩).1.toArray⟩, .int .i64 (prnP ⟨k, n⟩).2]) ∧ Below W.heap.size W w') := fun W => yPrint_any W k N n hN (by omega)
  have HP2 : Hid (∀ W, Calls Try.prog 18 #[.agg #[.int .i64 k, .string N]] W fun e w' => e = .returned (.tuple #[.string ⟨(prnP ⟨k, n⟩).1.toArray⟩, .int .i64 (prnP ⟨k, n⟩).2]) ∧ Below W.heap.size W w') := fun W => x10Print_any W k N n hN (by omega)
  have HE1 : Hid (∀ W, Calls Try.prog 19 #[.agg #[.int .i64 k, .string N]] W fun e w' => e = .returned (.tuple #[tyV (elemP ⟨k, n⟩).1, .int .i64 (elemP ⟨k, n⟩).2]) ∧ Below W.heap.size W w') := fun W => yElem_any W k N n hN (by omega)
  have HE2 : Hid (∀ W, Calls Try.prog 20 #[.agg #[.int .i64 k, .string N]] W fun e w' => e = .returned (.tuple #[tyV (elemP ⟨k, n⟩).1, .int .i64 (elemP ⟨k, n⟩).2]) ∧ Below W.heap.size W w') := fun W => x10Elem_any W k N n hN (by omega)
  generalize elemP ⟨k, n⟩ = el at *
  obtain ⟨⟨ek, en⟩, ee⟩ := el
  generalize prnP ⟨k, n⟩ = pr at *
  obtain ⟨pn, pe⟩ := pr
  unfold tyV at HE1 HE2
  simp only at HE1 HE2 HP1 HP2
  generalize (⟨en.toArray⟩ : ByteArray) = E at *
  generalize (⟨pn.toArray⟩ : ByteArray) = P at *
  clear hN
  go_enter Try.func4, Try.ntmps4
  go_wp2_with fail
  rw [← unhide HW0]
  refine (unhide HP1 w0).mono ?_
  rintro e w1 ⟨rfl, f1⟩
  have HB1 := hide ((unhide HB).keep f1)
  have F1 := hide ((unhide F0).trans (f1.mono (unhide F0).size))
  clear a0 a1 a2 f1 HB F0
  obtain ⟨a0, a1, a2⟩ := (unhide HB1).cells
  go_wp2_with fail
  refine (unhide HP2 w1).mono ?_
  rintro e w2 ⟨rfl, f2⟩
  have HB2 := hide ((unhide HB1).keep f2)
  have F2 := hide ((unhide F1).trans (f2.mono (unhide F1).size))
  clear a0 a1 a2 f2 HB1 F1
  obtain ⟨a0, a1, a2⟩ := (unhide HB2).cells
  go_wp2_with fail
  refine (unhide HE1 w2).mono ?_
  rintro e w3 ⟨rfl, f3⟩
  have HB3 : Hid (Bx2c (w3.alloc (.cells #[.int .i64 ek, .string E] 23)) w.heap.size (.int .i64 k) (.string N)) := ((unhide HB2).keep f3).keep (bA (Below.refl _ _) _)
  have F3 : Hid (Below w.heap.size w (w3.alloc (.cells #[.int .i64 ek, .string E] 23))) := bA ((unhide F2).trans (f3.mono (unhide F2).size)) _
  have HC3 : Hid (Bx2c (w3.alloc (.cells #[.int .i64 ek, .string E] 23)) w3.heap.size (.int .i64 ek) (.string E)) := Bx2c.made _ _ _
  clear a0 a1 a2 f3 HB2 F2
  obtain ⟨a0, a1, a2⟩ := (unhide HB3).cells
  go_wp2_with fail
  refine (unhide HE2 _).mono ?_
  rintro e w4 ⟨rfl, f4⟩
  have F4 : Hid (Below w.heap.size w (w4.alloc (.cells #[.int .i64 ek, .string E] 23))) := bA ((unhide F3).trans (f4.mono (unhide F3).size)) _
  have HC4 : Hid (Bx2c (w4.alloc (.cells #[.int .i64 ek, .string E] 23)) w3.heap.size (.int .i64 ek) (.string E)) := ((unhide HC3).keep f4).keep (bA (Below.refl _ _) _)
  have HD4 : Hid (Bx2c (w4.alloc (.cells #[.int .i64 ek, .string E] 23)) w4.heap.size (.int .i64 ek) (.string E)) := Bx2c.made _ _ _
  clear a0 a1 a2 f4 HB3 F3 HC3
  obtain ⟨c0, c1, c2⟩ := (unhide HC4).cells
  obtain ⟨d0, d1, d2⟩ := (unhide HD4).cells
  have JE : ∀ W, (binOp .eql 23 (.agg #[.int .i64 ek, .string E]) (.agg #[.int .i64 ek, .string E])).run Try.prog W = .ok (.bool true) W := fun W => by rw [ty_cmp]; simp
  have F5 : Hid (Below w.heap.size w ((w4.alloc (.cells #[.int .i64 ek, .string E] 23)).alloc (.cells #[] 23))) := bA (unhide F4) _
  have hsz4 : (w4.alloc (.cells #[.int .i64 ek, .string E] 23)).heap.size = w4.heap.size + 1 := by simp
  have O5a := Orw.made tyc 23 2 (w4.alloc (.cells #[.int .i64 ek, .string E] 23)) w.heap.size (unhide F4).size
  rw [hsz4] at O5a
  have HO5 := hide O5a
  have HL5 := hide ((unhide HL).ls.below (unhide F5))
  have hsm := (unhide HL).small
  have hln := (unhide HL).ls.1
  have HNI := hide (unhide HL).nil
  simp only at hsm hln HL5 HNI
  have q1 : (0 + m) * 24 ≤ 140737488355328 := by omega
  have q2 : 0 + m ≤ 140737488355328 := by omega
  have Q1 := hide q1
  have Q2 := hide q2
  have HSB : Hid (w.heap.size ≤ ((w4.alloc (.cells #[.int .i64 ek, .string E] 23)).alloc (.cells #[] 23)).heap.size) := (unhide F5).size
  have HLN := hide hln
  have HSM := hide hsm
  clear O5a hsz4 q1 q2 hln hsm
  go_wp2_with (first
    | (at_builtin; refine listR_append_wanted rkT rfl _ _ rfl w.heap.size _ ([] : List Ty) rfl (unhide HO5) a m c l rfl (unhide HL5) (unhide HNI) (unhide Q1) (unhide Q2) (unhide HSB) ?_)
    | go_in)
  intro v' w6 o6 g6
  have F6 := hide (grown_below (unhide F5) (unhide HO5) g6)
  obtain ⟨va, vc, rfl, hv1, hv2, hv3⟩ := o6.form
  have HW := hide (yWide_any w6 va l.length vc l (o6.ls rkT) (by have := unhide HLN; have := unhide HSM; omega))
  clear o6 g6 hv1 hv2 hv3 c0 c1 c2 d0 d1 d2
  go_wp2_with fail
  refine (unhide HW).mono ?_
  rintro e w7 ⟨rfl, f7⟩
  have F7 := hide ((unhide F6).trans (f7.mono (unhide F6).size))
  have HW2 := hide (x10Wide_any w7 a m c l ((unhide HL).ls.below (unhide F7)) (by have := unhide HSM; omega))
  clear f7 HW
  go_wp2_with fail
  refine (unhide HW2).mono ?_
  rintro e w8 ⟨rfl, f8⟩
  have F8 := hide ((unhide F7).trans (f8.mono (unhide F7).size))
  clear f8 HW2
  go_wp2_with fail
  refine (works10_any w8).mono ?_
  rintro e w9 ⟨rfl, f9⟩
  have F9 := hide ((unhide F8).trans (f9.mono (unhide F8).size))
  go_wp2
  go_ret
  exact ⟨rfl, unhide F9⟩
set_option maxHeartbeats 1600000 in
theorem ktells_long (w : World) (a : Option Addr) (m c : Nat) (l : List Ty) (hL : TysIn w ⟨a, m, c⟩ l) (k : Int) (N0 : ByteArray) (n0 : List UInt8) (hN0 : Str N0 n0) (hn0 : 2000 < n0.length) (N : ByteArray) (n : List UInt8) (hcut : N0.extract 0 2000 = N) (hN : Str N n) (hn : n.length ≤ 2000) :
    Calls Try.prog 4 #[.agg #[.int .i64 k, .string N0], .slice a m c] w fun e w' => e = .returned (.bool true) ∧ Below w.heap.size w w' := by
  have HL := hide hL
  clear hL
  have hzn := hN0.size
  have h2 : (2000 : Int) < (n0.length : Int) := by omega
  have h2' : (2000 : Int) ≤ (n0.length : Int) := by omega
  have h2'' : 2000 ≤ n0.length := by omega
  clear hN0
  obtain ⟨w0, hw0⟩ : ∃ w0, w0 = w.alloc (.cells #[.int .i64 k, .string N] 23) := ⟨_, rfl⟩
  have HB : Hid (Bx2c w0 w.heap.size (.int .i64 k) (.string N)) := by rw [hw0]; exact Bx2c.made _ _ _
  have F0 : Hid (Below w.heap.size w w0) := by rw [hw0]; exact bA (Below.refl _ _) _
  obtain ⟨a0, a1, a2⟩ := (unhide HB).cells
  have HW0 := hide hw0
  clear hw0
  have HP1 : Hid (∀ W, Calls Try.prog 17 #[.agg #[.int .i64 k, .string N]] W fun e w' => e = .returned (.tuple #[.string ⟨(prnP ⟨k, n⟩).1.toArray⟩, .int .i64 (prnP ⟨k, n⟩).2]) ∧ Below W.heap.size W w') := fun W => yPrint_any W k N n hN (by omega)
  have HP2 : Hid (∀ W, Calls Try.prog 18 #[.agg #[.int .i64 k, .string N]] W fun e w' => e = .returned (.tuple #[.string ⟨(prnP ⟨k, n⟩).1.toArray⟩, .int .i64 (prnP ⟨k, n⟩).2]) ∧ Below W.heap.size W w') := fun W => x10Print_any W k N n hN (by omega)
  have HE1 : Hid (∀ W, Calls Try.prog 19 #[.agg #[.int .i64 k, .string N]] W fun e w' => e = .returned (.tuple #[tyV (elemP ⟨k, n⟩).1, .int .i64 (elemP ⟨k, n⟩).2]) ∧ Below W.heap.size W w') := fun W => yElem_any W k N n hN (by omega)
  have HE2 : Hid (∀ W, Calls Try.prog 20 #[.agg #[.int .i64 k, .string N]] W fun e w' => e = .returned (.tuple #[tyV (elemP ⟨k, n⟩).1, .int .i64 (elemP ⟨k, n⟩).2]) ∧ Below W.heap.size W w') := fun W => x10Elem_any W k N n hN (by omega)
  generalize elemP ⟨k, n⟩ = el at *
  obtain ⟨⟨ek, en⟩, ee⟩ := el
  generalize prnP ⟨k, n⟩ = pr at *
  obtain ⟨pn, pe⟩ := pr
  unfold tyV at HE1 HE2
  simp only at HE1 HE2 HP1 HP2
  generalize (⟨en.toArray⟩ : ByteArray) = E at *
  generalize (⟨pn.toArray⟩ : ByteArray) = P at *
  clear hN
  go_enter Try.func4, Try.ntmps4
  go_wp2_with fail
  rw [← unhide HW0]
  refine (unhide HP1 w0).mono ?_
  rintro e w1 ⟨rfl, f1⟩
  have HB1 := hide ((unhide HB).keep f1)
  have F1 := hide ((unhide F0).trans (f1.mono (unhide F0).size))
  clear a0 a1 a2 f1 HB F0
  obtain ⟨a0, a1, a2⟩ := (unhide HB1).cells
  go_wp2_with fail
  refine (unhide HP2 w1).mono ?_
  rintro e w2 ⟨rfl, f2⟩
  have HB2 := hide ((unhide HB1).keep f2)
  have F2 := hide ((unhide F1).trans (f2.mono (unhide F1).size))
  clear a0 a1 a2 f2 HB1 F1
  obtain ⟨a0, a1, a2⟩ := (unhide HB2).cells
  go_wp2_with fail
  refine (unhide HE1 w2).mono ?_
  rintro e w3 ⟨rfl, f3⟩
  have HB3 : Hid (Bx2c (w3.alloc (.cells #[.int .i64 ek, .string E] 23)) w.heap.size (.int .i64 k) (.string N)) := ((unhide HB2).keep f3).keep (bA (Below.refl _ _) _)
  have F3 : Hid (Below w.heap.size w (w3.alloc (.cells #[.int .i64 ek, .string E] 23))) := bA ((unhide F2).trans (f3.mono (unhide F2).size)) _
  have HC3 : Hid (Bx2c (w3.alloc (.cells #[.int .i64 ek, .string E] 23)) w3.heap.size (.int .i64 ek) (.string E)) := Bx2c.made _ _ _
  clear a0 a1 a2 f3 HB2 F2
  obtain ⟨a0, a1, a2⟩ := (unhide HB3).cells
  go_wp2_with fail
  refine (unhide HE2 _).mono ?_
  rintro e w4 ⟨rfl, f4⟩
  have F4 : Hid (Below w.heap.size w (w4.alloc (.cells #[.int .i64 ek, .string E] 23))) := bA ((unhide F3).trans (f4.mono (unhide F3).size)) _
  have HC4 : Hid (Bx2c (w4.alloc (.cells #[.int .i64 ek, .string E] 23)) w3.heap.size (.int .i64 ek) (.string E)) := ((unhide HC3).keep f4).keep (bA (Below.refl _ _) _)
  have HD4 : Hid (Bx2c (w4.alloc (.cells #[.int .i64 ek, .string E] 23)) w4.heap.size (.int .i64 ek) (.string E)) := Bx2c.made _ _ _
  clear a0 a1 a2 f4 HB3 F3 HC3
  obtain ⟨c0, c1, c2⟩ := (unhide HC4).cells
  obtain ⟨d0, d1, d2⟩ := (unhide HD4).cells
  have JE : ∀ W, (binOp .eql 23 (.agg #[.int .i64 ek, .string E]) (.agg #[.int .i64 ek, .string E])).run Try.prog W = .ok (.bool true) W := fun W => by rw [ty_cmp]; simp
  have F5 : Hid (Below w.heap.size w ((w4.alloc (.cells #[.int .i64 ek, .string E] 23)).alloc (.cells #[] 23))) := bA (unhide F4) _
  have hsz4 : (w4.alloc (.cells #[.int .i64 ek, .string E] 23)).heap.size = w4.heap.size + 1 := by simp
  have O5a := Orw.made tyc 23 2 (w4.alloc (.cells #[.int .i64 ek, .string E] 23)) w.heap.size (unhide F4).size
  rw [hsz4] at O5a
  have HO5 := hide O5a
  have HL5 := hide ((unhide HL).ls.below (unhide F5))
  have hsm := (unhide HL).small
  have hln := (unhide HL).ls.1
  have HNI := hide (unhide HL).nil
  simp only at hsm hln HL5 HNI
  have q1 : (0 + m) * 24 ≤ 140737488355328 := by omega
  have q2 : 0 + m ≤ 140737488355328 := by omega
  have Q1 := hide q1
  have Q2 := hide q2
  have HSB : Hid (w.heap.size ≤ ((w4.alloc (.cells #[.int .i64 ek, .string E] 23)).alloc (.cells #[] 23)).heap.size) := (unhide F5).size
  have HLN := hide hln
  have HSM := hide hsm
  clear O5a hsz4 q1 q2 hln hsm
  go_wp2_with (first
    | (at_builtin; refine listR_append_wanted rkT rfl _ _ rfl w.heap.size _ ([] : List Ty) rfl (unhide HO5) a m c l rfl (unhide HL5) (unhide HNI) (unhide Q1) (unhide Q2) (unhide HSB) ?_)
    | go_in)
  intro v' w6 o6 g6
  have F6 := hide (grown_below (unhide F5) (unhide HO5) g6)
  obtain ⟨va, vc, rfl, hv1, hv2, hv3⟩ := o6.form
  have HW := hide (yWide_any w6 va l.length vc l (o6.ls rkT) (by have := unhide HLN; have := unhide HSM; omega))
  clear o6 g6 hv1 hv2 hv3 c0 c1 c2 d0 d1 d2
  go_wp2_with fail
  refine (unhide HW).mono ?_
  rintro e w7 ⟨rfl, f7⟩
  have F7 := hide ((unhide F6).trans (f7.mono (unhide F6).size))
  have HW2 := hide (x10Wide_any w7 a m c l ((unhide HL).ls.below (unhide F7)) (by have := unhide HSM; omega))
  clear f7 HW
  go_wp2_with fail
  refine (unhide HW2).mono ?_
  rintro e w8 ⟨rfl, f8⟩
  have F8 := hide ((unhide F7).trans (f8.mono (unhide F7).size))
  clear f8 HW2
  go_wp2_with fail
  refine (works10_any w8).mono ?_
  rintro e w9 ⟨rfl, f9⟩
  have F9 := hide ((unhide F8).trans (f9.mono (unhide F8).size))
  go_wp2
  go_ret
  exact ⟨rfl, unhide F9⟩
theorem tys_arg {H : Type} {enc : TypeId × Value → H} {W : World} {base : Nat} {a : Option Addr} {n c : Nat} {d : DataW H} {p : List MemPlace}
    (h : DataW.Trod enc Try.prog W base (fun _ => true) true 27 (.slice a n c) d p) (hw : ∀ m ∈ d.weights Try.prog 27, m ≤ reachBytes) : ∃ l : List Ty, TysIn W ⟨a, n, c⟩ l :=
  lin_open (s := ⟨a, n, c⟩) (size := 2) (by_ := 24) (ok := TyFit) (val := tyc) Try.underlying27 (by kernel_rfl) (by kernel_rfl) (by decide) (fun _ => rfl) (fun _ => ⟨_, rfl⟩) (fun n cs x h hw => ty_cells n cs x h hw) h hw
theorem ktells_walk (w : World) (t : Ty) (ht : TyIn t) (a : Option Addr) (m c : Nat) (l : List Ty) (hL : TysIn w ⟨a, m, c⟩ l) :
    Calls Try.prog 4 #[tyV t, .slice a m c] w fun e w' => e = .returned (.bool true) ∧ Below w.heap.size w w' := by
  obtain ⟨k, n⟩ := t
  obtain ⟨N, hN⟩ := Str.of n
  show Calls _ _ #[.agg #[.int .i64 k, .string ⟨n.toArray⟩], .slice a m c] _ _
  rw [← hN.eq]
  by_cases h : n.length ≤ 2000
  · exact ktells_rest w a m c l hL k N n hN h
  · have hT : Str (N.extract 0 2000) (n.take 2000) := by
      have := hN.sub 0 2000
      simpa using this
    exact ktells_long w a m c l hL k N n hN (by omega) _ _ rfl hT (by rw [List.length_take]; omega)
end Go.Proofs.Ytjhiflhmefhogaa
