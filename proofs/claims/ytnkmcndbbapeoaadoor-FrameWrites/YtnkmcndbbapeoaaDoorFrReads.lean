/- The walk of FrameReads. -/
import Derived.Test.YtnkmcndbbapeoaaDoorFrQ
namespace Go.Proofs.YtnkmcndbbapeoaaDoor
open Go.RowKit
set_option linter.unusedVariables false

set_option maxHeartbeats 400000 in
theorem light_any (w : World) (a : Option Addr) (n cap : Nat) :
    Calls Tryd.prog 15 #[.slice a n cap] w fun e w' => e = .returned (.bool (decide ((n : Int) ≤ 8000))) ∧ w' = w := by
  go_enter Tryd.func15, Tryd.ntmps15
  go_wp2
  go_ret
  exact ⟨by simp, rfl⟩
theorem gBytesN {w W : World} {a : Option Addr} {n cap : Nat} {l : List UInt8} (f : Below w.heap.size w W) (h : Arg w a n cap l) (hn : n ≤ 20000) :
    Calls Tryd.prog 16 #[.slice a n cap] W fun e w' => ∃ a1 c1, e = .returned (.slice a1 n c1) ∧ w'.ownsRow W.heap.size 5 1 (.slice a1 n c1) n (bv l) ∧ Arg w' a1 n c1 l ∧ Below w.heap.size w w' ∧ Below W.heap.size W w' := by
  refine (Bytes_arg (h.below f) (by omega)).mono ?_
  rintro e w' ⟨v, rfl, o, f'⟩
  obtain ⟨a1, c1, rfl, _⟩ := own_form o
  exact ⟨a1, c1, rfl, o, arg_of_own h.bs.1 o, f.trans (f'.mono f.size), f'⟩
theorem gFirst {T : World → Prop} (F : Frames T) {w W : World} {a : Option Addr} {n cap : Nat} {l : List UInt8} (hT : T w) (f : Below w.heap.size w W) (h : Arg W a n cap l) (hn : n ≤ 20000) :
    Calls Tryd.prog 17 #[.slice a n cap] W fun e w' => e = .returned (.tuple #[recV (firstQ l), .int .i64 (firstN l : Int), .int .i64 (firstE l)]) ∧ Below w.heap.size w w' ∧ Below W.heap.size W w' := by
  refine (F.first W a n cap l (F.below _ _ hT f) h hn).mono ?_
  rintro e w' ⟨rfl, f'⟩
  exact ⟨rfl, f.trans (f'.mono f.size), f'⟩
theorem gzFirst {w W : World} {a : Option Addr} {n cap : Nat} {l : List UInt8} (f : Below w.heap.size w W) (h : Arg W a n cap l) (hn : n ≤ 20000) :
    Calls Tryd.prog 18 #[.slice a n cap] W fun e w' => e = .returned (.tuple #[recV (firstQ l), .int .i64 (firstN l : Int), .int .i64 (firstE l)]) ∧ Below w.heap.size w w' ∧ Below W.heap.size W w' := by
  refine (zFirst_any W a n cap l h.room h.most (by omega) h.bs).mono ?_
  rintro e w' ⟨rfl, f'⟩
  exact ⟨rfl, f.trans (f'.mono f.size), f'⟩
theorem gScan {T : World → Prop} (F : Frames T) {w W : World} {a : Option Addr} {n cap : Nat} {l : List UInt8} (hT : T w) (f : Below w.heap.size w W) (h : Arg W a n cap l) (hn : n ≤ 20000) :
    Calls Tryd.prog 19 #[.slice a n cap] W fun e w' => ∃ a1 c1, e = .returned (.tuple #[.slice a1 (scanL l 0).1.length c1, .int .i64 ((scanL l 0).2 : Int)]) ∧ Rs w' a1 (scanL l 0).1.length (scanL l 0).1 ∧ (scanL l 0).1.length ≤ 140737488351232 ∧ Below w.heap.size w w' ∧ Below W.heap.size W w' := by
  refine (F.scan W a n cap l (F.below _ _ hT f) h hn).mono ?_
  rintro e w' ⟨v, rfl, o, f'⟩
  obtain ⟨a1, c1, rfl⟩ := own2_form o
  exact ⟨a1, c1, rfl, rs_of_own o, by have := scan_le l 0; have := h.bs.1; omega, f.trans (f'.mono f.size), f'⟩
theorem gzScan {w W : World} {a : Option Addr} {n cap : Nat} {l : List UInt8} (f : Below w.heap.size w W) (h : Arg W a n cap l) (hn : n ≤ 20000) :
    Calls Tryd.prog 20 #[.slice a n cap] W fun e w' => ∃ a1 c1, e = .returned (.tuple #[.slice a1 (scanL l 0).1.length c1, .int .i64 ((scanL l 0).2 : Int)]) ∧ Rs w' a1 (scanL l 0).1.length (scanL l 0).1 ∧ Below w.heap.size w w' ∧ Below W.heap.size W w' := by
  refine (zScan_any W a n cap l h (by omega)).mono ?_
  rintro e w' ⟨v, rfl, o, f'⟩
  obtain ⟨a1, c1, rfl⟩ := own2_form o
  exact ⟨a1, c1, rfl, rs_of_own o, f.trans (f'.mono f.size), f'⟩
theorem gWorks3 {T : World → Prop} (F : Frames T) {w W : World} (hT : T w) (f : Below w.heap.size w W) :
    Calls Tryd.prog 14 #[] W fun e w' => e = .returned (.bool true) ∧ Below w.heap.size w w' ∧ Below W.heap.size W w' := by
  refine (works3_any F W (F.below _ _ hT f)).mono ?_
  rintro e w' ⟨rfl, f'⟩
  exact ⟨rfl, f.trans (f'.mono f.size), f'⟩

set_option maxHeartbeats 3200000 in
set_option maxRecDepth 100000 in
theorem reads_walk {T : World → Prop} (F : Frames T) (w : World) (a : Option Addr) (n cap : Nat) (l : List UInt8) (hT : T w) (hA : Arg w a n cap l) :
    Calls Tryd.prog 4 #[.slice a n cap] w fun e w' => e = .returned (.bool true) ∧ Below w.heap.size w w' := by
  have HT := hide hT
  have HA := hide hA
  have H0 := hide (light_any w a n cap)
  generalize hq : decide ((n : Int) ≤ 8000) = q at H0
  have HQ := hide hq
  clear hT hA hq
  go_enter Tryd.func4, Tryd.ntmps4
  go_wp2_with fail
  refine (unhide H0).mono ?_
  rintro e w1 ⟨rfl, rfl⟩
  clear H0
  go_upto_if 16 with fail
  go_cut [0] from 14 (fun v wx => ∃ a n l, v = .slice a n cap ∧ Arg w1 a n cap l ∧ n ≤ 8000 ∧ wx = w1)
  case first =>
    cases q with
    | true =>
      go_wp2
      go_meet
      exact ⟨a, n, l, rfl, unhide HA, by have := of_decide_eq_true (unhide HQ); omega, rfl⟩
    | false =>
      have hA := unhide HA
      have hlim := of_decide_eq_false (unhide HQ)
      obtain ⟨b, o, rfl, hb⟩ := hA.bs.2.resolve_left (by omega)
      have hcap0 := hA.room
      have g1 : (8000 : Int) ≤ (cap : Int) := by omega
      have g2 : ¬ cap = 0 := by omega
      have HB : Hid (Arg w1 (some ⟨b, o, none⟩) 8000 cap (l.take 8000)) := ⟨⟨by have := hA.bs.1; simp; omega, .inr ⟨b, o, rfl, bytes_take hb _⟩⟩, by omega, hA.most, fun e => by cases e⟩
      clear hA hb hcap0
      go_wp2
      go_meet
      exact ⟨some ⟨b, o, none⟩, 8000, l.take 8000, rfl, unhide HB, Nat.le_refl _, rfl⟩
  case rest =>
    clear HA
    obtain ⟨a, n, l, rfl, hA, hn, rfl⟩ := hcut
    have HA := hide hA
    have H1 := hide (gBytesN (Below.refl _ _) hA (by omega))
    clear hA
    go_wp2_with fail
    refine (unhide H1).mono ?_
    rintro e w2 ⟨a2, c2, rfl, _, A2, f2, _⟩
    have H2 := gFirst F (unhide HT) f2 A2 (by omega)
    unfold recV at H2
    have hsl := scan_le l 0
    have hll := (unhide HA).bs.1
    have H2 := hide H2
    have AA2 := hide A2
    clear A2 f2 H1
    generalize hr : (firstQ l).epoch = ep at *
    generalize hs : (⟨(firstQ l).data.toArray⟩ : ByteArray) = st at *
    go_wp2_with fail
    refine (unhide H2).mono ?_
    rintro e w3 ⟨rfl, f3, b3⟩
    have f3' : Below wc.heap.size wc (w3.alloc (.cells #[.int .i64 ep, .string st] 24)) := f3.alloc f3.size _
    have b3' : Below w2.heap.size w2 (w3.alloc (.cells #[.int .i64 ep, .string st] 24)) := b3.alloc b3.size _
    have H3 := gzFirst f3' ((unhide HA).below f3') (by omega)
    unfold recV at H3
    rw [hr, hs] at H3
    have H3 := hide H3
    have AA3 := hide ((unhide AA2).below b3')
    have hx := heap_alloc_last w3 (.cells #[.int .i64 ep, .string st] 24)
    have HX := hide hx
    clear f3 b3 f3' b3' H2 AA2 hx
    generalize firstN l = fn at *
    generalize firstE l = fe at *
    go_wp2_with fail
    refine (unhide H3).mono ?_
    rintro e w4 ⟨rfl, f4, b4⟩
    have f4' : Below wc.heap.size wc (w4.alloc (.cells #[.int .i64 ep, .string st] 24)) := f4.alloc f4.size _
    have b4' : Below (w3.alloc (.cells #[.int .i64 ep, .string st] 24)).heap.size (w3.alloc (.cells #[.int .i64 ep, .string st] 24)) (w4.alloc (.cells #[.int .i64 ep, .string st] 24)) := b4.alloc b4.size _
    have AA4 := hide ((unhide AA3).below b4')
    have H4 := hide (gScan F (unhide HT) f4' (unhide AA4) (by omega))
    have X3 : (w4.alloc (.cells #[.int .i64 ep, .string st] 24)).heap[w3.heap.size]? = some (.cells #[.int .i64 ep, .string st] 24) := (b4'.block _ (lt_of_heap (unhide HX))).trans (unhide HX)
    have X4 := heap_alloc_last w4 (.cells #[.int .i64 ep, .string st] 24)
    have HX3 := hide X3
    have HX4 := hide X4
    clear f4 b4 f4' b4' H3 AA3 HX X3 X4
    generalize hsc : scanL l 0 = sc at *
    go_wp2_with fail
    refine (unhide H4).mono ?_
    rintro e w5 ⟨a5, c5, rfl, R5, hl5, f5, b5⟩
    have H5 := gzScan f5 ((unhide HA).below f5) (by omega)
    rw [hsc] at H5
    have H5 := hide H5
    have AA5 := hide ((unhide AA4).below b5)
    have X3 : w5.heap[w3.heap.size]? = some (.cells #[.int .i64 ep, .string st] 24) := (b5.block _ (lt_of_heap (unhide HX3))).trans (unhide HX3)
    have X4 : w5.heap[w4.heap.size]? = some (.cells #[.int .i64 ep, .string st] 24) := (b5.block _ (lt_of_heap (unhide HX4))).trans (unhide HX4)
    have Y3 := hide X3
    have Y4 := hide X4
    have RR5 := hide R5
    clear f5 b5 H4 AA4 HX3 HX4 X3 X4 R5 hsc
    go_wp2_with fail
    refine (unhide H5).mono ?_
    rintro e w6 ⟨a6, c6, rfl, R6, f6, b6⟩
    have X3 : w6.heap[w3.heap.size]? = some (.cells #[.int .i64 ep, .string st] 24) := (b6.block _ (lt_of_heap (unhide Y3))).trans (unhide Y3)
    have X4 : w6.heap[w4.heap.size]? = some (.cells #[.int .i64 ep, .string st] 24) := (b6.block _ (lt_of_heap (unhide Y4))).trans (unhide Y4)
    have p30 : w6.cell? ⟨w3.heap.size, 0, none⟩ = some (.int .i64 ep) := by rw [cell_of_row _ _ _ _ _ _ X3]; rfl
    have p31 : w6.cell? ⟨w3.heap.size, 1, none⟩ = some (.string st) := by rw [cell_of_row _ _ _ _ _ _ X3]; rfl
    have p40 : w6.cell? ⟨w4.heap.size, 0, none⟩ = some (.int .i64 ep) := by rw [cell_of_row _ _ _ _ _ _ X4]; rfl
    have p41 : w6.cell? ⟨w4.heap.size, 1, none⟩ = some (.string st) := by rw [cell_of_row _ _ _ _ _ _ X4]; rfl
    have H6 := hide (SameRecords_same w6 a5 a6 _ c5 c6 _ ((unhide RR5).below b6) R6 (by exact hl5))
    have AA6 := hide ((unhide AA5).below b6)
    have F6 := hide f6
    clear f6 b6 R6 H5 AA5 RR5 Y3 Y4 X3 X4
    go_wp2_with fail
    refine (unhide H6).mono ?_
    rintro e w7 ⟨rfl, f7⟩
    have f7w : Below wc.heap.size wc w7 := (unhide F6).trans (f7.mono (unhide F6).size)
    have H7 := hide (SameBytes_same w7 a2 a l n c2 cap ((unhide AA6).below f7).bs ((unhide HA).below f7w).bs)
    have H8 := hide (gWorks3 F (unhide HT) f7w)
    clear f7 f7w H6 AA6 F6
    go_wp2_with fail
    refine (unhide H7).mono ?_
    rintro e w8 ⟨rfl, rfl⟩
    go_wp2_with fail
    refine (unhide H8).mono ?_
    rintro e w9 ⟨rfl, f9, _⟩
    have F9 := hide f9
    clear f9 H7 H8
    go_wp2
    go_ret
    exact ⟨rfl, unhide F9⟩

end Go.Proofs.YtnkmcndbbapeoaaDoor
