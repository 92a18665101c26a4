/- The landed word: the reader's calls. -/
import Derived.Test.YtkmcpedhcdgnoaaWdL3
namespace Go.Proofs.Ytkmcpedhcdgnoaa
open Go.RowKit
set_option linter.unusedVariables false

theorem Sp.drewN {T : TypeId} {w : World} {B x y c : Nat} {bs : List UInt8} {i : Nat} (h : Sp T w B x y c bs i) (k : Nat) : Sp T (w.drewN k) B x y c bs i := h.below (below_drewN (Below.refl _ _) k)

set_option maxHeartbeats 1600000 in
theorem dRead_any (w : World) (a : Option Addr) (n c : Nat) (bs : List UInt8) (h : Arg w a n c bs) (hn : n ≤ 140737488351232) :
    Calls Try.prog 9 #[.slice a n c] w fun e w' => ∃ x F, e = .returned (.pointer (some ⟨x, 0, none⟩)) ∧ RD F w' w.heap.size x bs 0 ∧ Below w.heap.size w w' := by
  have H1 := hide (dspanOf_any w a n c bs h hn)
  have hlen := h.bs.1
  clear h
  go_enter Try.func9, Try.ntmps9
  go_wp2_with fail
  refine (unhide H1).mono ?_
  rintro e w1 ⟨g, d, rfl, o1, f1⟩
  have b2 : Below w1.heap.size w1 (w1.alloc (.cells #[.slice (some ⟨g, 0, none⟩) n d, .int .i64 0] 61)) := (Below.refl _ _).alloc (Nat.le_refl _) _
  have hb := heap_alloc_last w1 (.cells #[.slice (some ⟨g, 0, none⟩) n d, .int .i64 0] 61)
  have hg := o1.lt g rfl
  have P1 : Hid (∃ F, RD F (w1.alloc (.cells #[.slice (some ⟨g, 0, none⟩) n d, .int .i64 0] 61)) w.heap.size w1.heap.size bs 0) := by
    refine ⟨_, g, d, rfl, f1.size, by omega, ?_, ?_⟩
    · rw [hlen]; exact hb
    · rw [hlen]; exact own_below o1 b2
  have F1 := hide (f1.trans (b2.mono f1.size))
  clear o1 f1 b2 hb hg H1
  go_wp2
  go_ret
  obtain ⟨F, hF⟩ := unhide P1
  exact ⟨_, F, rfl, hF, unhide F1⟩

/-- What look answers. -/
def lookR (bs : List UInt8) (i : Nat) (k : Int) : Nat × Int :=
  if wide k then (if (bs.length : Int) - i < k then (0, 7) else (numB ((bs.drop i).take k.toNat), 0)) else (0, 2)

set_option maxHeartbeats 3200000 in
theorem dlook_any (w : World) (B x y c : Nat) (bs : List UInt8) (i : Nat) (k : Int) (h : Sp 61 w B x y c bs i) (hs : bs.length ≤ 140737488351232) (hi : i ≤ bs.length) :
    Calls Try.prog 31 #[.pointer (some ⟨x, 0, none⟩), .int .i64 k] w fun e w' => e = .returned (.tuple #[.int .u64 ((lookR bs i k).1 : Int), .int .i64 (lookR bs i k).2]) ∧ ∃ j, w' = w.drewN j := by
  have HM := hide (dmade_any w B x y c bs i h)
  have HW := hide (disSize_any w k)
  have HLf : Hid (∀ j, Calls Try.prog 36 #[.pointer (some ⟨x, 0, none⟩)] (w.drewN j) fun e w' => e = .returned (.int .i64 ((bs.length : Int) - i)) ∧ ∃ k, w' = (w.drewN j).drewN k) := fun j => dleft_any (w.drewN j) x _ _ c i (h.drewN j).c0 (h.drewN j).c1 hi hs
  by_cases hw : wide k
  · rw [decide_eq_true hw] at HW
    by_cases hsh : (bs.length : Int) - i < k
    · have e1 : Hid (lookR bs i k = (0, 7)) := by
        show lookR bs i k = _
        unfold lookR
        rw [if_pos hw, if_pos hsh]
      clear h hw
      generalize bs.length = n at *
      go_enter Try.func31, Try.ntmps31
      go_wp2_with fail
      refine (unhide HM).mono ?_
      rintro e w1 ⟨rfl, e0⟩
      have e0' := e0.symm
      clear e0
      subst e0'
      go_wp2_with fail
      refine (unhide HW).mono ?_
      rintro e w1 ⟨rfl, e0⟩
      have e0' := e0.symm
      clear e0
      subst e0'
      clear HM HW
      go_wp2_with fail
      refine (unhide HLf 0).mono ?_
      rintro e w2 ⟨rfl, j, rfl⟩
      clear HLf
      go_wp2
      go_ret2
      exact ⟨by rw [unhide e1]; rfl, j, rfl⟩
    · obtain ⟨m, rfl, hm⟩ := wide_nat hw
      have hmn : i + m ≤ bs.length := by omega
      have e1 : Hid (lookR bs i (m : Int) = (numB ((bs.drop i).take m), 0)) := by
        show lookR bs i (m : Int) = _
        unfold lookR
        rw [if_pos hw, if_neg hsh, Int.toNat_natCast]
      have hcap := own_cap h.row
      have HN : Hid (∀ j, Calls Try.prog 38 #[.pointer (some ⟨x, 0, none⟩), .int .i64 (m : Int)] (w.drewN j) fun e w' => e = .returned (.slice (some ⟨y, i, none⟩) m (c - i)) ∧ ∃ k, w' = (w.drewN j).drewN k) := fun j => by
        have := dnext_any (w.drewN j) x _ _ c i m (h.drewN j).c0 (h.drewN j).c1 hmn hcap.1 hcap.2
        rw [if_neg (by omega)] at this
        simpa [Addr.add_mid] using this
      have HJ : Hid (∀ j, Calls Try.prog 47 #[.slice (some ⟨y, i, none⟩) m (c - i)] (w.drewN j) fun e w' => e = .returned (.int .u64 (numB ((bs.drop i).take m) : Int)) ∧ w' = w.drewN j) := fun j => by
        refine djoined_any (w.drewN j) y i (c - i) ((bs.drop i).take m) m (by rw [List.length_take, List.length_drop]; omega) (by omega) ?_
        refine bytes_take ⟨(fun e => by cases e), fun ad e q u hu => ?_⟩ m
        injection e with e
        subst e
        have hu' : (bv bs)[i + q]? = some u := by
          simp only [bv, List.map_drop, List.getElem?_drop] at hu ⊢
          exact hu
        have := (own_bytes (h.drewN j).row).2 ⟨y, 0, none⟩ rfl (i + q) u hu'
        rw [Addr.add_mid] at this ⊢
        rw [Nat.zero_add] at this
        exact this
      clear h hw hcap
      generalize numB ((bs.drop i).take m) = N at *
      generalize bs.length = n at *
      go_enter Try.func31, Try.ntmps31
      go_wp2_with fail
      refine (unhide HM).mono ?_
      rintro e w1 ⟨rfl, e0⟩
      have e0' := e0.symm
      clear e0
      subst e0'
      go_wp2_with fail
      refine (unhide HW).mono ?_
      rintro e w1 ⟨rfl, e0⟩
      have e0' := e0.symm
      clear e0
      subst e0'
      clear HM HW
      go_wp2_with fail
      refine (unhide HLf 0).mono ?_
      rintro e w2 ⟨rfl, j, rfl⟩
      have HN1 := hide (unhide HN j)
      clear HLf HN
      go_wp2_with fail
      refine (unhide HN1).mono ?_
      rintro e w3 ⟨rfl, j3, rfl⟩
      clear HN1
      rw [World.drewN_drewN]
      go_wp2_with fail
      refine (unhide HJ _).mono ?_
      rintro e w4 ⟨rfl, rfl⟩
      clear HJ
      go_wp2
      go_ret2
      exact ⟨by rw [unhide e1]; rfl, _, rfl⟩
  · rw [decide_eq_false hw] at HW
    have e1 : Hid (lookR bs i k = (0, 2)) := by
      show lookR bs i k = _
      unfold lookR
      rw [if_neg hw]
    clear h hw HLf
    go_enter Try.func31, Try.ntmps31
    go_wp2_with fail
    refine (unhide HM).mono ?_
    rintro e w1 ⟨rfl, e0⟩
    have e0' := e0.symm
    clear e0
    subst e0'
    go_wp2_with fail
    refine (unhide HW).mono ?_
    rintro e w1 ⟨rfl, e0⟩
    have e0' := e0.symm
    clear e0
    subst e0'
    go_wp2
    go_ret2
    exact ⟨by rw [unhide e1]; rfl, 0, rfl⟩

/-- All blocks but x are as they were. -/
def Kx (x : Nat) (w w' : World) : Prop := ∀ k, k < w.heap.size → k ≠ x → w'.heap[k]? = w.heap[k]?
theorem kx_drewN (x : Nat) (w : World) (q : Nat) : Kx x w (w.drewN q) := fun k hk _ => (below_drewN (Below.refl _ _) q).block k hk
theorem Kx.of_below {x : Nat} {w w' : World} (f : Below w.heap.size w w') : Kx x w w' := fun k hk _ => f.block k hk
theorem Kx.trans {x : Nat} {w w1 w2 : World} (h : Kx x w w1) (hs : w.heap.size ≤ w1.heap.size) (g : Kx x w1 w2) : Kx x w w2 := fun k hk hx => (g k (Nat.lt_of_lt_of_le hk hs) hx).trans (h k hk hx)
theorem rd_moved {w : World} {B x y c : Nat} {bs : List UInt8} {i : Nat} (h : Sp 61 w B x y c bs i) (q K : Nat) :
    (∃ F', RD F' ((w.drewN q).setCell ⟨x, 1, none⟩ (.int .i64 (K : Int))) B x bs K ∧ ∀ j, F' j → (j = x ∨ j = y) ∨ w.heap.size ≤ j) ∧ Fr6 (fun k => k = x ∨ k = y) B w ((w.drewN q).setCell ⟨x, 1, none⟩ (.int .i64 (K : Int))) ∧ Kx x w ((w.drewN q).setCell ⟨x, 1, none⟩ (.int .i64 (K : Int))) :=
  ⟨⟨_, ⟨y, c, rfl, (h.drewN q).move K⟩, fun j hj => .inl hj⟩, ⟨(below_drewN (Below.refl _ _) q).setCell (p := ⟨x, 1, none⟩) h.hx _, fun k _ hF => Below.heap_setCell _ _ _ _ (fun e => hF (.inl e))⟩, fun k _ hF => Below.heap_setCell _ _ _ _ hF⟩
theorem rlen_pow {m : Nat} (l : List UInt8) (h : l.length = m) : numB l < 256 ^ m := by rw [← h]; exact numB_lt l
theorem lookR_lt (bs : List UInt8) (i : Nat) (k : Int) : (lookR bs i k).1 < 18446744073709551616 := by
  unfold lookR
  split
  · rename_i hw
    split
    · show (0 : Nat) < _
      omega
    · have h := numB_small (l := (bs.drop i).take k.toNat) (k := 8) (m := 0) (by
        rw [List.length_take]
        obtain ⟨m, rfl, hm⟩ := wide_nat hw
        omega)
      show numB _ < _
      omega
  · show (0 : Nat) < _
    omega

set_option maxHeartbeats 3200000 in
theorem dU_all (F : Nat → Prop) (w : World) (B x : Nat) (bs : List UInt8) (i : Nat) (k : Int) (h : RD F w B x bs i) (hs : bs.length ≤ 140737488351232) (hi : i ≤ bs.length) (hk : -9223372036854775808 ≤ k ∧ k ≤ 9223372036854775807) :
    Calls Try.prog 11 #[.pointer (some ⟨x, 0, none⟩), .int .i64 k] w fun e w' => e = .returned (.tuple #[.int .i64 (getW bs i k false).1, .int .i64 (getW bs i k false).2.1]) ∧ (∃ F', RD F' w' B x bs (getW bs i k false).2.2 ∧ ∀ j, F' j → F j ∨ w.heap.size ≤ j) ∧ Fr6 F B w w' ∧ Kx x w w' := by
  obtain ⟨y, c, rfl, h⟩ := h
  have HK := hide (dlook_any w B x y c bs i k h hs hi)
  have HS := hide h
  have keep : ∀ q, (∃ F', RD F' (w.drewN q) B x bs i ∧ ∀ j, F' j → (j = x ∨ j = y) ∨ w.heap.size ≤ j) ∧ Fr6 (fun k => k = x ∨ k = y) B w (w.drewN q) ∧ Kx x w (w.drewN q) := fun q => ⟨⟨_, ⟨y, c, rfl, h.drewN q⟩, fun j hj => .inl hj⟩, Fr6.of_below (below_drewN (Below.refl _ _) q) (Nat.le_trans h.hx (Nat.le_of_lt h.xlt)), kx_drewN _ _ _⟩
  by_cases hw : wide k
  · by_cases hsh : (bs.length : Int) - i < k
    · have e1 : lookR bs i k = (0, 7) := by unfold lookR; rw [if_pos hw, if_pos hsh]
      have e2 : Hid (getW bs i k false = (0, 7, i)) := by
        show getW bs i k false = _
        unfold getW
        rw [if_pos hw, if_pos hsh]
      rw [e1] at HK
      have KP := hide keep
      clear e1 h keep hw
      go_enter Try.func11, Try.ntmps11
      go_wp2_with fail
      refine (unhide HK).mono ?_
      rintro e w1 ⟨rfl, q, rfl⟩
      go_wp2
      go_ret2
      rw [unhide e2]
      exact ⟨rfl, unhide KP q⟩
    · obtain ⟨m, rfl, hm⟩ := wide_nat hw
      have e1 : lookR bs i (m : Int) = (numB ((bs.drop i).take m), 0) := by unfold lookR; rw [if_pos hw, if_neg hsh, Int.toNat_natCast]
      have hlt := lookR_lt bs i (m : Int)
      rw [e1] at HK hlt
      have hll : ((bs.drop i).take m).length = m := by rw [List.length_take, List.length_drop]; omega
      have hpow := rlen_pow _ hll
      have hval : valW ((bs.drop i).take m) false = if 9223372036854775808 ≤ numB ((bs.drop i).take m) then none else some (numB ((bs.drop i).take m) : Int) := by
        unfold valW
        rw [hll]
        by_cases h8 : m = 8
        · rw [if_pos h8, if_neg (by decide)]
          by_cases hb : numB ((bs.drop i).take m) < 9223372036854775808
          · rw [if_pos hb, if_neg (by omega)]
          · rw [if_neg hb, if_pos (by omega)]
        · rw [if_neg h8, if_neg (by simp), if_neg]
          have : numB ((bs.drop i).take m) < 256 ^ 4 := Nat.lt_of_lt_of_le hpow (Nat.pow_le_pow_right (by omega) (by omega))
          omega
      by_cases hb : 9223372036854775808 ≤ numB ((bs.drop i).take m)
      · have e2 : Hid (getW bs i (m : Int) false = (0, 3, i)) := by
          show getW bs i (m : Int) false = _
          unfold getW
          rw [if_pos hw, if_neg hsh, Int.toNat_natCast, hval, if_pos hb]
        have KP := hide keep
        clear e1 h keep hw hval hpow hll
        generalize numB ((bs.drop i).take m) = N at *
        have hN : (9223372036854775807 : Int) < (N : Int) := by omega
        go_enter Try.func11, Try.ntmps11
        go_wp2_with fail
        refine (unhide HK).mono ?_
        rintro e w1 ⟨rfl, q, rfl⟩
        go_wp2
        go_ret2
        rw [unhide e2]
        exact ⟨rfl, unhide KP q⟩
      · have e2 : Hid (getW bs i (m : Int) false = ((numB ((bs.drop i).take m) : Int), 0, i + m)) := by
          show getW bs i (m : Int) false = _
          unfold getW
          rw [if_pos hw, if_neg hsh, Int.toNat_natCast, hval, if_neg hb]
        have c1 := h.c1
        have fz := h.fz 1
        obtain ⟨K, hK⟩ : ∃ K, K = i + m := ⟨_, rfl⟩
        rw [← hK] at e2
        have k1 : (i : Int) + (m : Int) = (K : Int) := by omega
        have k2 : IntKind.i64.wrap (K : Int) = (K : Int) := by rw [IntKind.wrap_i64]; omega
        have k3 : (K : Int) ≤ 9223372036854775807 := by omega
        clear e1 h keep hw hval hpow hll hK
        generalize numB ((bs.drop i).take m) = N at *
        have hN : ¬ (9223372036854775807 : Int) < (N : Int) := by omega
        have hN2 : (N : Int) ≤ 9223372036854775807 := by omega
        go_enter Try.func11, Try.ntmps11
        go_wp2_with fail
        refine (unhide HK).mono ?_
        rintro e w1 ⟨rfl, q, rfl⟩
        clear HK
        go_wp2
        go_ret2
        rw [unhide e2]
        exact ⟨rfl, rd_moved (unhide HS) q K⟩
  · have e1 : lookR bs i k = (0, 2) := by unfold lookR; rw [if_neg hw]
    have e2 : Hid (getW bs i k false = (0, 2, i)) := by
      show getW bs i k false = _
      unfold getW
      rw [if_neg hw]
    rw [e1] at HK
    have KP := hide keep
    clear e1 h keep hw
    go_enter Try.func11, Try.ntmps11
    go_wp2_with fail
    refine (unhide HK).mono ?_
    rintro e w1 ⟨rfl, q, rfl⟩
    go_wp2
    go_ret2
    rw [unhide e2]
    exact ⟨rfl, unhide KP q⟩

set_option maxHeartbeats 3200000 in
theorem dS_all (F : Nat → Prop) (w : World) (B x : Nat) (bs : List UInt8) (i : Nat) (k : Int) (h : RD F w B x bs i) (hs : bs.length ≤ 140737488351232) (hi : i ≤ bs.length) (hk : -9223372036854775808 ≤ k ∧ k ≤ 9223372036854775807) :
    Calls Try.prog 13 #[.pointer (some ⟨x, 0, none⟩), .int .i64 k] w fun e w' => e = .returned (.tuple #[.int .i64 (getW bs i k true).1, .int .i64 (getW bs i k true).2.1]) ∧ (∃ F', RD F' w' B x bs (getW bs i k true).2.2 ∧ ∀ j, F' j → F j ∨ w.heap.size ≤ j) ∧ Fr6 F B w w' ∧ Kx x w w' := by
  obtain ⟨y, c, rfl, h⟩ := h
  have HK := hide (dlook_any w B x y c bs i k h hs hi)
  have HS := hide h
  have keep : ∀ q, (∃ F', RD F' (w.drewN q) B x bs i ∧ ∀ j, F' j → (j = x ∨ j = y) ∨ w.heap.size ≤ j) ∧ Fr6 (fun k => k = x ∨ k = y) B w (w.drewN q) ∧ Kx x w (w.drewN q) := fun q => ⟨⟨_, ⟨y, c, rfl, h.drewN q⟩, fun j hj => .inl hj⟩, Fr6.of_below (below_drewN (Below.refl _ _) q) (Nat.le_trans h.hx (Nat.le_of_lt h.xlt)), kx_drewN _ _ _⟩
  by_cases hw : wide k
  · by_cases hsh : (bs.length : Int) - i < k
    · have e1 : lookR bs i k = (0, 7) := by unfold lookR; rw [if_pos hw, if_pos hsh]
      have e2 : Hid (getW bs i k true = (0, 7, i)) := by
        show getW bs i k true = _
        unfold getW
        rw [if_pos hw, if_pos hsh]
      rw [e1] at HK
      have KP := hide keep
      clear e1 h keep hw
      go_enter Try.func13, Try.ntmps13
      go_wp2_with fail
      refine (unhide HK).mono ?_
      rintro e w1 ⟨rfl, q, rfl⟩
      go_wp2
      go_ret2
      rw [unhide e2]
      exact ⟨rfl, unhide KP q⟩
    · obtain ⟨m, rfl, hm⟩ := wide_nat hw
      have e1 : lookR bs i (m : Int) = (numB ((bs.drop i).take m), 0) := by unfold lookR; rw [if_pos hw, if_neg hsh, Int.toNat_natCast]
      have hlt := lookR_lt bs i (m : Int)
      rw [e1] at HK hlt
      have hll : ((bs.drop i).take m).length = m := by rw [List.length_take, List.length_drop]; omega
      have hpow := rlen_pow _ hll
      have hval : valW ((bs.drop i).take m) true = some (sgn m (numB ((bs.drop i).take m))) := by
        unfold valW sgn
        rw [hll]
        by_cases h8 : m = 8
        · rw [if_pos h8, if_pos rfl]
          subst h8
          have h256 : (256 : Nat) ^ 8 = 18446744073709551616 := by decide
          rw [h256]
          by_cases hb : numB ((bs.drop i).take 8) < 9223372036854775808
          · rw [if_pos hb, if_neg (by omega)]
          · rw [if_neg hb, if_pos (by omega)]; rfl
        · rw [if_neg h8]
          by_cases hb : 256 ^ m ≤ 2 * numB ((bs.drop i).take m)
          · rw [if_pos ⟨rfl, hb⟩, if_pos hb]
          · rw [if_neg (fun h => hb h.2), if_neg hb]
      have e2 : Hid (getW bs i (m : Int) true = (sgn m (numB ((bs.drop i).take m)), 0, i + m)) := by
        show getW bs i (m : Int) true = _
        unfold getW
        rw [if_pos hw, if_neg hsh, Int.toNat_natCast, hval]
      have c1 := h.c1
      have fz := h.fz 1
      obtain ⟨K, hK⟩ : ∃ K, K = i + m := ⟨_, rfl⟩
      rw [← hK] at e2
      have k1 : (i : Int) + (m : Int) = (K : Int) := by omega
      have k2 : IntKind.i64.wrap (K : Int) = (K : Int) := by rw [IntKind.wrap_i64]; omega
      have k3 : (K : Int) ≤ 9223372036854775807 := by omega
      have HG : Hid (∀ W, Calls Try.prog 34 #[.int .i64 (m : Int), .int .u64 (numB ((bs.drop i).take m) : Int)] W fun e w' => e = .returned (.int .i64 (sgn m (numB ((bs.drop i).take m)))) ∧ w' = W) := fun W => dwithSign_any W m _ hm hpow
      clear e1 h keep hw hval hpow hll hK
      generalize sgn m (numB ((bs.drop i).take m)) = R at *
      generalize numB ((bs.drop i).take m) = N at *
      go_enter Try.func13, Try.ntmps13
      go_wp2_with fail
      refine (unhide HK).mono ?_
      rintro e w1 ⟨rfl, q, rfl⟩
      clear HK
      go_wp2_with fail
      refine (unhide HG _).mono ?_
      rintro e w2 ⟨rfl, rfl⟩
      clear HG
      go_wp2
      go_ret2
      rw [unhide e2]
      exact ⟨rfl, rd_moved (unhide HS) q K⟩
  · have e1 : lookR bs i k = (0, 2) := by unfold lookR; rw [if_neg hw]
    have e2 : Hid (getW bs i k true = (0, 2, i)) := by
      show getW bs i k true = _
      unfold getW
      rw [if_neg hw]
    rw [e1] at HK
    have KP := hide keep
    clear e1 h keep hw
    go_enter Try.func13, Try.ntmps13
    go_wp2_with fail
    refine (unhide HK).mono ?_
    rintro e w1 ⟨rfl, q, rfl⟩
    go_wp2
    go_ret2
    rw [unhide e2]
    exact ⟨rfl, unhide KP q⟩

set_option maxHeartbeats 1600000 in
theorem dAt_any (F : Nat → Prop) (w : World) (B x : Nat) (bs : List UInt8) (i : Nat) (h : RD F w B x bs i) :
    Calls Try.prog 17 #[.pointer (some ⟨x, 0, none⟩)] w fun e w' => e = .returned (.int .i64 (i : Int)) ∧ Below w.heap.size w w' := by
  obtain ⟨y, c, rfl, h⟩ := h
  have HM := hide (dmade_any w B x y c bs i h)
  have c1 := h.c1
  clear h
  go_enter Try.func17, Try.ntmps17
  go_wp2_with fail
  refine (unhide HM).mono ?_
  rintro e w1 ⟨rfl, e0⟩
  have e0' := e0.symm
  clear e0
  subst e0'
  go_wp2
  go_ret
  exact ⟨rfl, Below.refl _ _⟩

set_option maxHeartbeats 1600000 in
theorem dLeft_any (F : Nat → Prop) (w : World) (B x : Nat) (bs : List UInt8) (i : Nat) (h : RD F w B x bs i) (hi : i ≤ bs.length) (hs : bs.length ≤ 140737488351232) :
    Calls Try.prog 18 #[.pointer (some ⟨x, 0, none⟩)] w fun e w' => e = .returned (.int .i64 ((bs.length : Int) - i)) ∧ Below w.heap.size w w' := by
  obtain ⟨y, c, rfl, h⟩ := h
  have HM := hide (dmade_any w B x y c bs i h)
  have HL := hide (dleft_any w x _ _ c i h.c0 h.c1 hi hs)
  clear h
  go_enter Try.func18, Try.ntmps18
  go_wp2_with fail
  refine (unhide HM).mono ?_
  rintro e w1 ⟨rfl, e0⟩
  have e0' := e0.symm
  clear e0
  subst e0'
  go_wp2_with fail
  refine (unhide HL).mono ?_
  rintro e w1 ⟨rfl, q, rfl⟩
  go_wp2
  go_ret
  exact ⟨rfl, below_drewN (Below.refl _ _) q⟩

set_option maxHeartbeats 3200000 in
theorem dBytes_all (F : Nat → Prop) (w : World) (B x : Nat) (bs : List UInt8) (i : Nat) (n : Int) (h : RD F w B x bs i) (hs : bs.length ≤ 140737488351232) (hi : i ≤ bs.length) (hn : -9223372036854775808 ≤ n ∧ n ≤ 9223372036854775807) :
    Calls Try.prog 14 #[.pointer (some ⟨x, 0, none⟩), .int .i64 n] w fun e w' => ∃ v, e = .returned (.tuple #[v, .int .i64 (takeW bs i n).2.1]) ∧ w'.ownsRow w.heap.size 5 1 v (takeW bs i n).1.length (bv (takeW bs i n).1) ∧ (∃ F', RD F' w' B x bs (takeW bs i n).2.2 ∧ (∀ j, F' j → F j ∨ w.heap.size ≤ j) ∧ ∀ j, v.ownBlock = some j → ¬ F' j) ∧ Fr6 F B w w' ∧ Kx x w w' := by
  obtain ⟨y, c, rfl, h⟩ := h
  have HM := hide (dmade_any w B x y c bs i h)
  have HS := hide h
  have keep : Hid (∀ q, w.ownsRow w.heap.size 5 1 (.slice none 0 0) 0 (bv []) ∧ (∃ F', RD F' (w.drewN q) B x bs i ∧ (∀ j, F' j → (j = x ∨ j = y) ∨ w.heap.size ≤ j) ∧ ∀ j, (Value.slice none 0 0).ownBlock = some j → ¬ F' j) ∧ Fr6 (fun k => k = x ∨ k = y) B w (w.drewN q) ∧ Kx x w (w.drewN q)) := fun q => ⟨World.ownsRow_nil _ _ _ _, ⟨_, ⟨y, c, rfl, h.drewN q⟩, fun j hj => .inl hj, fun j hj => by simp [Value.ownBlock] at hj⟩, Fr6.of_below (below_drewN (Below.refl _ _) q) (Nat.le_trans h.hx (Nat.le_of_lt h.xlt)), kx_drewN _ _ _⟩
  by_cases h0 : n < 0
  · have e1 : Hid (takeW bs i n = ([], 2, i)) := by
      show takeW bs i n = _
      unfold takeW
      rw [if_pos h0]
    clear h HS
    go_enter Try.func14, Try.ntmps14
    go_wp2_with fail
    refine (unhide HM).mono ?_
    rintro e w1 ⟨rfl, e0⟩
    have e0' := e0.symm
    clear e0
    subst e0'
    go_wp2
    go_ret2
    rw [unhide e1]
    exact ⟨_, rfl, (unhide keep 0).1, (unhide keep 0).2⟩
  have HL := hide (dleft_any w x _ _ c i h.c0 h.c1 hi hs)
  by_cases hsh : (bs.length : Int) - i < n
  · have e1 : Hid (takeW bs i n = ([], 7, i)) := by
      show takeW bs i n = _
      unfold takeW
      rw [if_neg h0, if_pos hsh]
    clear h HS
    generalize hnl : bs.length = N at *
    clear hnl
    go_enter Try.func14, Try.ntmps14
    go_wp2_with fail
    refine (unhide HM).mono ?_
    rintro e w1 ⟨rfl, e0⟩
    have e0' := e0.symm
    clear e0
    subst e0'
    go_wp2_with fail
    refine (unhide HL).mono ?_
    rintro e w1 ⟨rfl, q, rfl⟩
    go_wp2
    go_ret2
    rw [unhide e1]
    exact ⟨_, rfl, (unhide keep q).1, (unhide keep q).2⟩
  · obtain ⟨m, rfl⟩ : ∃ m : Nat, n = m := ⟨n.toNat, by omega⟩
    obtain ⟨K, hK⟩ : ∃ K, K = i + m := ⟨_, rfl⟩
    have e1 : Hid (takeW bs i (m : Int) = ((bs.take K).drop i, 0, K)) := by
      show takeW bs i (m : Int) = _
      unfold takeW
      rw [if_neg h0, if_neg hsh, Int.toNat_natCast, hK, List.take_drop]
    have hcap := own_cap h.row
    have hbs := sub_bs (arg_of_own rfl h.row) i K (by omega) (by omega)
    have hKm : K - i = m := by omega
    rw [hKm] at hbs
    obtain ⟨ad, had⟩ : ∃ ad, (if c = i then some (⟨y, 0, none⟩ : Addr) else Option.map (fun x => x.add i) (some (⟨y, 0, none⟩ : Addr))) = some ad := by
      split
      · exact ⟨_, rfl⟩
      · exact ⟨_, rfl⟩
    rw [had] at hbs
    have HLL : Hid (((bs.take K).drop i).length = m) := hbs.1
    have HN : Hid (∀ j, Calls Try.prog 38 #[.pointer (some ⟨x, 0, none⟩), .int .i64 (m : Int)] (w.drewN j) fun e w' => e = .returned (.slice (some ad) m (c - i)) ∧ ∃ k, w' = (w.drewN j).drewN k) := fun j => by
      have := dnext_any (w.drewN j) x _ _ c i m (h.drewN j).c0 (h.drewN j).c1 (by omega) hcap.1 hcap.2
      rw [had] at this
      exact this
    have HC : Hid (∀ j, Calls Try.prog 37 #[.slice (some ad) m (c - i)] (w.drewN j) fun e w' => ∃ g d, e = .returned (.slice (some ⟨g, 0, none⟩) m d) ∧ w'.ownsRow w.heap.size 5 1 (.slice (some ⟨g, 0, none⟩) m d) m (bv ((bs.take K).drop i)) ∧ Below w.heap.size (w.drewN j) w') := fun j => bClone_any (w.drewN j) ad m (c - i) _ (hbs.below (below_drewN (Below.refl _ _) j)) (by omega)
    have k1 : (i : Int) + (m : Int) = (K : Int) := by omega
    have k2 : IntKind.i64.wrap (K : Int) = (K : Int) := by rw [IntKind.wrap_i64]; omega
    have k3 : (K : Int) ≤ 9223372036854775807 := by omega
    clear h hbs hcap had hK hKm
    generalize (bs.take K).drop i = l at *
    generalize hnl : bs.length = N at *
    clear hnl
    go_enter Try.func14, Try.ntmps14
    go_wp2_with fail
    refine (unhide HM).mono ?_
    rintro e w1 ⟨rfl, e0⟩
    have e0' := e0.symm
    clear e0
    subst e0'
    go_wp2_with fail
    refine (unhide HL).mono ?_
    rintro e w1 ⟨rfl, q, rfl⟩
    have HN1 := hide (unhide HN q)
    clear HM HL HN
    go_wp2_with fail
    refine (unhide HN1).mono ?_
    rintro e w2 ⟨rfl, q2, rfl⟩
    clear HN1
    rw [World.drewN_drewN]
    go_wp2_with fail
    refine (unhide HC _).mono ?_
    rintro e w3 ⟨g, d, rfl, o3, f3⟩
    have f3' : Below w.heap.size w w3 := (below_drewN (Below.refl _ _) _).trans f3
    have h3 := (unhide HS).below f3'
    have hgl := o3.lt g rfl
    have hxl := (unhide HS).xlt
    have hyl := (unhide HS).y.2
    have d1 := h3.c1
    have fz := h3.fz 1
    have hmv := h3.move K
    have HEND : Hid ((w3.setCell ⟨x, 1, none⟩ (.int .i64 (K : Int))).ownsRow w.heap.size 5 1 (.slice (some ⟨g, 0, none⟩) m d) m (bv l) ∧ (∃ F', RD F' (w3.setCell ⟨x, 1, none⟩ (.int .i64 (K : Int))) B x bs K ∧ (∀ j, F' j → (j = x ∨ j = y) ∨ w.heap.size ≤ j) ∧ ∀ j, (Value.slice (some ⟨g, 0, none⟩) m d).ownBlock = some j → ¬ F' j) ∧ Fr6 (fun k => k = x ∨ k = y) B w (w3.setCell ⟨x, 1, none⟩ (.int .i64 (K : Int))) ∧ Kx x w (w3.setCell ⟨x, 1, none⟩ (.int .i64 (K : Int)))) := by
      have hgx : g ≠ x := by omega
      refine ⟨own_of_block o3 (fun k hk => ?_), ⟨_, ⟨y, c, rfl, hmv⟩, fun j hj => .inl hj, fun j hj => ?_⟩, ⟨(f3'.mono (Nat.le_trans (unhide HS).hx (Nat.le_of_lt hxl))).setCell (p := ⟨x, 1, none⟩) (unhide HS).hx _, fun k hk hF => ?_⟩, fun k hk hF => (Below.heap_setCell _ _ _ _ hF).trans (f3'.block k hk)⟩
      · simp [Value.ownBlock] at hk
        subst hk
        exact Below.heap_setCell _ _ _ _ hgx
      · simp [Value.ownBlock] at hj
        subst hj
        rintro (e | e) <;> omega
      · exact (Below.heap_setCell _ _ _ _ (fun e => hF (.inl e))).trans (f3'.block k hk)
    clear HC o3 f3 f3' h3 hgl hxl hyl hmv HS keep
    go_wp2
    go_ret2
    rw [unhide e1]
    have hE := unhide HEND
    refine ⟨_, rfl, ?_, hE.2⟩
    show World.ownsRow _ _ _ _ _ l.length (bv l)
    rw [unhide HLL]
    exact hE.1

theorem dU_any (F : Nat → Prop) (w : World) (B x : Nat) (bs : List UInt8) (i : Nat) (k : Int) (h : RD F w B x bs i) (hs : bs.length ≤ 140737488351232) (hi : i ≤ bs.length) (hk : -9223372036854775808 ≤ k ∧ k ≤ 9223372036854775807) :
    Calls Try.prog 11 #[.pointer (some ⟨x, 0, none⟩), .int .i64 k] w fun e w' => e = .returned (.tuple #[.int .i64 (getW bs i k false).1, .int .i64 (getW bs i k false).2.1]) ∧ (∃ F', RD F' w' B x bs (getW bs i k false).2.2 ∧ ∀ j, F' j → F j ∨ w.heap.size ≤ j) ∧ Fr6 F B w w' :=
  (dU_all F w B x bs i k h hs hi hk).mono fun e w' h => ⟨h.1, h.2.1, h.2.2.1⟩
theorem dS_any (F : Nat → Prop) (w : World) (B x : Nat) (bs : List UInt8) (i : Nat) (k : Int) (h : RD F w B x bs i) (hs : bs.length ≤ 140737488351232) (hi : i ≤ bs.length) (hk : -9223372036854775808 ≤ k ∧ k ≤ 9223372036854775807) :
    Calls Try.prog 13 #[.pointer (some ⟨x, 0, none⟩), .int .i64 k] w fun e w' => e = .returned (.tuple #[.int .i64 (getW bs i k true).1, .int .i64 (getW bs i k true).2.1]) ∧ (∃ F', RD F' w' B x bs (getW bs i k true).2.2 ∧ ∀ j, F' j → F j ∨ w.heap.size ≤ j) ∧ Fr6 F B w w' :=
  (dS_all F w B x bs i k h hs hi hk).mono fun e w' h => ⟨h.1, h.2.1, h.2.2.1⟩
theorem dBytes_any (F : Nat → Prop) (w : World) (B x : Nat) (bs : List UInt8) (i : Nat) (n : Int) (h : RD F w B x bs i) (hs : bs.length ≤ 140737488351232) (hi : i ≤ bs.length) (hn : -9223372036854775808 ≤ n ∧ n ≤ 9223372036854775807) :
    Calls Try.prog 14 #[.pointer (some ⟨x, 0, none⟩), .int .i64 n] w fun e w' => ∃ v, e = .returned (.tuple #[v, .int .i64 (takeW bs i n).2.1]) ∧ w'.ownsRow w.heap.size 5 1 v (takeW bs i n).1.length (bv (takeW bs i n).1) ∧ (∃ F', RD F' w' B x bs (takeW bs i n).2.2 ∧ (∀ j, F' j → F j ∨ w.heap.size ≤ j) ∧ ∀ j, v.ownBlock = some j → ¬ F' j) ∧ Fr6 F B w w' :=
  (dBytes_all F w B x bs i n h hs hi hn).mono fun e w' ⟨v, h1, h2, h3, h4, _⟩ => ⟨v, h1, h2, h3, h4⟩
end Go.Proofs.Ytkmcpedhcdgnoaa
