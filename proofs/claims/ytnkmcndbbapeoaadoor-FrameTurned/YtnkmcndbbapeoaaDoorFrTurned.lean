/- The walk of FrameTurned. -/
import Derived.Test.YtnkmcndbbapeoaaDoorFrReads
import Derived.Deep.RegionLawGrows
namespace Go.Proofs.YtnkmcndbbapeoaaDoor
open Go.RowKit
set_option linter.unusedVariables false

theorem gWrite {T : World → Prop} (F : Frames T) {w W : World} {r : Rec} (hT : T w) (f : Below w.heap.size w W) (hr : recFit r) :
    Calls Tryd.prog 11 #[recV r] W fun e w' => ∃ a1 c1, e = .returned (.tuple #[.slice a1 (writeL r).length c1, .int .i64 (writeE r)]) ∧ w'.ownsRow W.heap.size 5 1 (.slice a1 (writeL r).length c1) (writeL r).length (bv (writeL r)) ∧ Below w.heap.size w w' ∧ Below W.heap.size W w' := by
  refine (F.write W r (F.below _ _ hT f) hr).mono ?_
  rintro e w' ⟨v, rfl, o, f'⟩
  obtain ⟨a1, c1, rfl, _⟩ := own_form o
  exact ⟨a1, c1, rfl, o, f.trans (f'.mono f.size), f'⟩
theorem first_bad {l : List UInt8} (h : firstE l = 30) : firstQ l = rec0 ∧ firstN l = 0 ∧ scanL l 0 = ([], 0) := by
  refine ⟨by unfold firstQ; rw [if_neg (by rw [h]; decide)], by unfold firstN; rw [if_neg (by rw [h]; decide)], scan_no ?_⟩
  rintro ⟨h0, _⟩
  rw [h] at h0
  exact absurd h0 (by decide)

set_option maxHeartbeats 3200000 in
set_option maxRecDepth 100000 in
theorem turned_walk {T : World → Prop} (F : Frames T) (w : World) (r : Rec) (at_ : Int) (x : UInt8) (hT : T w) (hr : recFit r) :
    Calls Tryd.prog 6 #[recV r, .int .i64 at_, .int .u8 (x.toNat : Int)] w fun e w' => e = .returned (.bool true) ∧ Below w.heap.size w w' := by
  have HT := hide hT
  have HR := hide hr
  have f0 : Below w.heap.size w (w.alloc (.cells #[.int .i64 r.epoch, .string ⟨r.data.toArray⟩] 24)) := (Below.refl _ _).alloc (Nat.le_refl _) _
  have hx0 := heap_alloc_last w (.cells #[.int .i64 r.epoch, .string ⟨r.data.toArray⟩] 24)
  have H0 := hide (gWorks3 F hT f0)
  have HX0 := hide hx0
  unfold recV
  clear hT hr f0 hx0
  go_enter Tryd.func6, Tryd.ntmps6
  go_wp2_with fail
  refine (unhide H0).mono ?_
  rintro e w1 ⟨rfl, f1, b1⟩
  have x1 : w1.heap[w.heap.size]? = some (.cells #[.int .i64 r.epoch, .string ⟨r.data.toArray⟩] 24) := (b1.block _ (lt_of_heap (unhide HX0))).trans (unhide HX0)
  have c0 : w1.cell? ⟨w.heap.size, 0, none⟩ = some (.int .i64 r.epoch) := by rw [cell_of_row _ _ _ _ _ _ x1]; rfl
  have c1 : w1.cell? ⟨w.heap.size, 1, none⟩ = some (.string ⟨r.data.toArray⟩) := by rw [cell_of_row _ _ _ _ _ _ x1]; rfl
  have H1 := gWrite F (unhide HT) f1 (unhide HR)
  unfold recV at H1
  have H1 := hide H1
  have hw1 := writeL_len r
  have HW : Hid (writeE r ≠ 0 → writeL r = []) := fun h => by unfold writeL; rw [if_neg h]
  have HK : Hid (writeE r = 0 → writeL r = recL r ∧ recOk r) := fun h => ⟨writeL_ok h, writeE_ok.1 h⟩
  have F1 := hide f1
  clear f1 b1 x1 H0 HX0
  go_wp2_with fail
  refine (unhide H1).mono ?_
  rintro e w2 ⟨a2, c2, rfl, o2, f2, _⟩
  have O2 := hide o2
  have F2 := hide f2
  clear o2 f2 H1 c0 c1
  generalize hwe : writeE r = we at *
  by_cases h0 : we = 0
  · subst h0
    obtain ⟨hwl, hok⟩ := unhide HK rfl
    by_cases hx : x = 0
    · subst hx
      go_wp2
      go_ret
      exact ⟨rfl, unhide F2⟩
    · have hxn : ¬ ((x.toNat : Int) = 0) := by
        intro h
        apply hx
        have : x.toNat = 0 := by omega
        exact UInt8.toNat_inj.1 this
      have hlen := rec_len r
      rw [hwl] at O2 hw1
      rw [hwl]
      obtain ⟨M, hM⟩ : ∃ M, (recL r).length = M := ⟨_, rfl⟩
      obtain ⟨N, hN⟩ : ∃ N, M - 4 = N := ⟨_, rfl⟩
      rw [hM] at O2 hw1 ⊢
      have hN1 : (M : Int) - 4 = (N : Int) := by omega
      have hN2 : 1 ≤ N := by omega
      have hm := among_lt at_ N hN2
      have H3 := hide (Among_any w2 at_ N hN2 (by omega))
      generalize among at_ N = m at *
      obtain ⟨k, hk⟩ : ∃ k, 4 + m = k := ⟨_, rfl⟩
      have hk1 : (4 : Int) + (m : Int) = (k : Int) := by omega
      have hk2 : (k : Int) < (M : Int) := by omega
      obtain ⟨q, hq, hqb, hcell, hblk⟩ := own_some (unhide F1).size (unhide O2) (by omega)
      subst hq
      obtain ⟨y, hy⟩ : ∃ y, (recL r)[k]? = some y := ⟨_, List.getElem?_eq_getElem (by omega)⟩
      have kc := (hcell k y hy).1
      have kf := (hcell k y hy).2
      obtain ⟨v, hv⟩ : ∃ v : UInt8, v = y ^^^ x := ⟨_, rfl⟩
      have hval : bits .xor .u8 (y.toNat : Int) (x.toNat : Int) = (v.toNat : Int) := by rw [hv, u8_xor_nat _ _ (u8_lt y) (u8_lt x), UInt8.toNat_xor]
      have f5 : Below w.heap.size w (w2.setCell ⟨q, k, none⟩ (.int .u8 (v.toNat : Int))) := (unhide F2).setCell (p := ⟨q, k, none⟩) hqb _
      have A5 := hblk k v
      have e1 := first_turned r hok k (by omega) (by omega) x hx
      rw [hv, turn1_set hy, ← hv] at A5
      obtain ⟨e2, e3, e4⟩ := first_bad e1
      have H5 := gFirst F (unhide HT) f5 A5 (by omega)
      rw [e1, e2, e3] at H5
      unfold recV rec0 at H5
      have H5 := hide H5
      have HA5 := hide A5
      have HF5 := hide f5
      have HE4 := hide e4
      clear hcell hblk O2 hv A5 f5 e1 e2 e3 e4 hwl hM hN hk hy
      generalize turn1 (recL r) k x = tl at *
      go_wp2_with fail
      refine (unhide H3).mono ?_
      rintro e w3 ⟨rfl, rfl⟩
      go_wp2_with fail
      refine (unhide H5).mono ?_
      rintro e w4 ⟨rfl, f4, b4⟩
      have f4' : Below w.heap.size w (w4.alloc (.cells #[.int .i64 0, .string ⟨#[]⟩] 24)) := f4.alloc f4.size _
      have b4' : Below (w3.setCell ⟨q, k, none⟩ (.int .u8 (v.toNat : Int))).heap.size (w3.setCell ⟨q, k, none⟩ (.int .u8 (v.toNat : Int))) (w4.alloc (.cells #[.int .i64 0, .string ⟨#[]⟩] 24)) := b4.alloc b4.size _
      have H6 := gScan F (unhide HT) f4' ((unhide HA5).below b4') (by omega)
      rw [unhide HE4] at H6
      have H6 := hide H6
      have HX4 := hide (heap_alloc_last w4 (.cells #[.int .i64 0, .string ⟨#[]⟩] 24))
      clear f4 b4 f4' b4' H5 HA5 HE4 HF5 kc kf
      go_wp2_with fail
      refine (unhide H6).mono ?_
      rintro e w6 ⟨a6, c6, rfl, _, _, f6, b6⟩
      have x6 : w6.heap[w4.heap.size]? = some (.cells #[.int .i64 0, .string ⟨#[]⟩] 24) := (b6.block _ (lt_of_heap (unhide HX4))).trans (unhide HX4)
      have p0 : w6.cell? ⟨w4.heap.size, 0, none⟩ = some (.int .i64 0) := by rw [cell_of_row _ _ _ _ _ _ x6]; rfl
      have p1 : w6.cell? ⟨w4.heap.size, 1, none⟩ = some (.string ⟨#[]⟩) := by rw [cell_of_row _ _ _ _ _ _ x6]; rfl
      have F6 := hide f6
      clear f6 b6 x6 H6 HX4
      go_wp2
      go_ret
      exact ⟨rfl, unhide F6⟩
  · have hwl := unhide HW h0
    rw [hwl] at O2
    go_wp2
    go_ret
    exact ⟨rfl, unhide F2⟩

end Go.Proofs.YtnkmcndbbapeoaaDoor
