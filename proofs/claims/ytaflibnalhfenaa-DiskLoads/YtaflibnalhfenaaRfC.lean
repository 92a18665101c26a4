/- The contract of the document's own Load, as far as DiskLoads asks it. -/
import Derived.Test.YtaflibnalhfenaaRfB
namespace Go.Proofs.Ytaflibnalhfenaa
open Go.RowKit
set_option linter.unusedVariables false

set_option maxRecDepth 100000 in
set_option maxHeartbeats 400000 in
theorem rLoad_odd (w : World) (a : Option Addr) (n c : Nat) (h : n % 256 ≠ 0) (hn : n ≤ 9223372036854775807) :
    Calls Try.prog 36 #[.slice a n c] w fun e w' => e = .returned (.tuple #[.pointer none, .int .i64 2]) ∧ w' = w := by
  have hb : (((n % 256 : Nat) : Int) != 0) = true := by rw [bne_iff_ne]; omega
  go_enter Try.func36, Try.ntmps36
  go_wp2
  go_ret2
  exact ⟨rfl, rfl⟩

set_option maxRecDepth 100000 in
set_option maxHeartbeats 400000 in
theorem rLoad_bad (w : World) (a : Option Addr) (n c : Nat) (h : n % 256 = 0) (hn : n ≤ 9223372036854775807) (hm : n / 256 < 1 ∨ 4096 < n / 256) :
    Calls Try.prog 36 #[.slice a n c] w fun e w' => e = .returned (.tuple #[.pointer none, .int .i64 2]) ∧ w' = w := by
  have hb : ((n : Int) % 256 != 0) = false := by rw [bne_eq_false_iff_eq]; omega
  have H := hide (rMake_bad ((n : Int) / 256) w (by omega))
  clear hm h
  go_enter Try.func36, Try.ntmps36
  go_wp2_with fail
  refine (unhide H).mono ?_
  rintro e w1 ⟨rfl, rfl⟩
  go_wp2
  go_ret2
  exact ⟨rfl, rfl⟩

structure QRel (w : World) (B p : Nat) (v : Value) (m : Nat) (wr : World) : Prop where
  blk : wr.heap[p]? = some (.cells #[v, .int .i64 0, .int .i64 (-1), .bool false] 52 (0, 0))
  own : ∃ vals, wr.ownsRow B 68 1 v m vals
  fr : Below B w wr

theorem QRel.store {w wr : World} {B p q m cap k : Nat} {X : Obj} {u : Value} (h : QRel w B p (.slice (some ⟨q, 0, none⟩) m cap) m wr) (hB : B ≤ wr.heap.size) : QRel w B p (.slice (some ⟨q, 0, none⟩) m cap) m ((wr.alloc X).setCell ⟨q, k, none⟩ u).drew := by
  obtain ⟨vals, ho⟩ := h.own
  have hlt := ho.lt q rfl
  have hqp : p ≠ q := by
    intro e; subst e
    rcases ho.2 with ⟨e1, _⟩ | ⟨q', cap', cur, e1, _, hq, _⟩
    · cases e1
    · injection e1 with e2; injection e2 with e2; injection e2 with e2
      subst e2
      have := h.blk.symm.trans hq
      simp at this
  refine ⟨?_, ?_, ((h.fr.alloc hB X).setCell hlt.1 u).drew⟩
  · show ((wr.alloc X).setCell ⟨q, k, none⟩ u).heap[p]? = _
    rw [Below.heap_setCell _ _ _ _ hqp, Below.heap_alloc _ _ _ (lt_of_heap h.blk)]
    exact h.blk
  · rcases ho.2 with ⟨e1, _⟩ | ⟨q', cap', cur, e1, h1, hq, h2, h3, h4, h5⟩
    · cases e1
    · injection e1 with e2 _ e3; injection e2 with e2; injection e2 with e2
      subst e2; subst e3
      have hq1 : (wr.alloc X).heap[q]? = some (.cells cur 68 (0, 0)) := (Below.heap_alloc _ _ _ (lt_of_heap hq)).trans hq
      refine ⟨(cur.setIfInBounds k u).toList.take (m * 1), ?_, .inr ⟨q, cap, cur.setIfInBounds k u, rfl, h1, heap_setCell_same _ q k cur _ u hq1, h2, h3, by simpa using h4, rfl⟩⟩
      simp
      omega

set_option maxHeartbeats 800000 in
set_option maxRecDepth 100000 in
theorem rLoad_ok (w : World) (b o n c m : Nat) (l : List UInt8) (hl : l.length = n) (hc : n ≤ c) (hc' : c ≤ 9223372036854775807) (hB : BytesAt w (some ⟨b, o, none⟩) l) (hnm : n = m * 256) (h1 : 1 ≤ m) (h2 : m ≤ 4096) (hbw : b < w.heap.size) :
    Calls Try.prog 36 #[.slice (some ⟨b, o, none⟩) n c] w fun e w' => e = .returned (.tuple #[.pointer (some ⟨w.heap.size, 0, none⟩), .int .i64 0]) ∧ Below w.heap.size w w' := by
  have hb : ((n : Int) % 256 != 0) = false := by rw [bne_eq_false_iff_eq]; omega
  have HD := hide (show ((n : Int) / 256) = (m : Int) by omega)
  have HNM := hide hnm
  have HL := hide hl
  have HBY := hide hB
  clear hnm hl hB
  go_enter Try.func36, Try.ntmps36
  go_wp2_with fail
  rw [unhide HD]
  refine (rMake_ok m _ h1 h2).mono ?_
  rintro e w1 ⟨rfl, ⟨v, vals, d1, _⟩, b1⟩
  have hown := d1.own
  have hVl : (RDk.fresh m).V.length = m := by simp [RDk.fresh]
  rw [hVl] at hown
  obtain ⟨q, cap, rfl, -, -⟩ := hown.form (by omega)
  have R0 : QRel w w.heap.size w.heap.size (.slice (some ⟨q, 0, none⟩) m cap) m w1 := ⟨d1.blk, ⟨vals, hown⟩, b1⟩
  clear d1 b1 hVl hown
  go_wp2
  go_loopw [6] (fun i wr => ∃ k : Nat, k ≤ m ∧ i = .int .i64 k ∧ QRel w w.heap.size w.heap.size (.slice (some ⟨q, 0, none⟩) m cap) m wr) (fun i _ => m - (intOf i).toNat)
  case atStart => exact ⟨0, by omega, rfl, R0⟩
  case round =>
    clear R0
    obtain ⟨k, hk, rfl, hR⟩ := hrel
    have cr : wr.cell? ⟨w.heap.size, 0, none⟩ = some (.slice (some ⟨q, 0, none⟩) m cap) := by rw [cell_of_row _ _ _ _ _ _ hR.blk]; rfl
    by_cases hlt : k < m
    · have hcv := conv_bytes wr.drew (some ⟨b, o + k * 256, none⟩) (seg l k) (c - k * 256) (by
        refine ⟨(fun e => by cases e), fun ad e j u hu => ?_⟩
        injection e with e
        subst e
        rw [Addr.add_mid]
        have e : bv (seg l k) = ((bv l).drop (k * 256)).take 256 := by simp [bv, seg]
        rw [e, List.getElem?_take] at hu
        split at hu
        · rw [List.getElem?_drop] at hu
          have := (unhide HBY).2 _ rfl (k * 256 + j) u hu
          rw [Addr.add_mid, ← Nat.add_assoc] at this
          exact (hR.fr.cell (p := ⟨b, o + k * 256 + j, none⟩) hbw).trans this
        · cases hu)
      rw [seg_len l m k ((unhide HL).trans (unhide HNM)) hlt] at hcv
      obtain ⟨vals, ho⟩ := hR.own
      obtain ⟨u0, hu0, hf0⟩ : ∃ u, wr.cell? ⟨q, k, none⟩ = some u ∧ wr.frozen? ⟨q, k, none⟩ = false := by
        rcases ho.2 with ⟨e1, _⟩ | ⟨q', cap', cur, e1, _, hq, h3, _, h5, _⟩
        · cases e1
        · injection e1 with e2 _ e3; injection e2 with e2; injection e2 with e2
          subst e2; subst e3
          exact ⟨cur[k]'(by omega), by rw [cell_of_row _ _ _ _ _ _ hq, Array.getElem?_eq_getElem (by omega)], frozen_of_row _ _ _ _ _ hq⟩
      have hql := World.block_lt_of_cell? wr _ hu0
      have g1 := cell_alloc cr (.cells #[str (seg l k)] 9)
      have g2 := cell_alloc hu0 (.cells #[str (seg l k)] 9)
      have g3 : (wr.alloc (.cells #[str (seg l k)] 9)).frozen? ⟨q, k, none⟩ = false := by rw [World.frozen?_alloc_past _ _ _ hql]; exact hf0
      have HN : Hid (QRel w w.heap.size w.heap.size (.slice (some ⟨q, 0, none⟩) m cap) m ((wr.setCell ⟨q, k, none⟩ (.slice (some ⟨wr.heap.size, 0, none⟩) 1 1)).alloc (.cells #[str (seg l k)] 9)).drew) := by
        have := hR.store (k := k) (X := .cells #[str (seg l k)] 9) (u := .slice (some ⟨wr.heap.size, 0, none⟩) 1 1) hR.fr.size
        rw [World.setCell_alloc_past _ _ _ _ hql] at this
        exact this
      have hl2 : 0 ≤ ((k : Int) + 1) * 256 := by omega
      have hl3 : (k : Int) * 256 ≤ (k : Int) * 256 + 256 := by omega
      have hkm : (k : Int) < m := by omega
      clear ho hR
      have hkc : k * 256 + 256 ≤ n := by have := unhide HNM; omega
      have hwr : IntKind.i64.wrap ((k : Int) * 256) = (k : Int) * 256 := by rw [IntKind.wrap_i64]; omega
      have hwr1 : IntKind.i64.wrap ((k : Int) + 1) = (k : Int) + 1 := by rw [IntKind.wrap_i64]; omega
      have hwr2 : IntKind.i64.wrap (((k : Int) + 1) * 256) = ((k : Int) + 1) * 256 := by rw [IntKind.wrap_i64]; omega
      have hl0 : 0 ≤ (k : Int) * 256 := by omega
      have hl1 : (k : Int) * 256 ≤ ((k : Int) + 1) * 256 := by omega
      have hle : ((k : Int) + 1) * 256 ≤ (c : Int) := by omega
      have hto : ((k : Int) * 256).toNat = k * 256 := by omega
      have hto2 : (((k : Int) + 1) * 256).toNat = k * 256 + 256 := by omega
      have hcne : ¬ c = k * 256 := by omega
      generalize seg l k = sg at *
      go_wp2
      go_region_law (fail)
      all_goals
        clear hcv g1 g2 g3 hu0 hf0 hwr hwr1 hwr2 hl0 hl1 hle hto hto2 hcne hl2 hl3 cr
        go_wp2
        go_roundw
        case rel => exact ⟨k + 1, by omega, by go_num, unhide HN⟩
        case measure => simp [intOf]; omega
    · have hk' : k = m := by omega
      subst hk'
      have HR := hide hR.fr
      clear hR
      go_wp2
      go_ret2
      exact ⟨rfl, unhide HR⟩

end Go.Proofs.Ytaflibnalhfenaa
