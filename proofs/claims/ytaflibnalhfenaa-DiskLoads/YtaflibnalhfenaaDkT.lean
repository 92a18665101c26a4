/- The contract of Load. -/
import Derived.Test.YtaflibnalhfenaaDkS
import Derived.Deep.RegionLaw
namespace Go.Proofs.Ytaflibnalhfenaa
open Go.RowKit
set_option linter.unusedVariables false

theorem step_copy_cells {ops : Array Oper} {o : Oper} {a : Act} {w : World} {K : Act → World → Prop} {Q : Exit → Act → World → Prop} {E : Prop} (hgd : o.guard = none) (d s : Operand)
    (ho : o.op = .call { callee := .builtin .copy, args := #[d, s], argTypes := #[37, 37] }) (b off dLen dCap : Nat) (ad : Addr) (sLen sCap : Nat) (hd : a.eval d = .slice (some ⟨b, off, none⟩) dLen dCap) (hs : a.eval s = .slice (some ad) sLen sCap)
    (cs : List Value) (hn : cs.length = Nat.min sLen dLen) (hsrc : ∀ j v, cs[j]? = some v → w.cell? (ad.add j) = some v) (ht : w.there b off cs.length) (h1 : ∀ v ∈ cs, v.oneCell' = true)
    (h : K (a.put o.dst (goInt cs.length)) (w.setCells b off cs)) : if Region.wanted o (yielded ops a.tmps) = true then Oper.wp Try.prog o a w K Q else E := by
  have hw : Region.wanted o (yielded ops a.tmps) = true := by simp [Region.wanted, hgd]
  rw [if_pos hw]
  have hrun := run_copy_cells (P := Try.prog) w 37 37 o.type 5 b off dLen dCap ad sLen sCap cs Try.underlying37 (by kernel_rfl) hn hsrc (fun j hj => (ht j hj).1) (fun j hj => (ht j hj).2) h1
  unfold Oper.wp
  simp [execOp, ho, resolve, invoke, builtin, hd, hs, hrun, Result.andThen]
  exact h

def seg (l : List UInt8) (i : Nat) : List UInt8 := (l.drop (i * 256)).take 256
def Dk.loadedTo (l : List UInt8) (m k : Nat) : Dk := ⟨(List.range m).map (fun i => if i < k then ⟨seg l i, []⟩ else ⟨nought, []⟩), 0, -1, false⟩
theorem loadedTo_zero (l : List UInt8) (m : Nat) : Dk.loadedTo l m 0 = Dk.fresh m := by
  unfold Dk.loadedTo Dk.fresh
  have : ((List.range m).map fun i => if i < 0 then (⟨seg l i, []⟩ : Sec) else ⟨nought, []⟩) = List.replicate m ⟨nought, []⟩ := by
    simp [List.map_const']
  rw [this]
theorem loadedTo_succ (l : List UInt8) (m k : Nat) (hk : k < m) : (Dk.loadedTo l m k).put k ⟨seg l k, []⟩ = Dk.loadedTo l m (k + 1) := by
  unfold Dk.loadedTo Dk.put
  have : ((List.range m).map fun i => if i < k then (⟨seg l i, []⟩ : Sec) else ⟨nought, []⟩).set k ⟨seg l k, []⟩ = (List.range m).map fun i => if i < k + 1 then (⟨seg l i, []⟩ : Sec) else ⟨nought, []⟩ := by
    apply List.ext_getElem?
    intro i
    rw [List.getElem?_set, List.getElem?_map, List.getElem?_map]
    by_cases hi : i < m
    · rw [List.getElem?_range hi]
      by_cases e : k = i
      · subst e; simp [hk]
      · simp only [if_neg e, Option.map_some]
        by_cases h2 : i < k
        · simp [h2, show i < k + 1 by omega]
        · simp [h2, show ¬ i < k + 1 by omega]
    · have : k ≠ i := by omega
      simp [this, hi]
  simp only [this]
theorem loadedTo_get (l : List UInt8) (m k i : Nat) (hi : i < m) : (Dk.loadedTo l m k).secs[i]? = some (if i < k then ⟨seg l i, []⟩ else ⟨nought, []⟩) := by
  simp [Dk.loadedTo, hi]
theorem loadedTo_len (l : List UInt8) (m k : Nat) : (Dk.loadedTo l m k).secs.length = m := by simp [Dk.loadedTo]

theorem IsDisk.sured {w : World} {B p g : Nat} {vs : Nat → Value} {D : Dk} (h : IsDisk w B p g vs D) (i : Nat) (s : Sec) (hi : D.secs[i]? = some s) (x : List UInt8) (hx : x.length = 256) :
    IsDisk (w.setCells g (i * 257 + 1) (bv x)) B p g vs (D.put i ⟨x, s.wait⟩) ∧ Fr B w (w.setCells g (i * 257 + 1) (bv x)) := by
  have hil := (List.getElem?_eq_some_iff.1 hi).1
  obtain ⟨lp, lg, lk⟩ := h.lt
  obtain ⟨k1, k2⟩ := h.kinds
  have hs := h.sec i s hi
  obtain ⟨cur, hcur, hcs⟩ := h.row
  have hl : (bv x).length = 256 := by rw [bv_length]; exact hx
  obtain ⟨cur1, hc1, hz1⟩ := heap_setCells g 77 (bv x) (i * 257 + 1) _ cur hcur
  have hsize : (w.setCells g (i * 257 + 1) (bv x)).heap.size = w.heap.size := size_setCells _ _ _ _
  have hother : ∀ j, j ≠ g → (w.setCells g (i * 257 + 1) (bv x)).heap[j]? = w.heap[j]? := fun j hj => heap_setCells_other _ _ _ _ _ hj
  have ht : w.there g (i * 257 + 1) (bv x).length := there_of_block hcur _ _ (by omega)
  have e : upd vs i (vs i) = vs := by funext j; unfold upd; split <;> simp_all
  have := h.sector i hil (vs i) ⟨x, s.wait⟩ (w' := w.setCells g (i * 257 + 1) (bv x)) (hother p k1) (Nat.le_of_eq hsize.symm) ⟨cur1, hc1, by rw [hz1]; exact hcs⟩
    (fun o ho => cell_setCells_out _ _ _ _ _ (side_of hl ho)) (fun j q hj hji hq => hother q (k2 j q hj hq).2) ?_ ?_
  · rw [e] at this
    refine ⟨this, ⟨⟨(setCells_os g _ _ _).1, (setCells_os g _ _ _).2.1, (setCells_os g _ _ _).2.2, Nat.le_of_eq hsize.symm, fun k hk => hother k (by have := h.bg; omega)⟩, ?_⟩⟩
    intro k c e0 f hk h1 h2 h3
    refine hother k (fun e1 => ?_)
    subst e1
    have := hcur.symm.trans hk
    simp at this
    exact h3 this.2.1.symm
  · intro j q hj hji hq e1
    rcases h.apart i j hil hj (fun e2 => hji e2.symm) with h0 | h0
    · rw [h0] at e1; cases e1
    · exact h0 (by rw [e1, hq])
  · refine ⟨⟨hx, hs.ok.2⟩, ?_, World.rangeAt_setCells_same _ _ _ _ ht, own_of_block hs.own (fun q hq => hother q (k2 i q hil hq).2)⟩
    rw [cell_setCells_out _ _ _ _ _ (.inl (by omega))]
    exact hs.cell

theorem seg_len (l : List UInt8) (m k : Nat) (hl : l.length = m * 256) (hk : k < m) : (seg l k).length = 256 := by
  unfold seg; rw [List.length_take, List.length_drop]; omega

set_option maxRecDepth 100000 in
set_option maxHeartbeats 400000 in
theorem Load_odd (w : World) (a : Option Addr) (n c : Nat) (h : n % 256 ≠ 0) (hn : n ≤ 9223372036854775807) :
    Calls Try.prog 35 #[.slice a n c] w fun e w' => e = .returned (.tuple #[.pointer none, .int .i64 2]) ∧ w' = w := by
  have hb : (((n % 256 : Nat) : Int) != 0) = true := by rw [bne_iff_ne]; omega
  go_enter Try.func35, Try.ntmps35
  go_wp2
  go_ret2
  exact ⟨rfl, rfl⟩

set_option maxRecDepth 100000 in
set_option maxHeartbeats 400000 in
theorem Load_bad (w : World) (a : Option Addr) (n c : Nat) (h : n % 256 = 0) (hn : n ≤ 9223372036854775807) (hm : n / 256 < 1 ∨ 4096 < n / 256) :
    Calls Try.prog 35 #[.slice a n c] w fun e w' => e = .returned (.tuple #[.pointer none, .int .i64 2]) ∧ w' = w := by
  have hb : ((n : Int) % 256 != 0) = false := by rw [bne_eq_false_iff_eq]; omega
  have H := hide (Make_bad ((n : Int) / 256) w (by omega))
  clear hm h
  go_enter Try.func35, Try.ntmps35
  go_wp2_with fail
  refine (unhide H).mono ?_
  rintro e w1 ⟨rfl, rfl⟩
  go_wp2
  go_ret2
  exact ⟨rfl, rfl⟩

structure ORel (w : World) (B p g : Nat) (l : List UInt8) (m k : Nat) (wr : World) : Prop where
  ex : ∃ vs, IsDisk wr B p g vs (Dk.loadedTo l m k)
  fr : Below B w wr

set_option maxHeartbeats 800000 in
set_option maxRecDepth 100000 in
theorem Load_ok (w : World) (b o n c m : Nat) (l : List UInt8) (hl : l.length = n) (hc : n ≤ c) (hc' : c ≤ 9223372036854775807) (hB : BytesAt w (some ⟨b, o, none⟩) l) (hnm : n = m * 256) (h1 : 1 ≤ m) (h2 : m ≤ 4096) (hbw : b < w.heap.size) :
    Calls Try.prog 35 #[.slice (some ⟨b, o, none⟩) n c] w fun e w' => e = .returned (.tuple #[.pointer (some ⟨w.heap.size + 1, 0, none⟩), .int .i64 0]) ∧ (∃ vs, IsDisk w' w.heap.size (w.heap.size + 1) w.heap.size vs (Dk.loadedTo l m m)) ∧ Below w.heap.size w w' := by
  have hb : ((n : Int) % 256 != 0) = false := by rw [bne_eq_false_iff_eq]; omega
  have HD := hide (show ((n : Int) / 256) = (m : Int) by omega)
  have HNM := hide hnm
  have HL := hide hl
  have HBY := hide hB
  clear hnm hl hB
  go_enter Try.func35, Try.ntmps35
  go_wp2_with fail
  rw [unhide HD]
  refine (Make_ok m _ h1 h2).mono ?_
  rintro e w1 ⟨rfl, d1, b1⟩
  rw [← loadedTo_zero l m] at d1
  have R0 : ORel w w.heap.size (w.heap.size + 1) w.heap.size l m 0 w1 := ⟨⟨_, d1⟩, b1⟩
  have c1 := d1.cells.1
  rw [loadedTo_len] at c1
  clear d1 b1
  go_wp2
  go_loopw [26] (fun i wr => ∃ k : Nat, k ≤ m ∧ i = .int .i64 k ∧ ORel w w.heap.size (w.heap.size + 1) w.heap.size l m k wr) (fun i _ => m - (intOf i).toNat)
  case atStart => exact ⟨0, by omega, rfl, R0⟩
  case round =>
    clear R0 c1
    obtain ⟨k, hk, rfl, hR⟩ := hrel
    by_cases hlt : k < m
    · obtain ⟨vs, hD⟩ := hR.ex
      have cr := hD.cells.1
      rw [loadedTo_len] at cr
      have hsl := seg_len l m k ((unhide HL).trans (unhide HNM)) hlt
      have hbl : (bv (seg l k)).length = 256 := by rw [bv_length]; exact hsl
      have hget := loadedTo_get l m k k hlt
      rw [if_neg (Nat.lt_irrefl k)] at hget
      have hD' : IsDisk wr.drew w.heap.size (w.heap.size + 1) w.heap.size vs (Dk.loadedTo l m k) := hD.below (Below.refl _ _).drew
      obtain ⟨n1, n2⟩ := hD'.sured k _ hget (seg l k) hsl
      rw [loadedTo_succ l m k hlt] at n1
      have R : Hid (ORel w w.heap.size (w.heap.size + 1) w.heap.size l m (k + 1) (wr.drew.setCells w.heap.size (k * 257 + 1) (bv (seg l k)))) := ⟨⟨vs, n1⟩, hR.fr.drew.trans n2.below⟩
      obtain ⟨cur, hcur, hcs⟩ := hD.row
      have ht : Hid (wr.drew.there w.heap.size (k * 257 + 1) (bv (seg l k)).length) := there_of_block (w := wr.drew) hcur _ _ (by rw [hbl, hcs, loadedTo_len]; omega)
      have hsrc : Hid (∀ j v, (bv (seg l k))[j]? = some v → wr.drew.cell? ((⟨b, o + k * 256, none⟩ : Addr).add j) = some v) := by
        intro j v hv
        rw [Addr.add_mid]
        have e : bv (seg l k) = ((bv l).drop (k * 256)).take 256 := by simp [bv, seg]
        rw [e, List.getElem?_take] at hv
        split at hv
        · rw [List.getElem?_drop] at hv
          have := (unhide HBY).2 _ rfl (k * 256 + j) v hv
          rw [Addr.add_mid, ← Nat.add_assoc] at this
          exact (hR.fr.cell (p := ⟨b, o + k * 256 + j, none⟩) hbw).trans this
        · cases hv
      have hkc : k * 256 < n := by have := unhide HNM; omega
      have hcl : Hid ((bv (seg l k)).length = Nat.min (n - k * 256) 256) := by show _ = _; rw [hbl]; have := unhide HNM; simp only [Nat.min_def]; split <;> omega
      clear n1 n2 hget hcur hcs hD hD' hR hsl hbl
      have hwr : IntKind.i64.wrap ((k : Int) * 256) = (k : Int) * 256 := by rw [IntKind.wrap_i64]; omega
      have hl0 : 0 ≤ (k : Int) * 256 := by omega
      have hle : (k : Int) * 256 ≤ (n : Int) := by omega
      have hto : ((k : Int) * 256).toNat = k * 256 := by omega
      have hcne : ¬ c = k * 256 := by omega
      go_wp2
      go_region_law (refine step_copy_cells rfl (.tmp 36) (.tmp 40) rfl w.heap.size (k * 257 + 1) 256 256 ⟨b, o + k * 256, none⟩ (n - k * 256) (c - k * 256) (by simp [Act.eval, Act.put]) (by simp [Act.eval, Act.put]) (bv (seg l k)) (unhide hcl) (unhide hsrc) (unhide ht) (bv_one _) ?_)
      all_goals
        clear ht hsrc hcl hwr hl0 hle hto hcne cr
        go_wp2
        go_roundw
        case rel => exact ⟨k + 1, by omega, by go_num, unhide R⟩
        case measure => simp [intOf]; omega
    · have hk' : k = m := by omega
      subst hk'
      have HR := hide hR
      clear hR
      go_wp2
      go_ret2
      exact ⟨rfl, (unhide HR).ex, (unhide HR).fr⟩

end Go.Proofs.Ytaflibnalhfenaa
