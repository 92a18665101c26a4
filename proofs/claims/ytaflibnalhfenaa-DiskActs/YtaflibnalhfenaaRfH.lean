/- The contracts of the document's own Cached and Dump. -/
import Derived.Test.YtaflibnalhfenaaRfG
import Derived.Lib.AppendStr
namespace Go.Proofs.Ytaflibnalhfenaa
open Go.RowKit
set_option linter.unusedVariables false

set_option maxRecDepth 100000 in
set_option maxHeartbeats 800000 in
theorem rCached_any (w : World) (B p : Nat) (v : Value) (vals : List Value) (D : Dk) (hD : RIs w B p v vals (rof D)) (g gc : Nat) (hv : v = .slice (some ⟨g, 0, none⟩) D.secs.length gc) (hmost : D.secs.length ≤ 4096) :
    Calls Try.prog 32 #[.pointer (some ⟨p, 0, none⟩)] w fun e w' => ∃ v, e = .returned v ∧ w'.ownsRow w.heap.size 3 1 v D.cached.length (ints D.cached) ∧ Below w.heap.size w w' := by
  subst hv
  obtain ⟨i0, hi, hz0, hz1, hz2⟩ := info_parts infoI
  have R0 : Hid (CRel w D (.slice (some ⟨w.heap.size, 0, none⟩) 0 0) 0 (w.alloc (.cells #[] 3))) := ⟨World.ownsRow_made w #[] 0 (Nat.le_refl _) (by simp) rfl, (Below.refl _ _).alloc (Nat.le_refl _) _⟩
  have HD := hide hD
  clear hD
  go_enter Try.func32, Try.ntmps32
  go_wp2
  go_loopw [3, 4] (fun v i wr => ∃ k : Nat, k ≤ D.secs.length ∧ i = .int .i64 k ∧ CRel w D v k wr) (fun _ i _ => D.secs.length - (intOf i).toNat)
  case atStart => exact ⟨0, Nat.zero_le _, rfl, unhide R0⟩
  case round =>
    clear R0
    obtain ⟨k, hk, rfl, hR⟩ := hrel
    have hDr := (unhide HD).below hR.below
    have c0 := hDr.cells.1
    by_cases hlt : k < D.secs.length
    · obtain ⟨_, _, q, c, hv, c1, -⟩ := hDr.mem k _ (List.getElem?_eq_getElem hlt)
      injection hv with hv1 hv0 hv2
      injection hv1 with hv1
      injection hv1 with hv1
      subst hv1
      clear hv0 hv2 hDr
      have hle := cachedTo_le D k
      have hkl : (k : Int) < D.secs.length := by omega
      by_cases hw : 0 < D.secs[k].wait.length
      · have hww : waits D k = true := by simp [waits, List.getElem?_eq_getElem hlt, hw]
        have HY := hide hww
        have hcmp : decide ((1 : Int) < (D.secs[k].wait.length : Int) + 1) = true := by simp; omega
        have HR := hide hR
        clear hww hR
        generalize D.secs[k].wait.length = n at *
        go_wp2_with (at_builtin; refine wpList_append_own _ rfl (.tmp 24) (.tmp 26) 33 rfl w.heap.size 3 i0 (.int .i64 0) 1 8 Try.underlying33 hi hz0 hz1 hz2 rfl (by decide) _ _ _ rfl ((unhide HR).own.alloc _) ⟨_, 0, none⟩ 1 1 [.int .i64 k] rfl rfl ?c1 ?c2 ?c3 ?c4 ?c5 ?_)
        case c2 => rfl
        case c3 => unfold maxLen; omega
        case c4 => omega
        case c5 => have := (unhide HR).below.size; simp; omega
        · intro v' w2 hown' hgrow _
          have R := hide ((unhide HR).yes (unhide HY) hown' hgrow)
          clear hown' hgrow HR c0 c1 HY
          go_wp2
          go_roundw
          case rel => exact ⟨k + 1, by omega, by go_num, unhide R⟩
          case measure => simp [intOf]; omega
      · have hww : waits D k = false := by unfold waits; rw [List.getElem?_eq_getElem hlt]; simp only [decide_eq_false_iff_not]; exact hw
        have R := hide (hR.no hww)
        have hcmp : decide ((1 : Int) < (D.secs[k].wait.length : Int) + 1) = false := by simp; omega
        clear hww hR
        generalize D.secs[k].wait.length = n at *
        go_wp2
        go_roundw
        case rel => exact ⟨k + 1, by omega, by go_num, unhide R⟩
        case measure => simp [intOf]; omega
    · have hk' : k = D.secs.length := by omega
      subst hk'
      have HR := hide hR
      clear hR hDr
      go_wp2
      go_ret
      exact ⟨_, rfl, (unhide HR).own, (unhide HR).below⟩

theorem strCells_bv (x : List UInt8) : Lib.strCells ⟨x.toArray⟩ = bv x := by simp [Lib.strCells, bv]

theorem DRel.rnext {w wr w3 : World} {D : Dk} {v v' : Value} {k : Nat} (h : DRel w D v k wr) (hk : k < D.secs.length) (hl : D.secs[k].last.length = 256)
    (hown : w3.ownsRow w.heap.size 5 1 v' (k * 256 + 256) (bv (D.dumpTo k) ++ bv D.secs[k].last)) (hg : wr.drew.grownBy w3 v.ownBlock) : DRel w D v' (k + 1) w3 := by
  have hs := h.below.size
  refine ⟨?_, ?_, ?_⟩
  · rw [dumpTo_succ D k hk, List.length_append, h.len, hl]; omega
  · rw [dumpTo_succ D k hk, bv_append]
    have e : (k + 1) * 256 = k * 256 + 256 := by omega
    rw [e]; exact hown
  · refine h.below.drew.grown hg hs ?_
    intro j hj
    exact (h.own.lt j hj).1

set_option maxHeartbeats 800000 in
set_option maxRecDepth 100000 in
theorem rDump_any (w : World) (B p : Nat) (v : Value) (vals : List Value) (D : Dk) (hD : RIs w B p v vals (rof D)) (g gc : Nat) (hv : v = .slice (some ⟨g, 0, none⟩) D.secs.length gc) (hmost : D.secs.length ≤ 4096) (hok : ∀ (i : Nat) (s : Sec), D.secs[i]? = some s → s.last.length = 256) :
    Calls Try.prog 34 #[.pointer (some ⟨p, 0, none⟩)] w fun e w' => ∃ v, e = .returned v ∧ w'.ownsRow w.heap.size 5 1 v (D.secs.length * 256) (bv D.dump) ∧ Below w.heap.size w w' := by
  subst hv
  obtain ⟨i0, hi, hz0, hz1, hz2⟩ := info_parts infoB
  have R0 : Hid (DRel w D (.slice (some ⟨w.heap.size, 0, none⟩) 0 0) 0 (w.alloc (.cells #[] 5))) := ⟨by simp [Dk.dumpTo], World.ownsRow_made w #[] 0 (Nat.le_refl _) (by simp) rfl, (Below.refl _ _).alloc (Nat.le_refl _) _⟩
  have HD := hide hD
  have HOK := hide hok
  clear hD hok
  go_enter Try.func34, Try.ntmps34
  go_wp2
  go_loopw [3, 4] (fun v i wr => ∃ k : Nat, k ≤ D.secs.length ∧ i = .int .i64 k ∧ DRel w D v k wr) (fun _ i _ => D.secs.length - (intOf i).toNat)
  case atStart => exact ⟨0, Nat.zero_le _, rfl, unhide R0⟩
  case round =>
    clear R0
    obtain ⟨k, hk, rfl, hR⟩ := hrel
    have hDr := (unhide HD).below hR.below
    have c0 := hDr.cells.1
    by_cases hlt : k < D.secs.length
    · have hx := List.getElem?_eq_getElem hlt
      have HL := hide (rlast_any wr B p _ vals D hDr k _ hx)
      have HLE := hide (unhide HOK k _ hx)
      have hsz : (⟨(D.secs[k]).last.toArray⟩ : ByteArray).size = 256 := by have := unhide HLE; simp [ByteArray.size, this]
      have HSZ := hide hsz
      have HR := hide hR
      clear hDr hx hsz hR
      go_wp2_with fail
      refine (unhide HL).mono ?_
      rintro e w2 ⟨rfl, rfl⟩
      clear HL
      go_wp2_with (at_builtin; refine Lib.wpList_append_own_string _ rfl (.tmp 15) (.tmp 18) 37 9 rfl w.heap.size 5 i0 Try.underlying37 Try.underlying9 hi hz0 hz1 hz2 _ (k * 256) (bv (D.dumpTo k)) rfl (unhide HR).own.drew ⟨(D.secs[k]).last.toArray⟩ rfl ?c3 ?c4 ?c5 ?_)
      case c3 => rw [unhide HSZ]; unfold maxLen; omega
      case c4 => rw [unhide HSZ]; omega
      case c5 => exact (unhide HR).below.size
      · intro v' w3 hown' hgrow _
        rw [strCells_bv, unhide HLE] at hown'
        have R := hide ((unhide HR).rnext hlt (unhide HLE) hown' hgrow)
        clear hown' hgrow HR c0 HLE HSZ
        go_wp2
        go_roundw
        case rel => exact ⟨k + 1, by omega, by go_num, unhide R⟩
        case measure => simp [intOf]; omega
    · have hk' : k = D.secs.length := by omega
      subst hk'
      have hown := hR.own
      rw [dumpTo_all] at hown
      have HO := hide hown
      have HB := hide hR.below
      clear hR hDr hown
      go_wp2
      go_ret
      exact ⟨_, rfl, unhide HO, unhide HB⟩

end Go.Proofs.Ytaflibnalhfenaa
