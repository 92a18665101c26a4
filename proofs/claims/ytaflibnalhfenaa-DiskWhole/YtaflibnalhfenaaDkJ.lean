/- The contracts of Cached and Dump. -/
import Derived.Test.YtaflibnalhfenaaDkI
namespace Go.Proofs.Ytaflibnalhfenaa
open Go.RowKit
set_option linter.unusedVariables false

def waits (D : Dk) (i : Nat) : Bool := match D.secs[i]? with
  | some s => decide (0 < s.wait.length)
  | none => false
def cachedTo (D : Dk) (k : Nat) : List Nat := (List.range k).filter (waits D)
def Dk.cached (D : Dk) : List Nat := cachedTo D D.secs.length
def ints (l : List Nat) : List Value := l.map fun (i : Nat) => Value.int .i64 (i : Int)
theorem ints_length (l : List Nat) : (ints l).length = l.length := by simp [ints]
theorem cachedTo_le (D : Dk) (k : Nat) : (cachedTo D k).length ≤ k := by
  have := List.length_filter_le (waits D) (List.range k)
  simpa [cachedTo] using this
theorem cachedTo_yes (D : Dk) (k : Nat) (h : waits D k = true) : cachedTo D (k + 1) = cachedTo D k ++ [k] := by
  unfold cachedTo; rw [List.range_succ, List.filter_append]; simp [h]
theorem cachedTo_no (D : Dk) (k : Nat) (h : waits D k = false) : cachedTo D (k + 1) = cachedTo D k := by
  unfold cachedTo; rw [List.range_succ, List.filter_append]; simp [h]
theorem infoI : (Try.prog.info? 3).map (fun i => (i.zero, i.size, i.bytes)) = some (some (.int .i64 0), 1, 8) := by kernel_rfl

/-- What is known behind k rounds of Cached. -/
structure CRel (w : World) (D : Dk) (v : Value) (k : Nat) (wr : World) : Prop where
  own : wr.ownsRow w.heap.size 3 1 v (cachedTo D k).length (ints (cachedTo D k))
  below : Below w.heap.size w wr

theorem CRel.start (w : World) (D : Dk) : CRel w D (.slice none 0 0) 0 w := ⟨World.ownsRow_nil _ _ _ _, Below.refl _ _⟩

theorem CRel.no {w wr : World} {D : Dk} {v : Value} {k : Nat} (h : CRel w D v k wr) (hw : waits D k = false) : CRel w D v (k + 1) wr := by
  refine ⟨?_, h.below⟩
  rw [cachedTo_no D k hw]; exact h.own

theorem CRel.yes {w wr w1 : World} {D : Dk} {v v' : Value} {k : Nat} (h : CRel w D v k wr) (hw : waits D k = true) {ob : Obj}
    (hown : w1.ownsRow w.heap.size 3 1 v' ((cachedTo D k).length + 1) (ints (cachedTo D k) ++ [Value.int .i64 (k : Int)])) (hg : (wr.alloc ob).grownBy w1 v.ownBlock) : CRel w D v' (k + 1) w1 := by
  refine ⟨?_, ?_⟩
  · rw [cachedTo_yes D k hw]
    simpa [ints] using hown
  · have hs := h.below.size
    refine (h.below.alloc hs ob).grown hg (by simp; omega) ?_
    intro j hj
    exact (h.own.lt j hj).1

set_option maxHeartbeats 800000 in
set_option maxRecDepth 100000 in
theorem Cached_any (w : World) (B p g : Nat) (vs : Nat → Value) (D : Dk) (hD : IsDisk w B p g vs D) :
    Calls Try.prog 31 #[.pointer (some ⟨p, 0, none⟩)] w fun e w' => ∃ v, e = .returned v ∧ w'.ownsRow w.heap.size 3 1 v D.cached.length (ints D.cached) ∧ Below w.heap.size w w' := by
  have hmost := hD.most
  have c0 := hD.cells.1
  obtain ⟨i0, hi, hz0, hz1, hz2⟩ := info_parts infoI
  have H1 := hide (made_any w B p g vs D hD)
  go_enter Try.func31, Try.ntmps31
  go_wp2_with fail
  refine (unhide H1).mono ?_
  rintro e w' ⟨rfl, rfl⟩
  clear H1
  go_wp2
  go_loopw [3, 13] (fun v i wr => ∃ k : Nat, k ≤ D.secs.length ∧ i = .int .i64 k ∧ CRel w' D v k wr) (fun _ i _ => D.secs.length - (intOf i).toNat)
  case atStart => exact ⟨0, Nat.zero_le _, rfl, CRel.start _ _⟩
  case round =>
    obtain ⟨k, hk, rfl, hR⟩ := hrel
    by_cases hlt : k < D.secs.length
    · have hDr := hD.below hR.below
      have cr := hDr.cells.1
      have H1 := hide (size_any B g (k * 257) _ (vs k) _ (hDr.get k hlt))
      have hle := cachedTo_le D k
      by_cases hw : 0 < D.secs[k].wait.length
      · have hww : waits D k = true := by simp [waits, List.getElem?_eq_getElem hlt, hw]
        have HY := hide hww
        have HD := hide hDr
        clear hDr hww
        go_wp2_with fail
        refine (unhide H1).mono ?_
        rintro e w1 ⟨rfl, rfl⟩
        go_wp2_with (at_builtin; refine wpList_append_own _ rfl (.tmp 25) (.tmp 27) 33 rfl w'.heap.size 3 i0 (.int .i64 0) 1 8 Try.underlying33 hi hz0 hz1 hz2 rfl (by decide) _ _ _ rfl (hR.own.alloc _) ⟨_, 0, none⟩ 1 1 [.int .i64 k] rfl rfl ?c1 ?c2 ?c3 ?c4 ?c5 ?_)
        case c1 => exact cell_one_new _ _ _
        case c2 => intro u hu; simp at hu; subst hu; rfl
        case c3 => unfold maxLen; omega
        case c4 => omega
        case c5 => have := hR.below.size; simp; omega
        · intro v' w2 hown' hgrow _
          have R := hR.yes (unhide HY) hown' hgrow
          clear hown' hgrow hR cr H1 HD
          go_wp2
          go_roundw
          case rel => exact ⟨k + 1, by omega, by go_num, R⟩
          case measure => simp [intOf]; omega
      · have hww : waits D k = false := by unfold waits; rw [List.getElem?_eq_getElem hlt]; simp only [decide_eq_false_iff_not]; exact hw
        have R := hR.no hww
        have hw0 : D.secs[k].wait.length = 0 := by omega
        clear hww
        go_wp2_with fail
        refine (unhide H1).mono ?_
        rw [hw0]
        rintro e w1 ⟨rfl, rfl⟩
        clear hw0 hw
        go_wp2
        go_roundw
        case rel => exact ⟨k + 1, by omega, by go_num, R⟩
        case measure => simp [intOf]; omega
    · have hk' : k = D.secs.length := by omega
      subst hk'
      go_wp2
      go_ret
      exact ⟨_, rfl, hR.own, hR.below⟩

def Dk.dumpTo (D : Dk) (k : Nat) : List UInt8 := (D.secs.take k).flatMap Sec.last
def Dk.dump (D : Dk) : List UInt8 := D.secs.flatMap Sec.last
theorem dumpTo_succ (D : Dk) (k : Nat) (h : k < D.secs.length) : D.dumpTo (k + 1) = D.dumpTo k ++ D.secs[k].last := by
  unfold Dk.dumpTo; rw [List.take_succ_eq_append_getElem h, List.flatMap_append]; simp
theorem dumpTo_all (D : Dk) : D.dumpTo D.secs.length = D.dump := by unfold Dk.dumpTo Dk.dump; rw [List.take_length]
/-- What is known behind k rounds of Dump. -/
structure DRel (w : World) (D : Dk) (v : Value) (k : Nat) (wr : World) : Prop where
  len : (D.dumpTo k).length = k * 256
  own : wr.ownsRow w.heap.size 5 1 v (k * 256) (bv (D.dumpTo k))
  below : Below w.heap.size w wr

theorem DRel.next {w wr w1 w2 w3 : World} {D : Dk} {v v' : Value} {k : Nat} (h : DRel w D v k wr) (hk : k < D.secs.length) (hl : D.secs[k].last.length = 256) (hb : Below wr.heap.size wr w1) {ob : Obj} (hw2 : w2 = w1.alloc ob)
    (hown : w3.ownsRow w.heap.size 5 1 v' (k * 256 + 256) (bv (D.dumpTo k) ++ bv D.secs[k].last)) (hg : w2.grownBy w3 v.ownBlock) : DRel w D v' (k + 1) w3 := by
  subst hw2
  have hs := h.below.size
  have hs1 := hb.size
  refine ⟨?_, ?_, ?_⟩
  · rw [dumpTo_succ D k hk, List.length_append, h.len, hl]; omega
  · rw [dumpTo_succ D k hk, bv_append]
    have e : (k + 1) * 256 = k * 256 + 256 := by omega
    rw [e]; exact hown
  · refine ((h.below.trans (hb.mono hs)).alloc (by omega) ob).grown hg (by simp; omega) ?_
    intro j hj
    exact (h.own.lt j hj).1

set_option maxHeartbeats 800000 in
set_option maxRecDepth 100000 in
theorem Dump_any (w : World) (B p g : Nat) (vs : Nat → Value) (D : Dk) (hD : IsDisk w B p g vs D) :
    Calls Try.prog 33 #[.pointer (some ⟨p, 0, none⟩)] w fun e w' => ∃ v, e = .returned v ∧ D.dump.length = D.secs.length * 256 ∧ w'.ownsRow w.heap.size 5 1 v (D.secs.length * 256) (bv D.dump) ∧ Below w.heap.size w w' := by
  have hmost := hD.most
  have c0 := hD.cells.1
  have hz := zeroV
  obtain ⟨i0, hi, hz0, hz1, hz2⟩ := info_parts infoB
  have H1 := hide (made_any w B p g vs D hD)
  go_enter Try.func33, Try.ntmps33
  go_wp2_with fail
  refine (unhide H1).mono ?_
  rintro e w' ⟨rfl, rfl⟩
  clear H1
  go_wp2_with (at_make; refine wpList_make_own _ rfl (.const (.int .i64 0)) (.tmp 14) 37 rfl w'.heap.size 5 i0 (.int .u8 0) 1 Try.underlying37 hi hz0 hz1 .i64 .i64 _ (D.secs.length * 256) rfl rfl ?_ ?_ ?_ ?_ ?_)
  · omega
  · rw [hz2]; omega
  · unfold maxLen; omega
  · exact Nat.le_refl _
  intro w1 hown1 hgrow1
  have hR0 : DRel w' D (.slice (some ⟨w'.heap.size, 0, none⟩) 0 (D.secs.length * 256)) 0 w1 :=
    ⟨by simp [Dk.dumpTo], hown1, (Below.refl _ _).grown hgrow1 (Nat.le_refl _) (fun k h => by cases h)⟩
  have c1 := (hD.below hR0.below).cells.1
  clear hown1 hgrow1
  go_wp2
  go_loopw [3, 21] (fun v i wr => ∃ k : Nat, k ≤ D.secs.length ∧ i = .int .i64 k ∧ DRel w' D v k wr) (fun _ i _ => D.secs.length - (intOf i).toNat)
  case atStart => exact ⟨0, Nat.zero_le _, rfl, hR0⟩
  case round =>
    clear hR0 c1
    obtain ⟨k, hk, rfl, hR⟩ := hrel
    by_cases hlt : k < D.secs.length
    · have hDr := hD.below hR.below
      have cr := hDr.cells.1
      have hsec := hDr.get k hlt
      have hl8 : D.secs[k].last.length = 256 := Sec.pick_len hsec.ok _ (Nat.le_refl _)
      have hl : (bv D.secs[k].last).length = 256 := by rw [bv_length]; exact hl8
      have H1 := hide (latest_any B g (k * 257) _ (vs k) _ hsec)
      have HL := hide hl8
      clear hDr hsec hl8
      go_wp2_with fail
      refine (unhide H1).mono ?_
      rintro e w2 ⟨rfl, hb⟩
      have hst := storeV w2 (bv D.secs[k].last) hl (bv_one _)
      have hrs := hR.below.size
      have hbs := hb.size
      have hown2 : (w2.alloc (.cells (bv D.secs[k].last).toArray 75)).ownsRow w'.heap.size 5 1 _ (k * 256) (bv (D.dumpTo k)) := (own_of_block hR.own (fun j hj => hb.block j (hR.own.lt j hj).2)).alloc _
      go_wp2_with (at_builtin; refine wpList_append_own _ rfl (.tmp 31) (.tmp 32) 37 rfl w'.heap.size 5 i0 (.int .u8 0) 1 1 Try.underlying37 hi hz0 hz1 hz2 rfl (by decide) _ _ _ rfl hown2 ⟨w2.heap.size, 0, none⟩ 256 256 (bv D.secs[k].last) rfl ?c0 ?c1 ?c2 ?c3 ?c4 ?c5 ?_)
      case c0 => rw [hl]
      case c1 => exact World.news_of_block (heap_alloc_last _ _)
      case c2 => exact bv_one _
      case c3 => unfold maxLen; omega
      case c4 => omega
      case c5 => simp; omega
      · intro v' w3 hown' hgrow _
        have R := hR.next hlt (unhide HL) hb rfl hown' hgrow
        clear hown' hgrow hR cr H1 HL hown2 hst hb
        go_wp2
        go_roundw
        case rel => exact ⟨k + 1, by omega, by go_num, R⟩
        case measure => simp [intOf]; omega
    · have hk' : k = D.secs.length := by omega
      subst hk'
      have hlen := hR.len
      have hown := hR.own
      rw [dumpTo_all] at hlen hown
      have HL := hide hlen
      clear hlen
      go_wp2
      go_ret
      exact ⟨_, rfl, unhide HL, hown, hR.below⟩

end Go.Proofs.Ytaflibnalhfenaa
