/- The landed class: names in memory; hasClass, hasTexts, tagAt, isUpTo. -/
import Derived.Test.YthhdfokcciibmaaGreatDoorJCkA
import Derived.Test.YthhdfokcciibmaaGreatDoorJClK
import Derived.Test.YthhdfokcciibmaaGreatDoorJClG
import Derived.Test.YthhdfokcciibmaaGreatDoorJTxA
import Derived.Test.YthhdfokcciibmaaGreatDoorJC
import Derived.Maps.OwnSet

namespace Go.Proofs.YthhdfokcciibmaaGreatDoor
open Go.RowKit Go.Maps
set_option linter.unusedVariables false
set_option maxRecDepth 100000

theorem nlaw : Keyed Tryz.prog 9 := string_keyed Tryz.underlying9
theorem nzero (w : World) : (zeroValue 3).run Tryz.prog w = .ok (.int .i64 0) w := by kernel_rfl
theorem nkey {s : List UInt8} (h : fitS s) : keyOf Tryz.prog 9 (.string ⟨s.toArray⟩) = some (.string s) := by
  unfold fitS at h
  have := WideMaps.keyOf_string_mk (P := Tryz.prog) (s := ⟨s.toArray⟩) Tryz.underlying9 (by unfold maxLen; simp [ByteArray.size]; omega)
  simpa using this
/-- A map of numbers of texts at block m: f tells them. -/
def MapIs (w : World) (m : Nat) (f : List UInt8 → Nat) : Prop := ∃ N D, w.ownsMap Tryz.prog 9 (plainElem (H := Unit) Tryz.prog 3) m N D ∧ ∀ s, D.atKey (.string s) (.lit (.int .i64 0)) = .lit (.int .i64 (f s : Int))
theorem MapIs.keep {w w' : World} {m : Nat} {f : List UInt8 → Nat} (h : MapIs w m f) (e : w'.heap[m]? = w.heap[m]?) : MapIs w' m f := by
  obtain ⟨N, D, ⟨es, clock, h1, h2⟩, h3⟩ := h
  exact ⟨N, D, ⟨es, clock, e.trans h1, h2⟩, h3⟩
theorem MapIs.lt {w : World} {m : Nat} {f : List UInt8 → Nat} (h : MapIs w m f) : m < w.heap.size := by
  obtain ⟨N, D, h1, _⟩ := h
  exact h1.lt
theorem MapIs.look {w : World} {m : Nat} {f : List UInt8 → Nat} (h : MapIs w m f) {s : List UInt8} (hs : fitS s) : (Instr.lookup 109 (.map (some m)) (.string ⟨s.toArray⟩) false).run Tryz.prog w = .ok (.int .i64 (f s : Int)) w := by
  obtain ⟨N, D, h1, h2⟩ := h
  obtain ⟨c, hrun, hat, _⟩ := h1.lookup_int nlaw Tryz.underlying109 Tryz.underlying3 (nzero _) (nkey hs)
  rw [h2 s] at hat
  injection hat with hat
  injection hat with _ hat
  rw [hrun, hat]
/-- Names: a right pool, the numbers of its texts and its classes. -/
structure Nm (w : World) (g mt mc : Nat) (p : Sl) (l : List Ent) : Prop where
  blk : w.heap[g]? = some (.cells #[p.v, .map (some mt), .map (some mc)] 111 (0, 0))
  texts : MapIs w mt (utfN l)
  classes : MapIs w mc (clsN l)
  pool : EIn w p.a p.n p.c l
  right : checkP l = true
theorem Nm.c0 {w : World} {g mt mc : Nat} {p : Sl} {l : List Ent} (h : Nm w g mt mc p l) : w.cell? ⟨g, 0, none⟩ = some p.v := by rw [cell_of_row _ _ _ _ _ _ h.blk]; rfl
theorem Nm.c1 {w : World} {g mt mc : Nat} {p : Sl} {l : List Ent} (h : Nm w g mt mc p l) : w.cell? ⟨g, 1, none⟩ = some (.map (some mt)) := by rw [cell_of_row _ _ _ _ _ _ h.blk]; rfl
theorem Nm.c2 {w : World} {g mt mc : Nat} {p : Sl} {l : List Ent} (h : Nm w g mt mc p l) : w.cell? ⟨g, 2, none⟩ = some (.map (some mc)) := by rw [cell_of_row _ _ _ _ _ _ h.blk]; rfl
theorem Nm.glt {w : World} {g mt mc : Nat} {p : Sl} {l : List Ent} (h : Nm w g mt mc p l) : g < w.heap.size := lt_of_heap h.blk
theorem Nm.below {w w' : World} {g mt mc : Nat} {p : Sl} {l : List Ent} (h : Nm w g mt mc p l) (f : Below w.heap.size w w') : Nm w' g mt mc p l :=
  ⟨(f.block g h.glt).trans h.blk, h.texts.keep (f.block mt h.texts.lt), h.classes.keep (f.block mc h.classes.lt), h.pool.below f, h.right⟩
theorem Nm.len {w : World} {g mt mc : Nat} {p : Sl} {l : List Ent} (h : Nm w g mt mc p l) : 1 ≤ l.length ∧ l.length ≤ 1024 := (checkP_right.1 h.right).1
theorem Nm.utf {w : World} {g mt mc : Nat} {p : Sl} {l : List Ent} (h : Nm w g mt mc p l) (s : List UInt8) : utfN l s < 1024 := by
  by_cases e : utfN l s = 0
  · omega
  · have := utfN_some e; have := h.len; omega
theorem Nm.cls {w : World} {g mt mc : Nat} {p : Sl} {l : List Ent} (h : Nm w g mt mc p l) (s : List UInt8) : clsN l s < 1024 := by
  by_cases e : clsN l s = 0
  · omega
  · have := clsN_some e; have := h.len; omega

set_option maxHeartbeats 1600000 in
theorem nHasClass_any (w : World) (g mt mc : Nat) (p : Sl) (l : List Ent) (h : Nm w g mt mc p l) (s : List UInt8) (hs : fitS s) :
    Calls Tryz.prog 51 #[.pointer (some ⟨g, 0, none⟩), .string ⟨s.toArray⟩] w fun e w' => e = .returned (.bool (decide (clsN l s ≠ 0))) ∧ w' = w := by
  have c2 := h.c2
  have hlk := h.classes.look hs
  clear h
  generalize (⟨s.toArray⟩ : ByteArray) = st at *
  generalize clsN l s = k at *
  have hd : decide (k ≠ 0) = ((k : Int) != 0) := by
    rw [Bool.eq_iff_iff]
    simp
  rw [hd]
  clear hd
  go_enter Tryz.func51, Tryz.ntmps51
  go_wp2
  go_ret
  exact ⟨rfl, rfl⟩

/-- Texts in memory. -/
def StrsAt (w : World) (b : Nat) (ss : List (List UInt8)) : Prop := ∀ (k : Nat) (s : List UInt8), ss[k]? = some s → w.cell? ⟨b, k, none⟩ = some (.string ⟨s.toArray⟩)
set_option maxHeartbeats 1600000 in
theorem nHasTexts_any (w : World) (g mt mc : Nat) (p : Sl) (l : List Ent) (h : Nm w g mt mc p l) (b n c : Nat) (ss : List (List UInt8)) (hl : ss.length = n) (hn : n ≤ 1000) (hS : StrsAt w b ss) (hs : ∀ s ∈ ss, fitS s) :
    Calls Tryz.prog 83 #[.pointer (some ⟨g, 0, none⟩), .slice (some ⟨b, 0, none⟩) n c] w fun e w' => e = .returned (.bool (textsB l ss)) ∧ w' = w := by
  have c1 := h.c1
  have HT := hide h.texts
  have HS := hide hS
  have HF := hide hs
  obtain ⟨T, hT⟩ : ∃ T, T = textsB l ss := ⟨_, rfl⟩
  rw [← hT]
  have HTT := hide hT
  clear h hS hs hT
  go_enter Tryz.func83, Tryz.ntmps83
  go_wp2
  go_loop [9] (fun i => ∃ k : Nat, k ≤ n ∧ i = .int .i64 k ∧ textsB l (ss.take k) = true) (fun i => n - (intOf i).toNat)
  case atStart => exact ⟨0, by omega, rfl, rfl⟩
  case round =>
    obtain ⟨k, hk, rfl, ht⟩ := hrel
    by_cases hlt : k < n
    · have hlt1 : (k : Int) < (n : Int) := by omega
      obtain ⟨s, hsk⟩ : ∃ s, ss[k]? = some s := ⟨_, List.getElem?_eq_getElem (by omega)⟩
      have q0 := unhide HS k s hsk
      have hlk := (unhide HT).look (unhide HF s (List.mem_of_getElem? hsk))
      have hstep : textsB l (ss.take (k + 1)) = decide (utfN l s ≠ 0) := by
        unfold textsB at ht ⊢
        rw [List.take_add_one, hsk, List.all_append, ht]
        simp
      have hbad : utfN l s = 0 → textsB l ss = false := fun e => by
        unfold textsB
        rw [List.all_eq_false]
        exact ⟨s, List.mem_of_getElem? hsk, by simp [e]⟩
      generalize (⟨s.toArray⟩ : ByteArray) = st at *
      generalize utfN l s = z at *
      have HST := hide hstep
      have HBD := hide hbad
      clear hsk ht hstep hbad
      by_cases hz : z = 0
      · subst hz
        go_wp2
        go_ret
        exact ⟨by rw [unhide HTT, unhide HBD (by first | rfl | trivial)]; rfl, rfl⟩
      · have hz1 : ((z : Int) == 0) = false := by simpa using hz
        have HZ := hide hz
        clear hz
        go_wp2
        go_round
        case rel => exact ⟨k + 1, by omega, by go_num, by rw [unhide HST]; simpa using unhide HZ⟩
        case measure => simp [intOf]; omega
    · obtain rfl : k = n := by omega
      have hT : T = true := by rw [unhide HTT, ← ht, List.take_of_length_le (by omega)]
      subst hT
      clear ht HTT
      go_wp2
      go_ret
      exact ⟨rfl, rfl⟩

set_option maxHeartbeats 1600000 in
theorem isUpTo_any (w : World) (b n c : Nat) (most : Int) (zs : List Int) (hm : 0 ≤ most ∧ most ≤ 1000000) (hl : zs.length = n) (hn : n ≤ 1000) (hS : ∀ (k : Nat) (z : Int), zs[k]? = some z → w.cell? ⟨b, k, none⟩ = some (.int .i64 z)) :
    Calls Tryz.prog 112 #[.int .i64 most, .slice (some ⟨b, 0, none⟩) n c] w fun e w' => e = .returned (.bool (upB most zs)) ∧ w' = w := by
  have HS := hide hS
  obtain ⟨T, hT⟩ : ∃ T, T = upB most zs := ⟨_, rfl⟩
  rw [← hT]
  have HTT := hide hT
  clear hS hT
  go_enter Tryz.func112, Tryz.ntmps112
  go_wp2
  go_loop [9] (fun i => ∃ k : Nat, k ≤ n ∧ i = .int .i64 k ∧ upB most (zs.take k) = true) (fun i => n - (intOf i).toNat)
  case atStart => exact ⟨0, by omega, rfl, rfl⟩
  case round =>
    obtain ⟨k, hk, rfl, ht⟩ := hrel
    by_cases hlt : k < n
    · have hlt1 : (k : Int) < (n : Int) := by omega
      obtain ⟨z, hzk⟩ : ∃ z, zs[k]? = some z := ⟨_, List.getElem?_eq_getElem (by omega)⟩
      have q0 := unhide HS k z hzk
      have hstep : upB most (zs.take (k + 1)) = decide (0 ≤ z ∧ z ≤ most) := by
        unfold upB at ht ⊢
        rw [List.take_add_one, hzk, List.all_append, ht]
        simp
      have hbad : ¬ (0 ≤ z ∧ z ≤ most) → upB most zs = false := fun e => by
        unfold upB
        rw [List.all_eq_false]
        exact ⟨z, List.mem_of_getElem? hzk, by simpa using e⟩
      have HST := hide hstep
      have HBD := hide hbad
      clear hzk ht hstep hbad
      by_cases h1 : z < 0
      · go_wp2
        go_ret
        exact ⟨by rw [unhide HTT, unhide HBD (by omega)]; rfl, rfl⟩
      · have h1b : decide (z < 0) = false := by simpa using h1
        by_cases h2 : most < z
        · go_wp2
          go_ret
          exact ⟨by rw [unhide HTT, unhide HBD (by omega)]; rfl, rfl⟩
        · have h2b : decide (most < z) = false := by simpa using h2
          go_wp2
          go_round
          case rel => exact ⟨k + 1, by omega, by go_num, by rw [unhide HST]; simp; omega⟩
          case measure => simp [intOf]; omega
    · obtain rfl : k = n := by omega
      have hT : T = true := by rw [unhide HTT, ← ht, List.take_of_length_le (by omega)]
      subst hT
      clear ht HTT
      go_wp2
      go_ret
      exact ⟨rfl, rfl⟩

set_option maxHeartbeats 1600000 in
theorem ctagAt_any (w : World) (a : Option Addr) (n c : Nat) (l : List Ent) (h : Es w a n l) (hn : n ≤ 100000000000) (i : Int) (hi : fitI i) :
    Calls Tryz.prog 131 #[.slice a n c, .int .i64 i] w fun e w' => e = .returned (.int .i64 (tagE l i)) ∧ w' = w := by
  have hln := h.1
  unfold fitI at hi
  by_cases h1 : i < 0
  · have e : tagE l i = 0 := by unfold tagE atE; rw [if_neg (by omega)]; rfl
    rw [e]
    clear h
    go_enter Tryz.func131, Tryz.ntmps131
    go_wp2
    go_ret
    exact ⟨rfl, rfl⟩
  · have h1b : decide (i < 0) = false := by simpa using h1
    by_cases h2 : (n : Int) ≤ i
    · have e : tagE l i = 0 := by
        unfold tagE atE
        rw [if_pos (by omega), List.getElem?_eq_none (by omega)]
        rfl
      rw [e]
      clear h
      go_enter Tryz.func131, Tryz.ntmps131
      go_wp2
      go_ret
      exact ⟨rfl, rfl⟩
    · have h2b : decide ((n : Int) ≤ i) = false := by simpa using h2
      obtain ⟨k, rfl⟩ : ∃ k : Nat, i = k := ⟨i.toNat, by omega⟩
      obtain ⟨b, o, rfl, hE⟩ := h.2.resolve_left (by omega)
      obtain ⟨q0, q1, q2, q3, q4⟩ := ents_at hE (k := k) (by omega)
      have hk0 : (0 : Int) ≤ (k : Int) := by omega
      have hk1 : (k : Int) < (n : Int) := by omega
      unfold tagE
      generalize atE l (k : Int) = y at *
      clear h hE
      go_enter Tryz.func131, Tryz.ntmps131
      go_wp2
      go_ret
      exact ⟨rfl, rfl⟩
end Go.Proofs.YthhdfokcciibmaaGreatDoor
