/- The contracts of the document's own All, and of SameRecords. -/
import Derived.Test.YtnkmcndbbapeoaaDoorFrS
namespace Go.Proofs.YtnkmcndbbapeoaaDoor
open Go.RowKit
set_option linter.unusedVariables false

/-- The first error of records. -/
def allErr : List Rec → Int
  | [] => 0
  | r :: rs => if writeE r = 0 then allErr rs else writeE r
def allB (rs : List Rec) : List UInt8 := if allErr rs = 0 then allL rs else []
theorem allErr_append (a b : List Rec) (h : allErr a = 0) : allErr (a ++ b) = allErr b := by
  induction a with
  | nil => rfl
  | cons r a ih =>
    unfold allErr at h
    by_cases hr : writeE r = 0
    · rw [if_pos hr] at h
      show (if writeE r = 0 then allErr (a ++ b) else writeE r) = _
      rw [if_pos hr, ih h]
    · rw [if_neg hr] at h
      exact absurd h hr
theorem allErr_take {rs : List Rec} {k : Nat} {r : Rec} (hk : rs[k]? = some r) (h : allErr (rs.take k) = 0) : (writeE r = 0 → allErr (rs.take (k + 1)) = 0) ∧ (writeE r ≠ 0 → allErr rs = writeE r) := by
  obtain ⟨hlt, hr⟩ := List.getElem?_eq_some_iff.1 hk
  constructor
  · intro h0
    rw [List.take_succ_eq_append_getElem hlt, allErr_append _ _ h, hr]
    show (if writeE r = 0 then allErr [] else writeE r) = 0
    rw [if_pos h0]
    rfl
  · intro h0
    have e : rs = rs.take k ++ rs.drop k := (List.take_append_drop k rs).symm
    rw [e, allErr_append _ _ h, List.drop_eq_getElem_cons hlt, hr]
    show (if writeE r = 0 then allErr _ else writeE r) = _
    rw [if_neg h0]
theorem allL_take {rs : List Rec} {k : Nat} {r : Rec} (hk : rs[k]? = some r) : allL (rs.take (k + 1)) = allL (rs.take k) ++ recL r := by
  obtain ⟨hlt, hr⟩ := List.getElem?_eq_some_iff.1 hk
  rw [List.take_succ_eq_append_getElem hlt, hr]
  simp [allL]
theorem writeL_ok {r : Rec} (h : writeE r = 0) : writeL r = recL r := by unfold writeL; rw [if_pos h]
theorem writeL_len (r : Rec) : (writeL r).length ≤ 4108 := by
  unfold writeL
  split
  · rename_i h
    have := (writeE_ok.1 h).2.2
    rw [rec_len]
    omega
  · simp
theorem own_bytes_base {w : World} {base base' n : Nat} {v : Value} {xs : List Value} (h : w.ownsRow base 5 1 v n xs) (hb : base' ≤ base) : w.ownsRow base' 5 1 v n xs := own_base h hb

/-- Between two rounds of All. -/
structure AR (w : World) (rs : List Rec) (k : Nat) (v : Value) (W : World) : Prop where
  le : k ≤ rs.length
  ok : allErr (rs.take k) = 0
  len : (allL (rs.take k)).length ≤ k * 4108
  own : W.ownsRow w.heap.size 5 1 v (allL (rs.take k)).length (bv (allL (rs.take k)))
  fr : Below w.heap.size w W
theorem AR.next {w : World} {rs : List Rec} {k : Nat} {r : Rec} {v v2 : Value} {W W2 : World} (h : AR w rs k v W) (hk : rs[k]? = some r) (h0 : writeE r = 0) (o : W2.ownsRow w.heap.size 5 1 v2 ((allL (rs.take k)).length + (writeL r).length) (bv (allL (rs.take k)) ++ bv (writeL r))) (f : Below w.heap.size w W2) : AR w rs (k + 1) v2 W2 := by
  have hlt := (List.getElem?_eq_some_iff.1 hk).1
  have hl := writeL_len r
  refine ⟨hlt, (allErr_take hk h.ok).1 h0, ?_, ?_, f⟩
  · rw [allL_take hk, List.length_append]
    rw [writeL_ok h0] at hl
    have := h.len
    omega
  · rw [allL_take hk, List.length_append, bv_append, ← writeL_ok h0]
    exact o
theorem AR.done {w : World} {rs : List Rec} {v : Value} {W : World} (h : AR w rs rs.length v W) : allErr rs = 0 ∧ W.ownsRow w.heap.size 5 1 v (allB rs).length (bv (allB rs)) := by
  have h1 := h.ok
  have h2 := h.own
  rw [List.take_length] at h1 h2
  refine ⟨h1, ?_⟩
  unfold allB
  rw [if_pos h1]
  exact h2
theorem AR.fails {w : World} {rs : List Rec} {k : Nat} {r : Rec} {v : Value} {W : World} (h : AR w rs k v W) (hk : rs[k]? = some r) (h0 : writeE r ≠ 0) : allErr rs = writeE r ∧ allB rs = [] := by
  have := (allErr_take hk h.ok).2 h0
  refine ⟨this, ?_⟩
  unfold allB
  rw [if_neg (by rw [this]; exact h0)]

set_option maxHeartbeats 1600000 in
theorem zAll_any (w : World) (a : Option Addr) (n cap : Nat) (rs : List Rec) (hA : Rs w a n rs) (hs : n ≤ 1000000) :
    Calls Tryd.prog 9 #[.slice a n cap] w fun e w' => ∃ v, e = .returned (.tuple #[v, .int .i64 (allErr rs)]) ∧ w'.ownsRow w.heap.size 5 1 v (allB rs).length (bv (allB rs)) ∧ Below w.heap.size w w' := by
  have hln := hA.1
  have HA := hide hA
  have hown0 : (w.alloc (.cells #[] 5)).ownsRow w.heap.size 5 1 (.slice (some ⟨w.heap.size, 0, none⟩) 0 0) 0 [] := World.ownsRow_made w #[] 0 (Nat.le_refl _) (by simp) rfl
  have hS0 : AR w rs 0 (.slice (some ⟨w.heap.size, 0, none⟩) 0 0) (w.alloc (.cells #[] 5)) := ⟨by omega, rfl, by simp [allL], hown0, (Below.refl _ _).alloc (Nat.le_refl _) _⟩
  have HS0 := hide hS0
  obtain ⟨i0, hi, hz0, hz1, hz2⟩ := info_parts infoB
  generalize hae : allErr rs = ae at *
  generalize hab : allB rs = ab at *
  have HAE := hide hae
  have HAB := hide hab
  clear hA hown0 hS0 hae hab
  go_enter Tryd.func9, Tryd.ntmps9
  go_wp2
  go_loopw [4, 5] (fun v i wr => ∃ (k : Nat), i = .int .i64 k ∧ AR w rs k v wr) (fun _ i _ => n - (intOf i).toNat)
  case atStart => exact ⟨0, rfl, unhide HS0⟩
  case round =>
    clear HS0
    obtain ⟨k, rfl, hR⟩ := hrel
    have hk := hR.le
    obtain ⟨oa, oc, rfl, _⟩ := own_form hR.own
    by_cases hlt : k < n
    · have hlt1 : (k : Int) < (n : Int) := by omega
      obtain ⟨b, o, rfl, hb⟩ := (unhide HA).2.resolve_left (by omega)
      obtain ⟨r, hr⟩ : ∃ r, rs[k]? = some r := ⟨_, List.getElem?_eq_getElem (by omega)⟩
      obtain ⟨c0, c1⟩ := recs_get (hb.below hR.fr) hr
      have H1 := zWrite_any wr r
      unfold recV at H1
      have hwl := writeL_len r
      have hal := hR.len
      have HR := hide hR
      have HX : Hid (writeE r = 0 → ∀ v2 W2, W2.ownsRow w.heap.size 5 1 v2 ((allL (rs.take k)).length + (writeL r).length) (bv (allL (rs.take k)) ++ bv (writeL r)) → Below w.heap.size w W2 → AR w rs (k + 1) v2 W2) := fun h0 v2 W2 o f => hR.next hr h0 o f
      have HY : Hid (writeE r ≠ 0 → ae = writeE r ∧ ab = []) := fun h0 => by
        have := hR.fails hr h0
        rw [unhide HAE, unhide HAB] at this
        exact this
      have HW : Hid (writeE r = 0 → 0 < (writeL r).length) := fun h0 => by rw [writeL_ok h0, rec_len]; omega
      have HO := hide hR.own
      have HF := hide hR.fr
      generalize writeE r = we at *
      generalize writeL r = wl at *
      generalize allL (rs.take k) = al at *
      generalize r.epoch = ep at *
      generalize (⟨r.data.toArray⟩ : ByteArray) = st at *
      have HH1 := hide H1
      clear hb hR hr HR H1
      go_wp2_with fail
      refine (unhide HH1).mono ?_
      rintro e w1 ⟨v1, rfl, o1, f1⟩
      obtain ⟨a1, c1', rfl, hq1⟩ := own_form o1
      have fw : Below w.heap.size w w1 := (unhide HF).trans (f1.mono (unhide HF).size)
      by_cases h0 : we = 0
      · subst h0
        have hown := own_below (unhide HO) f1
        have HLO := hide hown.lt
        have FW := hide fw
        have hsz := fw.size
        have NX := hide (unhide HX rfl)
        have hc3 : al.length + wl.length ≤ maxLen := by unfold maxLen; omega
        have hone := bv_one wl
        have hwl0 : (bv wl).length = wl.length * 1 := by rw [bv_length]; omega
        obtain ⟨q1, hq, _⟩ := hq1 (unhide HW rfl)
        subst hq
        have hsrc := (own_bytes o1).2 ⟨q1, 0, none⟩ rfl
        clear f1 fw HH1 HO HX HY HF o1
        go_wp2_with (at_builtin; refine wpList_append_own _ rfl (.tmp 26) (.tmp 27) 25 rfl w.heap.size 5 i0 (.int .u8 0) 1 1 Tryd.underlying25 hi hz0 hz1 hz2 rfl (by decide) _ _ _ rfl hown ⟨q1, 0, none⟩ wl.length c1' (bv wl) rfl hwl0 hsrc hone hc3 (by omega) hsz ?_)
        intro v3 w3 o3 g3 _
        have f3 : Below w.heap.size w w3 := (unhide FW).grown g3 (unhide FW).size (fun x hx => (unhide HLO x hx).1)
        have HS3 := hide (unhide NX v3 w3 o3 f3)
        clear o3 g3 f3 hown hsrc NX HLO FW hone
        go_wp2
        go_roundw
        case rel => exact ⟨k + 1, by go_num, unhide HS3⟩
        case measure => simp [intOf]; omega
      · obtain ⟨e1, e2⟩ := unhide HY h0
        subst e1
        subst e2
        have FW := hide fw
        clear f1 fw HH1 HO HX HY HF o1 hq1
        go_wp2
        go_ret2
        exact ⟨_, rfl, World.ownsRow_nil _ _ _ _, unhide FW⟩
    · obtain rfl : k = n := by omega
      subst hln
      obtain ⟨d1, d2⟩ := hR.done
      rw [unhide HAE] at d1
      rw [unhide HAB] at d2
      subst d1
      have D2 := hide d2
      have F2 := hide hR.fr
      clear d2 hR
      go_wp2
      go_ret2
      exact ⟨_, rfl, unhide D2, unhide F2⟩

set_option maxHeartbeats 1600000 in
theorem SameRecords_same (w : World) (a b : Option Addr) (n c d : Nat) (x : List Rec) (hA : Rs w a n x) (hB : Rs w b n x) (hs : n ≤ 140737488351232) :
    Calls Tryd.prog 21 #[.slice a n c, .slice b n d] w fun e w' => e = .returned (.bool true) ∧ Below w.heap.size w w' := by
  have hln := hA.1
  have HA := hide hA
  have HB := hide hB
  clear hA hB
  go_enter Tryd.func21, Tryd.ntmps21
  go_wp2
  go_loopw [5] (fun i wr => ∃ k : Nat, k ≤ n ∧ i = .int .i64 k ∧ Below w.heap.size w wr) (fun i _ => n - (intOf i).toNat)
  case atStart => exact ⟨0, by omega, rfl, Below.refl _ _⟩
  case round =>
    obtain ⟨k, hk, rfl, hR⟩ := hrel
    by_cases hlt : k < n
    · have hlt1 : (k : Int) < (n : Int) := by omega
      obtain ⟨b1, o1, rfl, h1⟩ := (unhide HA).2.resolve_left (by omega)
      obtain ⟨b2, o2, rfl, h2⟩ := (unhide HB).2.resolve_left (by omega)
      obtain ⟨r, hr⟩ : ∃ r, x[k]? = some r := ⟨_, List.getElem?_eq_getElem (by omega)⟩
      obtain ⟨c0, c1⟩ := recs_get (h1.below hR) hr
      obtain ⟨d0, d1⟩ := recs_get (h2.below hR) hr
      generalize r.epoch = ep at *
      generalize (⟨r.data.toArray⟩ : ByteArray) = st at *
      have HR := hide hR
      clear h1 h2 hr hR
      go_wp2
      go_quiet (fail)
      go_wp2
      go_roundw
      case rel => exact ⟨k + 1, by omega, by go_num, below_drewN (unhide HR) _⟩
      case measure => simp [intOf]; omega
    · obtain rfl : k = n := by omega
      have HR := hide hR
      clear hR
      go_wp2
      go_ret
      exact ⟨rfl, unhide HR⟩

end Go.Proofs.YtnkmcndbbapeoaaDoor
