/- The program's own frames (this text speaks of the code's inner functions): refusal, Size, split, merged, joined. -/
import Derived.Test.YtnkmcndbbapeoaaDoorFrQ
import Derived.Test.YtnkmcndbbapeoaaDoorSmP2
import Derived.Laws.IdiomStrings
namespace Go.Proofs.YtnkmcndbbapeoaaDoor
open Go.RowKit
set_option linter.unusedVariables false

set_option maxHeartbeats 800000 in
theorem refusal_any (w : World) (r : Rec) :
    Calls Tryd.prog 25 #[recV r] w fun e w' => e = .returned (.int .i64 (writeE r)) ∧ Below w.heap.size w w' := by
  have FB : Hid (Below w.heap.size w (w.alloc (.cells #[.int .i64 r.epoch, .string ⟨r.data.toArray⟩] 24))) := (Below.refl _ _).alloc (Nat.le_refl _) _
  unfold recV
  by_cases h1 : r.epoch < 0
  · rw [show writeE r = 2 by unfold writeE; rw [if_pos (.inl h1)]]
    have g1 : decide (r.epoch < 0) = true := by simpa using h1
    go_enter Tryd.func25, Tryd.ntmps25
    go_wp2
    go_ret
    exact ⟨rfl, unhide FB⟩
  · have g1 : decide (r.epoch < 0) = false := by simpa using h1
    by_cases h2 : 4294967295 < r.epoch
    · rw [show writeE r = 2 by unfold writeE; rw [if_pos (.inr h2)]]
      have g2 : decide (4294967295 < r.epoch) = true := by simpa using h2
      go_enter Tryd.func25, Tryd.ntmps25
      go_wp2
      go_ret
      exact ⟨rfl, unhide FB⟩
    · have g2 : decide (4294967295 < r.epoch) = false := by simpa using h2
      by_cases h3 : 4096 < r.data.length
      · rw [show writeE r = 3 by unfold writeE; rw [if_neg (by omega), if_pos h3]]
        have g3 : decide ((4096 : Int) < (r.data.length : Int)) = true := by simp; omega
        go_enter Tryd.func25, Tryd.ntmps25
        go_wp2
        go_ret
        exact ⟨rfl, unhide FB⟩
      · rw [show writeE r = 0 by unfold writeE; rw [if_neg (by omega), if_neg h3]]
        have g3 : decide ((4096 : Int) < (r.data.length : Int)) = false := by simp; omega
        go_enter Tryd.func25, Tryd.ntmps25
        go_wp2
        go_ret
        exact ⟨rfl, unhide FB⟩

theorem fsplit_any (w : World) (n : Nat) (hn : n < W32) :
    Calls Tryd.prog 26 #[.int .i64 (n : Int)] w fun e w' => e = .returned (.slice (some ⟨w.heap.size, 0, none⟩) 4 4) ∧ w' = w.alloc (.cells (bv (be4 n)).toArray 5) := by
  have hn' : n < 4294967296 := hn
  have hm : (n : Int) / 16777216 % 256 = (n : Int) / 16777216 := by omega
  rw [bv_be4 n, hm]
  clear hm
  go_enter Tryd.func26, Tryd.ntmps26
  go_wp2
  go_ret
  exact ⟨rfl, rfl⟩

/-- The number of bytes, the highest first. -/
def acc (l : List UInt8) : Nat := l.foldl (fun n x => n * 256 + x.toNat) 0
theorem acc_take (l : List UInt8) {k : Nat} (hk : k < l.length) : acc (l.take (k + 1)) = acc (l.take k) * 256 + l[k].toNat := by
  rw [List.take_succ_eq_append_getElem hk]
  unfold acc
  rw [List.foldl_append]
  rfl
theorem acc_le (l : List UInt8) (hl : l.length = 4) (k : Nat) (hk : k < 4) : acc (l.take k) < 16777216 := by
  match l, hl with
  | [a, b, c, d], _ =>
    have := a.toNat_lt
    have := b.toNat_lt
    have := c.toNat_lt
    match k, hk with
    | 0, _ => simp [acc]
    | 1, _ => simp [acc]; omega
    | 2, _ => simp [acc]; omega
    | 3, _ => simp [acc]; omega
theorem acc_num (l : List UInt8) (hl : l.length = 4) : acc l = num l := by
  match l, hl with
  | [a, b, c, d], _ =>
    simp [acc, num]
    omega
theorem or_byte (v x : Nat) (hv : v < 16777216) (hx : x < 256) : bits .or .i64 ((v : Int) * 256) (x : Int) = (v : Int) * 256 + (x : Int) := by
  have e : (v : Int) * 256 = ((v * 256 : Nat) : Int) := by omega
  rw [e]
  show IntKind.i64.wrap ((BitVec.ofInt 64 ((v * 256 : Nat) : Int) ||| BitVec.ofInt 64 (x : Int)).toNat : Int) = _
  rw [BitVec.toNat_or, ofInt_u64 _ (by omega), ofInt_u64 _ (by omega), nat_join 8 _ _ (by omega) (by omega), IntKind.wrap_i64]
  omega

set_option maxHeartbeats 800000 in
theorem merged_at (w : World) (b o cap : Nat) (l : List UInt8) (hn : l.length = 4) (h : BytesAt w (some ⟨b, o, none⟩) l) :
    Calls Tryd.prog 30 #[.slice (some ⟨b, o, none⟩) 4 cap] w fun e w' => e = .returned (.int .i64 (num l : Int)) ∧ w' = w := by
  have H := hide (fun k (hk : k < l.length) => bytes_get h hk)
  rw [← acc_num l hn]
  clear h
  go_enter Tryd.func30, Tryd.ntmps30
  go_wp2
  go_loopw [3, 8] (fun s i wr => ∃ k : Nat, k ≤ 4 ∧ i = .int .i64 k ∧ s = .int .i64 (acc (l.take k) : Int) ∧ wr = w) (fun _ i _ => 4 - (intOf i).toNat)
  case atStart => exact ⟨0, by omega, rfl, rfl, rfl⟩
  case round =>
    obtain ⟨k, hk, rfl, rfl, rfl⟩ := hrel
    by_cases hlt : k < 4
    · have hkl : k < l.length := by omega
      have hcell := unhide H k hkl
      have hnext : (acc (l.take (k + 1)) : Int) = (acc (l.take k) : Int) * 256 + (l[k].toNat : Int) := by rw [acc_take l hkl]; omega
      have hv := acc_le l hn k hlt
      generalize acc (l.take k) = v at *
      have hx := l[k].toNat_lt
      have hor := or_byte v l[k].toNat hv (by omega)
      have HN := hide hnext
      clear hnext
      generalize l[k] = bk at *
      go_wp2
      go_roundw
      case rel => exact ⟨k + 1, by omega, by go_num, by rw [unhide HN], trivial⟩
      case measure => simp [intOf]; omega
    · obtain rfl : k = 4 := by omega
      have ht : l.take 4 = l := List.take_of_length_le (by omega)
      rw [ht] at *
      go_wp2
      go_ret
      exact ⟨rfl, rfl⟩

/-- Parts: a row of slices of bytes, each somewhere. -/
def PartsS (w : World) (b o : Nat) (ls : List (List UInt8)) : Prop := ∀ (j : Nat) (l : List UInt8), ls[j]? = some l → l.length ≤ 4108 ∧ ∃ ad cap, w.cell? ⟨b, o + j, none⟩ = some (.slice (some ad) l.length cap) ∧ BytesAt w (some ad) l
theorem PartsS.below {w w' : World} {b o : Nat} {ls : List (List UInt8)} (h : PartsS w b o ls) (f : Below w.heap.size w w') : PartsS w' b o ls := fun j l hj => by
  obtain ⟨h1, ad, cap, hc, hb⟩ := h j l hj
  exact ⟨h1, ad, cap, (f.cell (World.block_lt_of_cell? w _ hc)).trans hc, hb.below f⟩
theorem flat_take (ls : List (List UInt8)) {k : Nat} {l : List UInt8} (hk : ls[k]? = some l) : (ls.take (k + 1)).flatten = (ls.take k).flatten ++ l := by
  obtain ⟨hlt, rfl⟩ := List.getElem?_eq_some_iff.1 hk
  rw [List.take_succ_eq_append_getElem hlt, List.flatten_append]
  simp
theorem flat_le (ls : List (List UInt8)) (h : ∀ (j : Nat) (l : List UInt8), ls[j]? = some l → l.length ≤ 4108) : ∀ k, k ≤ ls.length → (ls.take k).flatten.length ≤ k * 4108
  | 0, _ => by simp
  | k + 1, hk => by
    have ih := flat_le ls h k (by omega)
    have hg : ls[k]? = some ls[k] := List.getElem?_eq_getElem (by omega)
    have := h k _ hg
    rw [flat_take ls hg, List.length_append]
    omega

theorem madeN (w : World) (n : Nat) (hn : n ≤ 10000000) :
    ∃ w', (Instr.makeSlice 25 (.int .i64 0) (.int .i64 (n : Int))).run Tryd.prog w = .ok (.slice (some ⟨w.heap.size, 0, none⟩) 0 n) w' ∧
      w'.ownsRow w.heap.size 5 1 (.slice (some ⟨w.heap.size, 0, none⟩) 0 n) 0 [] ∧ Below w.heap.size w w' := by
  obtain ⟨i0, hi, hz0, hz1, hz2⟩ := info_parts infoB
  obtain ⟨w', h1, h2, h3⟩ := run_make_own (P := Tryd.prog) w w.heap.size 25 5 i0 (.int .u8 0) 1 Tryd.underlying25 hi hz0 hz1 .i64 .i64 n (by rw [hz2]; omega) (by unfold maxLen; omega) (Nat.le_refl _)
  exact ⟨w', h1, h2, (Below.refl _ _).grown h3 (Nat.le_refl _) (fun k hk => by cases hk)⟩

/-- Between two rounds of joined. -/
structure JR (w : World) (ls : List (List UInt8)) (k : Nat) (v : Value) (W : World) : Prop where
  le : k ≤ ls.length
  own : W.ownsRow w.heap.size 5 1 v (ls.take k).flatten.length (bv (ls.take k).flatten)
  fr : Below w.heap.size w W
theorem JR.next {w : World} {ls : List (List UInt8)} {k : Nat} {l : List UInt8} {v v2 : Value} {W W2 : World} (h : JR w ls k v W) (hk : ls[k]? = some l) (o : W2.ownsRow w.heap.size 5 1 v2 ((ls.take k).flatten.length + l.length) (bv (ls.take k).flatten ++ bv l)) (f : Below w.heap.size w W2) : JR w ls (k + 1) v2 W2 := by
  refine ⟨(List.getElem?_eq_some_iff.1 hk).1, ?_, f⟩
  rw [flat_take ls hk, List.length_append, bv_append]
  exact o

set_option maxHeartbeats 1600000 in
theorem joined_at (w : World) (b o n cap : Nat) (ls : List (List UInt8)) (hn : ls.length = n) (hs : n ≤ 1000) (h : PartsS w b o ls) :
    Calls Tryd.prog 24 #[.slice (some ⟨b, o, none⟩) n cap] w fun e w' => ∃ v, e = .returned v ∧ w'.ownsRow w.heap.size 5 1 v ls.flatten.length (bv ls.flatten) ∧ Below w.heap.size w w' := by
  have hle := flat_le ls (fun j l hj => (h j l hj).1)
  have HLE := hide hle
  have HP := hide h
  clear h hle
  go_enter Tryd.func24, Tryd.ntmps24
  go_wp2
  go_loopw [3, 11] (fun s i wr => ∃ k : Nat, k ≤ n ∧ i = .int .i64 k ∧ s = .int .i64 ((ls.take k).flatten.length : Int) ∧ wr = w) (fun _ i _ => n - (intOf i).toNat)
  case atStart => exact ⟨0, by omega, rfl, rfl, rfl⟩
  case round =>
    obtain ⟨k, hk, rfl, rfl, hw⟩ := hrel
    have hw' := hw.symm
    subst hw'
    have hb := unhide HLE k (by omega)
    by_cases hlt : k < n
    · have hg : ls[k]? = some ls[k] := List.getElem?_eq_getElem (by omega)
      obtain ⟨hll, ad, c, hc, _⟩ := unhide HP k _ hg
      have hnext : ((ls.take (k + 1)).flatten.length : Int) = ((ls.take k).flatten.length : Int) + (ls[k].length : Int) := by rw [flat_take ls hg, List.length_append]; omega
      have HN := hide hnext
      clear hnext hg
      generalize (ls.take k).flatten.length = L at *
      generalize ls[k] = lk at *
      go_wp2
      go_roundw
      case rel => exact ⟨k + 1, by omega, by go_num, by rw [unhide HN], trivial⟩
      case measure => simp [intOf]; omega
    · obtain rfl : k = n := by omega
      have ht : ls.take k = ls := List.take_of_length_le (by omega)
      rw [ht] at hb ⊢
      clear ht hlt hk
      obtain ⟨w0, hm, hown, f0⟩ := madeN w ls.flatten.length (by omega)
      have hJ0 : JR w ls 0 (.slice (some ⟨w.heap.size, 0, none⟩) 0 ls.flatten.length) w0 := ⟨by omega, hown, f0⟩
      have HJ0 := hide hJ0
      obtain ⟨i0, hi, hz0, hz1, hz2⟩ := info_parts infoB
      generalize hT : ls.flatten.length = T at *
      have HT := hide hT
      clear hJ0 hown f0 hT
      go_wp2
      go_loopw [6, 24] (fun v i wn => ∃ k : Nat, i = .int .i64 k ∧ JR w ls k v wn) (fun _ i _ => k - (intOf i).toNat)
      case atStart => exact ⟨0, rfl, unhide HJ0⟩
      case round =>
        clear HJ0
        obtain ⟨j, rfl, hR⟩ := hrel
        have hj := hR.le
        obtain ⟨oa, oc, rfl, _⟩ := own_form hR.own
        by_cases hlt : j < k
        · have hg : ls[j]? = some ls[j] := List.getElem?_eq_getElem (by omega)
          obtain ⟨hll, ad, c, hc, hbs⟩ := (unhide HP).below hR.fr j _ hg
          have HNX := hide (fun v2 W2 => JR.next (v2 := v2) (W2 := W2) hR hg)
          have hsrc := hbs.2 ad rfl
          have hown := hR.own
          have HLO := hide hown.lt
          have FW := hide hR.fr
          have hsz := hR.fr.size
          have hLb := unhide HLE j (by omega)
          generalize (ls.take j).flatten = al at *
          generalize ls[j] = lj at *
          have hone := bv_one lj
          have hll0 : (bv lj).length = lj.length * 1 := by rw [bv_length]; omega
          have hc3 : al.length + lj.length ≤ maxLen := by unfold maxLen; omega
          clear hg hR hbs
          go_wp2_with (at_builtin; refine wpList_append_own _ rfl (.tmp 28) (.tmp 29) 25 rfl w.heap.size 5 i0 (.int .u8 0) 1 1 Tryd.underlying25 hi hz0 hz1 hz2 rfl (by decide) _ _ _ rfl hown ad lj.length c (bv lj) rfl hll0 hsrc hone hc3 (by omega) hsz ?_)
          intro v3 w3 o3 g3 _
          have f3 : Below w.heap.size w w3 := (unhide FW).grown g3 (unhide FW).size (fun x hx => (unhide HLO x hx).1)
          have HS3 := hide (unhide HNX v3 w3 o3 f3)
          clear o3 g3 f3 hown hsrc HNX HLO FW hone
          go_wp2
          go_roundw
          case rel => exact ⟨j + 1, by go_num, unhide HS3⟩
          case measure => simp [intOf]; omega
        · obtain rfl : j = k := by omega
          have d2 := hR.own
          have ht : ls.take j = ls := List.take_of_length_le (by omega)
          rw [ht] at d2 ⊢
          have D2 := hide d2
          have F2 := hide hR.fr
          clear hR d2 ht
          go_wp2
          go_ret
          exact ⟨_, rfl, unhide D2, unhide F2⟩

end Go.Proofs.YtnkmcndbbapeoaaDoor
