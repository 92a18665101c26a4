/- The contracts of the document's own sums: On, Of. -/
import Derived.Test.YtnkmcndbbapeoaaDoorSmA
namespace Go.Proofs.YtnkmcndbbapeoaaDoor
open Go.RowKit
set_option linter.unusedVariables false

theorem x32 (a b : Nat) (ha : a < W32) (hb : b < W32) : bits .xor .u32 (a : Int) (b : Int) = ((a ^^^ b : Nat) : Int) := u32_xor_nat a b ha hb

theorem x32b (a : Nat) (b : UInt8) (ha : a < W32) : bits .xor .u32 (a : Int) ((b.toNat : Int) % 4294967296) = ((a ^^^ b.toNat : Nat) : Int) := by
  have h := u8_lt b
  rw [Int.emod_eq_of_lt (by omega) (by omega)]
  exact x32 a b.toNat ha (byte_lt b)

theorem step_odd (t : Nat) (ht : t < W32) (h : t % 2 = 1) : ((t : Int) % 2 == 1) = true ∧ bits .xor .u32 ((t : Int) / 2 % 4294967296) 2197175160 = (step t : Int) := by
  have ht' : t < 4294967296 := ht
  refine ⟨by simp; omega, ?_⟩
  have e : (t : Int) / 2 % 4294967296 = ((t / 2 : Nat) : Int) := by omega
  rw [e]
  have := x32 (t / 2) poly (by show t / 2 < 4294967296; omega) (by decide)
  unfold step
  rw [if_pos h]
  exact this
theorem step_even (t : Nat) (ht : t < W32) (h : ¬ t % 2 = 1) : ((t : Int) % 2 == 1) = false ∧ (t : Int) / 2 % 4294967296 = (step t : Int) := by
  have ht' : t < 4294967296 := ht
  refine ⟨by simp; omega, ?_⟩
  unfold step
  rw [if_neg h]
  omega

/-- k steps. -/
def stepN : Nat → Nat → Nat
  | 0, c => c
  | k + 1, c => step (stepN k c)
theorem stepN_lt {c : Nat} (h : c < W32) : ∀ k, stepN k c < W32
  | 0 => h
  | k + 1 => step_lt (stepN_lt h k)
theorem stepN_eight (c : Nat) : stepN 8 c = S8 c := rfl

theorem crc_take (c : Nat) (l : List UInt8) {k : Nat} (hk : k < l.length) : crc c (l.take (k + 1)) = S8 (crc c (l.take k) ^^^ l[k].toNat) := by
  rw [List.take_succ_eq_append_getElem hk, crc_snoc]

set_option maxHeartbeats 800000 in
theorem qOn_at (w : World) (c : Nat) (hc : c < W32) (b o n cap : Nat) (l : List UInt8) (hn : l.length = n) (hs : n ≤ 140737488351232) (h : BytesAt w (some ⟨b, o, none⟩) l) :
    Calls Tryd.prog 41 #[.int .u32 (c : Int), .slice (some ⟨b, o, none⟩) n cap] w fun e w' => e = .returned (.int .u32 (onS c l : Int)) ∧ w' = w := by
  have H := hide (fun k (hk : k < l.length) => bytes_get h hk)
  have hcf : bits .xor .u32 (c : Int) 4294967295 = ((c ^^^ full : Nat) : Int) := x32 c full hc full_lt
  have hc2 := xor_lt hc full_lt
  have HC := hide hc2
  clear h
  go_enter Tryd.func41, Tryd.ntmps41
  go_wp2
  go_loopw [0, 5] (fun s i wr => ∃ k : Nat, k ≤ n ∧ i = .int .i64 k ∧ s = .int .u32 (crc (c ^^^ full) (l.take k) : Int) ∧ wr = w) (fun _ i _ => n - (intOf i).toNat)
  case atStart => exact ⟨0, by omega, rfl, rfl, rfl⟩
  case round =>
    obtain ⟨k, hk, rfl, rfl, rfl⟩ := hrel
    have hlt0 := crc_lt (l.take k) (unhide HC)
    generalize hv : crc (c ^^^ full) (l.take k) = v at *
    by_cases hlt : k < n
    · have hkl : k < l.length := by omega
      have hcell := unhide H k hkl
      have hx := x32b v l[k] hlt0
      have hy := xor_lt hlt0 (byte_lt l[k])
      have hnext := crc_take (c ^^^ full) l hkl
      rw [hv] at hnext
      have HN := hide hnext
      have HY := hide hy
      clear hnext hy hv
      generalize l[k] = bk at *
      generalize hz : v ^^^ bk.toNat = z at *
      go_wp2
      go_loopw [0, 6] (fun s i wr' => ∃ j : Nat, j ≤ 8 ∧ i = .int .i64 j ∧ s = .int .u32 (stepN j z : Int) ∧ wr' = wr) (fun _ i _ => 8 - (intOf i).toNat)
      case atStart => exact ⟨0, by omega, rfl, rfl, rfl⟩
      case round =>
        obtain ⟨j, hj, rfl, rfl, rfl⟩ := hrel
        have hl2 := stepN_lt (unhide HY) j
        have hst : stepN (j + 1) z = step (stepN j z) := rfl
        have HST := hide hst
        clear hst
        generalize ht : stepN j z = t at *
        have HT := hide ht
        clear ht
        by_cases hj8 : j < 8
        · by_cases hodd : t % 2 = 1
          · obtain ⟨o1, o2⟩ := step_odd t hl2 hodd
            go_wp2
            go_roundw
            case rel => exact ⟨j + 1, by omega, by go_num, by rw [unhide HST], trivial⟩
            case measure => simp [intOf]; omega
          · obtain ⟨o1, o2⟩ := step_even t hl2 hodd
            go_wp2
            go_roundw
            case rel => exact ⟨j + 1, by omega, by go_num, by rw [unhide HST, o2], trivial⟩
            case measure => simp [intOf]; omega
        · obtain rfl : j = 8 := by omega
          go_wp2
          go_roundw
          case rel => exact ⟨k + 1, by omega, by go_num, by rw [unhide HN, ← unhide HT]; rfl, trivial⟩
          case measure => simp [intOf]; omega
    · obtain rfl : k = n := by omega
      have ht : l.take k = l := List.take_of_length_le (by omega)
      rw [ht] at hv
      have hfin := x32 v full hlt0 full_lt
      have hfin' : bits .xor .u32 (v : Int) 4294967295 = (onS c l : Int) := by
        rw [show onS c l = v ^^^ full by unfold onS; rw [hv]]
        exact hfin
      clear hfin
      go_wp2
      go_ret
      exact ⟨rfl, rfl⟩


set_option maxHeartbeats 800000 in
theorem qOn_nil (w : World) (c : Nat) (hc : c < W32) (a : Option Addr) (cap : Nat) :
    Calls Tryd.prog 41 #[.int .u32 (c : Int), .slice a 0 cap] w fun e w' => e = .returned (.int .u32 (c : Int)) ∧ w' = w := by
  have hcf : bits .xor .u32 (c : Int) 4294967295 = ((c ^^^ full : Nat) : Int) := x32 c full hc full_lt
  have hcg : bits .xor .u32 ((c ^^^ full : Nat) : Int) 4294967295 = (c : Int) := by
    have := x32 (c ^^^ full) full (xor_lt hc full_lt) full_lt
    rw [full_full] at this
    exact this
  go_enter Tryd.func41, Tryd.ntmps41
  go_wp2
  refine wp_loop_rounds 1 ?_
  rw [rounds_succ]
  go_wp2
  go_ret
  exact ⟨rfl, rfl⟩
theorem qOn_any (w : World) (c : Nat) (hc : c < W32) (a : Option Addr) (n cap : Nat) (l : List UInt8) (hs : n ≤ 140737488351232) (h : Bs w a n l) :
    Calls Tryd.prog 41 #[.int .u32 (c : Int), .slice a n cap] w fun e w' => e = .returned (.int .u32 (onS c l : Int)) ∧ w' = w := by
  rcases h with ⟨h1, h2 | ⟨b, o, rfl, h2⟩⟩
  · subst h2
    have : l = [] := List.eq_nil_of_length_eq_zero h1
    subst this
    rw [onS_nil]
    exact qOn_nil w c hc a cap
  · exact qOn_at w c hc b o n cap l h1 hs h2

set_option maxHeartbeats 400000 in
theorem qOf_any (w : World) (a : Option Addr) (n cap : Nat) (l : List UInt8) (hs : n ≤ 140737488351232) (h : Bs w a n l) :
    Calls Tryd.prog 37 #[.slice a n cap] w fun e w' => e = .returned (.int .u32 (onS 0 l : Int)) ∧ w' = w := by
  have H := hide (qOn_any w 0 zero_lt32 a n cap l hs h)
  clear h
  go_enter Tryd.func37, Tryd.ntmps37
  go_wp2_with fail
  refine (unhide H).mono ?_
  rintro e w' ⟨rfl, rfl⟩
  go_wp2
  go_ret
  exact ⟨rfl, rfl⟩


theorem bv_be4 (s : Nat) : bv (be4 s) = [.int .u8 ((s : Int) / 16777216 % 256), .int .u8 ((s : Int) / 65536 % 256), .int .u8 ((s : Int) / 256 % 256), .int .u8 ((s : Int) % 256)] := by
  simp [bv, be4]

set_option maxHeartbeats 800000 in
theorem qSeal_some (w : World) (ad : Addr) (n cap : Nat) (l : List UInt8) (hs : n ≤ 1000000) (h : Bs w (some ad) n l) :
    Calls Tryd.prog 29 #[.slice (some ad) n cap] w fun e w' => ∃ v, e = .returned v ∧ w'.ownsRow w.heap.size 5 1 v (n + 4) (bv (sealL l)) ∧ Below w.heap.size w w' := by
  have H := hide (qOf_any w (some ad) n cap l (by omega) h)
  have hc := onS_lt l zero_lt32
  have hsl : sealL l = l ++ be4 (onS 0 l) := rfl
  have HSL := hide hsl
  clear hsl
  generalize onS 0 l = s at *
  obtain ⟨i0, hi, hz0, hz1, hz2⟩ := info_parts infoB
  have hown : (w.alloc (.cells #[] 5)).ownsRow w.heap.size 5 1 (.slice (some ⟨w.heap.size, 0, none⟩) 0 0) 0 [] := World.ownsRow_made w #[] 0 (Nat.le_refl _) (by simp) rfl
  have hsrc := h.at.2 ad rfl
  have hn := h.1
  clear h
  go_enter Tryd.func29, Tryd.ntmps29
  go_wp2_with fail
  refine (unhide H).mono ?_
  rintro e w' ⟨rfl, rfl⟩
  go_wp2_with (at_builtin; refine wpList_append_own _ rfl (.tmp 6) (.tmp 7) 25 rfl w'.heap.size 5 i0 (.int .u8 0) 1 1 Tryd.underlying25 hi hz0 hz1 hz2 rfl (by decide) _ _ _ rfl hown ad n cap (bv l) rfl ?c0 ?c1 ?c2 ?c3 ?c4 ?c5 ?_)
  case c0 => rw [bv_length, hn]; omega
  case c1 => exact fun j u hu => cell_alloc (hsrc j u hu) _
  case c2 => exact bv_one _
  case c3 => unfold maxLen; omega
  case c4 => omega
  case c5 => simp
  intro v1 w1 hown1 hgrow _
  have hb : Below w'.heap.size w' w1 := ((Below.refl _ _).alloc (Nat.le_refl _) _).grown hgrow (by simp) (fun k hk => by simp [Value.ownBlock] at hk; omega)
  obtain ⟨a1, c1, rfl, _⟩ := own_form hown1
  have hown2 := own_below hown1 ((Below.refl _ _).alloc (Nat.le_refl _) (.cells (bv (be4 s)).toArray 5))
  have hb2 : Below w'.heap.size w' (w1.alloc (.cells (bv (be4 s)).toArray 5)) := hb.alloc hb.size _
  have hlo := hown1.lt
  have hs4 : w1.heap.size < (w1.alloc (.cells (bv (be4 s)).toArray 5)).heap.size := by simp
  have hsrc2 : ∀ j u, (bv (be4 s))[j]? = some u → (w1.alloc (.cells (bv (be4 s)).toArray 5)).cell? (Addr.add ⟨w1.heap.size, 0, none⟩ j) = some u := World.news_of_block (heap_alloc_last w1 _)
  rw [bv_be4] at hown2 hb2 hsrc2
  have HB := hide hb2
  clear hown1 hgrow hb hown hsrc
  go_wp2_with (at_builtin; (refine wpList_append_own _ rfl (.tmp 8) (.tmp 20) 25 rfl w'.heap.size 5 i0 (.int .u8 0) 1 1 Tryd.underlying25 hi hz0 hz1 hz2 rfl (by decide) _ _ _ rfl hown2 ⟨w1.heap.size, 0, none⟩ 4 4 [.int .u8 ((s : Int) / 16777216 % 256), .int .u8 ((s : Int) / 65536 % 256), .int .u8 ((s : Int) / 256 % 256), .int .u8 ((s : Int) % 256)] rfl ?c0 ?c1 ?c2 ?c3 ?c4 ?c5 ?_))
  case c0 => rfl
  case c1 => exact hsrc2
  case c2 => rw [← bv_be4]; exact bv_one _
  case c3 => unfold maxLen; omega
  case c4 => omega
  case c5 => exact hb2.size
  intro v' w2 hown' hgrow' _
  have hb3 : Below w'.heap.size w' w2 := (unhide HB).grown hgrow' (unhide HB).size (fun k hk => (hlo k hk).1)
  have HO := hide hown'
  have HB3 := hide hb3
  clear hown' hgrow' hb3 hown2 hsrc2
  go_wp2
  go_ret
  refine ⟨_, rfl, ?_, unhide HB3⟩
  have := unhide HO
  rw [unhide HSL, bv_append, bv_be4]
  exact this

set_option maxHeartbeats 800000 in
theorem qSeal_none (w : World) :
    Calls Tryd.prog 29 #[.slice none 0 0] w fun e w' => ∃ v, e = .returned v ∧ w'.ownsRow w.heap.size 5 1 v (0 + 4) (bv (sealL [])) ∧ Below w.heap.size w w' := by
  have H := hide (qOf_any w none 0 0 [] (by omega) ⟨rfl, .inl rfl⟩)
  have hc := onS_lt [] zero_lt32
  have hsl : sealL [] = [] ++ be4 (onS 0 []) := rfl
  have HSL := hide hsl
  clear hsl
  generalize onS 0 [] = s at *
  obtain ⟨i0, hi, hz0, hz1, hz2⟩ := info_parts infoB
  have hown : (w.alloc (.cells #[] 5)).ownsRow w.heap.size 5 1 (.slice (some ⟨w.heap.size, 0, none⟩) 0 0) 0 [] := World.ownsRow_made w #[] 0 (Nat.le_refl _) (by simp) rfl
  have hb : Below w.heap.size w (w.alloc (.cells #[] 5)) := (Below.refl _ _).alloc (Nat.le_refl _) _
  have hown2 := own_below hown ((Below.refl _ _).alloc (Nat.le_refl _) (.cells (bv (be4 s)).toArray 5))
  have hb2 : Below w.heap.size w ((w.alloc (.cells #[] 5)).alloc (.cells (bv (be4 s)).toArray 5)) := hb.alloc hb.size _
  have hsrc2 : ∀ j u, (bv (be4 s))[j]? = some u → ((w.alloc (.cells #[] 5)).alloc (.cells (bv (be4 s)).toArray 5)).cell? (Addr.add ⟨w.heap.size + 1, 0, none⟩ j) = some u := by
    have := World.news_of_block (heap_alloc_last (w.alloc (.cells #[] 5)) (.cells (bv (be4 s)).toArray 5))
    simpa using this
  rw [bv_be4] at hown2 hb2 hsrc2
  have HB := hide hb2
  go_enter Tryd.func29, Tryd.ntmps29
  go_wp2_with fail
  refine (unhide H).mono ?_
  rintro e w' ⟨rfl, rfl⟩
  have cap4 : (0 : Nat) + 4 ≤ maxLen := by unfold maxLen; omega
  have one4 := bv_one (be4 s)
  rw [bv_be4] at one4
  go_wp2_with (first
    | (at_builtin; refine wpList_append_own_none rfl (.tmp 6) (.tmp 7) 25 rfl w'.heap.size 5 i0 1 Tryd.underlying25 hi _ _ _ rfl hown rfl ?_)
    | (at_builtin; refine wpList_append_own _ rfl (.tmp 8) (.tmp 20) 25 rfl w'.heap.size 5 i0 (.int .u8 0) 1 1 Tryd.underlying25 hi hz0 hz1 hz2 rfl (by decide) _ _ _ rfl hown2 ⟨w'.heap.size + 1, 0, none⟩ 4 4 [.int .u8 ((s : Int) / 16777216 % 256), .int .u8 ((s : Int) / 65536 % 256), .int .u8 ((s : Int) / 256 % 256), .int .u8 ((s : Int) % 256)] rfl rfl hsrc2 one4 cap4 (by omega) hb2.size ?_))
  intro v' w2 hown' hgrow' _
  have hb3 : Below w'.heap.size w' w2 := (unhide HB).grown hgrow' (unhide HB).size (fun k hk => (hown.lt k hk).1)
  have HO := hide hown'
  have HB3 := hide hb3
  clear hown' hgrow' hb3 hown2 hsrc2 hown
  go_wp2
  go_ret
  refine ⟨_, rfl, ?_, unhide HB3⟩
  have := unhide HO
  rw [unhide HSL, bv_append, bv_be4]
  exact this

theorem qSeal_any (w : World) (a : Option Addr) (n cap : Nat) (l : List UInt8) (hs : n ≤ 1000000) (ha : a = none → n = 0 ∧ cap = 0) (h : Bs w a n l) :
    Calls Tryd.prog 29 #[.slice a n cap] w fun e w' => ∃ v, e = .returned v ∧ w'.ownsRow w.heap.size 5 1 v (n + 4) (bv (sealL l)) ∧ Below w.heap.size w w' := by
  cases a with
  | none =>
    obtain ⟨rfl, rfl⟩ := ha rfl
    have : l = [] := List.eq_nil_of_length_eq_zero h.1
    subst this
    exact qSeal_none w
  | some ad => exact qSeal_some w ad n cap l hs h

end Go.Proofs.YtnkmcndbbapeoaaDoor
