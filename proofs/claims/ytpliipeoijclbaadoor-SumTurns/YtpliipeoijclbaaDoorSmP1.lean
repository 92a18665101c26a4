/- The program's own sums (this text speaks of the code's inner functions): a half byte's table; On, Of. -/
import Derived.Test.YtpliipeoijclbaaDoorSmO
namespace Go.Proofs.YtpliipeoijclbaaDoor
open Go.RowKit
set_option linter.unusedVariables false

theorem split16 (c : Nat) : (16 * (c / 16)) ^^^ (c % 16) = c := by
  have h1 : ((16 * (c / 16)) ^^^ (c % 16)) / 2 ^ 4 = (16 * (c / 16)) / 2 ^ 4 ^^^ (c % 16) / 2 ^ 4 := Nat.xor_div_two_pow
  have h2 : ((16 * (c / 16)) ^^^ (c % 16)) % 2 ^ 4 = (16 * (c / 16)) % 2 ^ 4 ^^^ (c % 16) % 2 ^ 4 := Nat.xor_mod_two_pow
  rw [show (16 * (c / 16)) / 2 ^ 4 = c / 16 by omega, show (c % 16) / 2 ^ 4 = 0 by omega, Nat.xor_zero] at h1
  rw [show (16 * (c / 16)) % 2 ^ 4 = 0 by omega, show (c % 16) % 2 ^ 4 = c % 16 by omega, Nat.zero_xor] at h2
  generalize (16 * (c / 16)) ^^^ (c % 16) = x at *
  omega
theorem stepN4_lin (a b : Nat) : stepN 4 (a ^^^ b) = stepN 4 a ^^^ stepN 4 b := by simp only [stepN, step_lin]
theorem stepN4_16 (u : Nat) : stepN 4 (16 * u) = u := by
  rw [show 16 * u = 2 * (2 * (2 * (2 * u))) by omega]
  simp only [stepN, step_double]
theorem stepN4 (c : Nat) : stepN 4 c = c / 16 ^^^ stepN 4 (c % 16) := by
  have h := stepN4_lin (16 * (c / 16)) (c % 16)
  rw [split16, stepN4_16] at h
  exact h
theorem stepN_8 (c : Nat) : stepN 4 (stepN 4 c) = S8 c := rfl

/-- The table of half bytes stands in memory. -/
def Tab (w : World) : Prop := ∀ i, i < 16 → w.cell? ⟨0, i, none⟩ = some (.int .u32 (stepN 4 i : Int))
theorem Tab.below {w w' : World} (h : Tab w) (f : Below w.heap.size w w') : Tab w' := fun i hi => by
  have h1 := h i hi
  exact (f.cell (World.block_lt_of_cell? w _ h1)).trans h1

theorem and15 (c : Nat) (hc : c < W32) : bits .and .u32 (c : Int) 15 = ((c % 16 : Nat) : Int) := by
  have := u32_and_nat c 15 hc (by decide)
  rw [show (15 : Nat) = 2 ^ 4 - 1 from rfl, Nat.and_two_pow_sub_one_eq_mod] at this
  exact this

theorem half (c : Nat) (hc : c < W32) : bits .xor .u32 ((c : Int) / 16) (stepN 4 (c % 16) : Int) = (stepN 4 c : Int) := by
  have hc' : c < 4294967296 := hc
  have x1 := x32 (c / 16) (stepN 4 (c % 16)) (by show c / 16 < 4294967296; omega) (stepN_lt (by show c % 16 < 4294967296; omega) 4)
  rw [← stepN4, show ((c / 16 : Nat) : Int) = (c : Int) / 16 by omega] at x1
  exact x1

set_option maxHeartbeats 800000 in
theorem pushed_any (w : World) (v : Nat) (x : UInt8) (hv : v < W32) (hT : Tab w) :
    Calls Tryd.prog 23 #[.int .u32 (v : Int), .int .u8 (x.toNat : Int)] w fun e w' => e = .returned (.int .u32 (S8 (v ^^^ x.toNat) : Int)) ∧ w' = w := by
  have hx := x32b v x hv
  have hc := xor_lt hv (byte_lt x)
  generalize v ^^^ x.toNat = c at *
  have a1 := and15 c hc
  have k1 := hT (c % 16) (by omega)
  have hc' : c < 4294967296 := hc
  have x1 := half c hc
  have hd : stepN 4 c < W32 := stepN_lt hc 4
  have hS : S8 c = stepN 4 (stepN 4 c) := rfl
  rw [hS]
  generalize stepN 4 c = d at *
  have a2 := and15 d hd
  have k2 := hT (d % 16) (by omega)
  have hd' : d < 4294967296 := hd
  have x2 := half d hd
  generalize stepN 4 (c % 16) = t1 at *
  generalize stepN 4 (d % 16) = t2 at *
  generalize stepN 4 d = r at *
  clear hT
  go_enter Tryd.func23, Tryd.ntmps23
  go_wp2
  go_ret
  exact ⟨rfl, rfl⟩

theorem not32 (c : Nat) (hc : c < W32) : bits .xor .u32 IntKind.u32.max (c : Int) = ((c ^^^ full : Nat) : Int) := by
  rw [Nat.xor_comm]
  exact x32 full c full_lt hc

set_option maxHeartbeats 800000 in
theorem sOn_at (w : World) (c : Nat) (hc : c < W32) (b o n cap : Nat) (l : List UInt8) (hT : Tab w) (hn : l.length = n) (hs : n ≤ 140737488351232) (h : BytesAt w (some ⟨b, o, none⟩) l) :
    Calls Tryd.prog 10 #[.int .u32 (c : Int), .slice (some ⟨b, o, none⟩) n cap] w fun e w' => e = .returned (.int .u32 (onS c l : Int)) ∧ w' = w := by
  have H := hide (fun k (hk : k < l.length) => bytes_get h hk)
  have hcf := not32 c hc
  have hc2 := xor_lt hc full_lt
  have HC := hide hc2
  have HT := hide (fun (v : Nat) (x : UInt8) (hv : v < W32) => pushed_any w v x hv hT)
  clear h hT
  go_enter Tryd.func10, Tryd.ntmps10
  go_wp2

  go_loopw [5, 12] (fun s i wr => ∃ k : Nat, k ≤ n ∧ i = .int .i64 k ∧ s = .int .u32 (crc (c ^^^ full) (l.take k) : Int) ∧ wr = w) (fun _ i _ => n - (intOf i).toNat)
  case atStart => exact ⟨0, by omega, rfl, rfl, rfl⟩
  case round =>
    obtain ⟨k, hk, rfl, rfl, rfl⟩ := hrel
    have hlt0 := crc_lt (l.take k) (unhide HC)
    generalize hv : crc (c ^^^ full) (l.take k) = v at *
    by_cases hlt : k < n
    · have hkl : k < l.length := by omega
      have hcell := unhide H k hkl
      have hnext := crc_take (c ^^^ full) l hkl
      rw [hv] at hnext
      have HN := hide hnext
      have HY := hide (unhide HT v l[k] hlt0)
      clear hnext hv
      generalize l[k] = bk at *
      go_wp2_with fail
      refine (unhide HY).mono ?_
      rintro e w4 ⟨rfl, rfl⟩
      go_wp2
      go_roundw
      case rel => exact ⟨k + 1, by omega, by go_num, by rw [unhide HN], trivial⟩
      case measure => simp [intOf]; omega
    · obtain rfl : k = n := by omega
      have ht : l.take k = l := List.take_of_length_le (by omega)
      rw [ht] at hv
      have hfin' : bits .xor .u32 IntKind.u32.max (v : Int) = (onS c l : Int) := by
        rw [show onS c l = v ^^^ full by unfold onS; rw [hv]]
        exact not32 v hlt0
      go_wp2
      go_ret
      exact ⟨rfl, rfl⟩

set_option maxHeartbeats 800000 in
theorem sOn_nil (w : World) (c : Nat) (hc : c < W32) (a : Option Addr) (cap : Nat) :
    Calls Tryd.prog 10 #[.int .u32 (c : Int), .slice a 0 cap] w fun e w' => e = .returned (.int .u32 (c : Int)) ∧ w' = w := by
  have hcf := not32 c hc
  have hcg := not32 (c ^^^ full) (xor_lt hc full_lt)
  rw [full_full] at hcg
  go_enter Tryd.func10, Tryd.ntmps10
  go_wp2
  refine wp_loop_rounds 1 ?_
  rw [rounds_succ]
  go_wp2
  go_ret
  exact ⟨rfl, rfl⟩
theorem sOn_any (w : World) (c : Nat) (hc : c < W32) (a : Option Addr) (n cap : Nat) (l : List UInt8) (hT : Tab w) (hs : n ≤ 140737488351232) (h : Bs w a n l) :
    Calls Tryd.prog 10 #[.int .u32 (c : Int), .slice a n cap] w fun e w' => e = .returned (.int .u32 (onS c l : Int)) ∧ Below w.heap.size w w' := by
  rcases h with ⟨h1, h2 | ⟨b, o, rfl, h2⟩⟩
  · subst h2
    have : l = [] := List.eq_nil_of_length_eq_zero h1
    subst this
    rw [onS_nil]
    refine (sOn_nil w c hc a cap).mono ?_
    rintro e w' ⟨rfl, rfl⟩
    exact ⟨rfl, Below.refl _ _⟩
  · refine (sOn_at w c hc b o n cap l hT h1 hs h2).mono ?_
    rintro e w' ⟨rfl, rfl⟩
    exact ⟨rfl, Below.refl _ _⟩

set_option maxHeartbeats 800000 in
theorem sOf_at (w : World) (b o n cap : Nat) (ls : List (List UInt8)) (hT : Tab w) (hn : ls.length = n) (hs : n ≤ 1000000) (h : PartsAt w b o ls) :
    Calls Tryd.prog 12 #[.slice (some ⟨b, o, none⟩) n cap] w fun e w' => e = .returned (.int .u32 (onS 0 ls.flatten : Int)) ∧ Below w.heap.size w w' := by
  have HP := hide h
  have HT := hide hT
  have hcb : 0 < n → b < w.heap.size := fun hp => by
    obtain ⟨_, a, c, hc, _⟩ := h 0 _ (List.getElem?_eq_getElem (by omega))
    exact World.block_lt_of_cell? w _ hc
  have HCB := hide hcb
  clear h hT hcb
  go_enter Tryd.func12, Tryd.ntmps12
  go_wp2

  go_loopw [3, 8] (fun s i wr => ∃ k : Nat, k ≤ n ∧ i = .int .i64 k ∧ s = .int .u32 (onS 0 (ls.take k).flatten : Int) ∧ Below w.heap.size w wr) (fun _ i _ => n - (intOf i).toNat)
  case atStart => exact ⟨0, by omega, rfl, by simp [onS_nil], Below.refl _ _⟩
  case round =>
    obtain ⟨k, hk, rfl, rfl, hR⟩ := hrel
    have hlt0 := onS_lt (ls.take k).flatten zero_lt32
    by_cases hlt : k < n
    · have hkl : k < ls.length := by omega
      obtain ⟨hll, a, c, hc, hb⟩ := unhide HP k _ (List.getElem?_eq_getElem hkl)
      have hc' : wr.cell? ⟨b, o + k, none⟩ = some (.slice a (ls[k]).length c) := (hR.cell (p := ⟨b, o + k, none⟩) (unhide HCB (by omega))).trans hc
      have hnext := onS_parts ls hkl
      have HY := hide (sOn_any wr _ hlt0 a _ c ls[k] ((unhide HT).below hR) hll (hb.below hR))
      have HN := hide hnext
      have HR := hide hR
      clear hnext hb hc hR
      generalize onS 0 (ls.take k).flatten = v at *
      generalize ls[k] = lk at *
      go_wp2_with fail
      refine (unhide HY).mono ?_
      rintro e w4 ⟨rfl, f4⟩
      have R4 := hide ((unhide HR).trans (f4.mono (unhide HR).size))
      clear f4
      go_wp2
      go_roundw
      case rel => exact ⟨k + 1, by omega, by go_num, by rw [unhide HN], unhide R4⟩
      case measure => simp [intOf]; omega
    · obtain rfl : k = n := by omega
      have ht : ls.take k = ls := List.take_of_length_le (by omega)
      rw [ht] at *
      have HR := hide hR
      clear hR
      go_wp2
      go_ret
      exact ⟨rfl, unhide HR⟩

set_option maxHeartbeats 800000 in
theorem sOf_nil (w : World) (a : Option Addr) (cap : Nat) :
    Calls Tryd.prog 12 #[.slice a 0 cap] w fun e w' => e = .returned (.int .u32 0) ∧ Below w.heap.size w w' := by
  go_enter Tryd.func12, Tryd.ntmps12
  go_wp2
  refine wp_loop_rounds 1 ?_
  rw [rounds_succ]
  go_wp2
  go_ret
  exact ⟨rfl, Below.refl _ _⟩

end Go.Proofs.YtpliipeoijclbaaDoor
