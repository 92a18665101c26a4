/- The chapter's example holds: works answers true. -/
import Derived.Test.YtaflibnalhfenaaDkM
namespace Go.Proofs.Ytaflibnalhfenaa
open Go.RowKit
set_option linter.unusedVariables false

def dA : Dk := ⟨[⟨nought, [allOf 1]⟩, ⟨nought, []⟩], 1, -1, false⟩
def dB : Dk := ⟨[⟨nought, [allOf 1, allOf 2]⟩, ⟨nought, []⟩], 2, -1, false⟩
theorem dA_is : (Dk.fresh 2).moved.put 0 (Sec.add ⟨nought, []⟩ (allOf 1)) = dA := by
  simp [Dk.fresh, Dk.moved, Dk.put, Sec.add, dA, wrap64, List.replicate_succ]
theorem dB_is : dA.moved.put 0 (Sec.add ⟨nought, [allOf 1]⟩ (allOf 2)) = dB := by
  simp [Dk.moved, Dk.put, Sec.add, dA, dB, wrap64]
theorem dB_cached : dB.cached = [0] := rfl
theorem dB_small : ∀ (i : Nat) (s : Sec), dB.secs[i]? = some s → s.wait.length ≤ 1000000 := by
  intro i s h
  match i, h with
  | 0, h => cases h; simp
  | 1, h => cases h; simp
theorem nought_of : nought = allOf 0 := rfl
theorem pickB (k : Nat) (hk : k < 3) : Sec.pick ⟨nought, [allOf 1, allOf 2]⟩ k = allOf (UInt8.ofNat k) := by
  match k, hk with
  | 0, _ => rfl
  | 1, _ => rfl
  | 2, _ => rfl
theorem partB {E : Dk} {k : Nat} (hk : k < 3) (h : Part dB (Gcr [(k : Int)]) dB.cached.length E) : E.secs[0]? = some ⟨allOf (UInt8.ofNat k), []⟩ ∧ E.secs.length = 2 := by
  refine ⟨?_, h.len⟩
  obtain ⟨r, hr, hG, hs⟩ := h.all 0 ⟨nought, [allOf 1, allOf 2]⟩ rfl
  have hw := (hG rfl).2
  have e0 : (cachedTo dB 0).length = 0 := rfl
  rw [e0] at hw
  have ha : among (k : Int) 3 = k := by
    match k, hk with
    | 0, _ => rfl
    | 1, _ => rfl
    | 2, _ => rfl
  have : r = k := hw.trans ha
  subst this
  rw [hs]
  simp only [Sec.settle, pickB r hk]

theorem of_nat (k : Nat) (hk : k < 256) (w : World) :
    Calls Try.prog 15 #[.int .u8 (k : Int)] w fun e w' => e = .returned (.slice (some ⟨w.heap.size, 0, none⟩) 256 256) ∧ w' = w.alloc (.cells (bv (allOf (UInt8.ofNat k))).toArray 5) := by
  have h := of_any (UInt8.ofNat k) w
  have e : ((UInt8.ofNat k).toNat : Int) = (k : Int) := by simp; omega
  rw [e] at h
  exact h
set_option maxHeartbeats 1600000 in
set_option maxRecDepth 100000 in
theorem works_any (w : World) :
    Calls Try.prog 13 #[] w fun e w' => e = .returned (.bool true) ∧ Below w.heap.size w w' := by
  go_enter Try.func13, Try.ntmps13
  go_wp2
  go_loopw [1] (fun i wr => ∃ k : Nat, k ≤ 3 ∧ i = .int .i64 k ∧ Below w.heap.size w wr) (fun i _ => 3 - (intOf i).toNat)
  case atStart => exact ⟨0, by omega, rfl, Below.refl _ _⟩
  case round =>
    obtain ⟨k, hk, rfl, hR⟩ := hrel
    by_cases hlt : k < 3
    · have hRs := hR.size
      have HR := hide hR
      clear hR
      go_wp2_with fail
      refine (Make_ok 2 _ (by omega) (by omega)).mono ?_
      rintro e w1 ⟨rfl, d1, b1⟩
      go_wp2_with fail
      refine (of_any 1 _).mono ?_
      rintro e w2 ⟨rfl, rfl⟩
      go_wp2_with fail
      have d2 := d1.below ((Below.refl _ _).alloc (Nat.le_refl _) (.cells (bv (allOf 1)).toArray 5))
      have l1 := d1.lt.1
      refine (Store_ok _ wr.heap.size (wr.heap.size + 1) wr.heap.size _ _ d2 0 ⟨nought, []⟩ rfl ⟨w1.heap.size, 0, none⟩ 256 rfl (by simp) (allOf 1) (allOf_len 1) (World.news_of_block (heap_alloc_last _ _)) (by show w1.heap.size ≠ _; omega)).mono ?_
      rintro e w3 ⟨rfl, ⟨v3, d3⟩, f3⟩
      rw [dA_is] at d3
      have B3 : Below wr.heap.size wr w3 := (b1.alloc b1.size _).trans f3.below
      clear d1 d2 b1 f3 l1
      go_wp2_with fail
      refine (of_any 2 _).mono ?_
      rintro e w4 ⟨rfl, rfl⟩
      go_wp2_with fail
      have d4 := d3.below ((Below.refl _ _).alloc (Nat.le_refl _) (.cells (bv (allOf 2)).toArray 5))
      have l3 := d3.lt.1
      refine (Store_ok _ wr.heap.size (wr.heap.size + 1) wr.heap.size _ _ d4 0 ⟨nought, [allOf 1]⟩ rfl ⟨w3.heap.size, 0, none⟩ 256 rfl (by simp) (allOf 2) (allOf_len 2) (World.news_of_block (heap_alloc_last _ _)) (by show w3.heap.size ≠ _; omega)).mono ?_
      rintro e w5 ⟨rfl, ⟨v5, d5⟩, f5⟩
      rw [dB_is] at d5
      have B5 : Below wr.heap.size wr w5 := (B3.alloc B3.size _).trans f5.below
      clear d3 d4 B3 f5 l3
      go_wp2_with fail
      refine (Cached_any _ wr.heap.size (wr.heap.size + 1) wr.heap.size _ _ d5).mono ?_
      rintro e w6 ⟨v, rfl, hown, b6⟩
      rw [dB_cached] at hown
      have d6 := d5.below b6
      have B6 := B5.trans (b6.mono B5.size)
      obtain ⟨a, c, rfl, hform⟩ := own_form hown
      obtain ⟨q, rfl, hcell⟩ := hform (by simp)
      clear d5 b6 B5
      go_wp2_with fail
      have hc0 := hcell 0 (.int .i64 0) rfl
      have hc1 := cell_alloc hc0 (.cells #[Value.int .i64 0] 3)
      clear hform hcell hown hc0
      refine (SameInts_at _ q 0 w6.heap.size 0 1 c 1 [0] [0] rfl rfl (by omega) (fun j hj => by cases Nat.lt_one_iff.1 hj; exact hc1) (fun j hj => by cases Nat.lt_one_iff.1 hj; exact World.cell?_alloc_at _ _ _ _ rfl)).mono ?_
      rintro e w7 ⟨rfl, m, rfl⟩
      have b7 : Below w6.heap.size w6 ((w6.alloc (.cells #[Value.int .i64 0] 3)).drewN m) := below_drewN ((Below.refl _ _).alloc (Nat.le_refl _) _) m
      have d7 := d6.below b7
      have B7 := B6.trans (b7.mono B6.size)
      clear hc1 d6 B6 b7
      generalize (w6.alloc (.cells #[Value.int .i64 0] 3)).drewN m = w7 at *
      go_wp2_with fail
      refine (Moves_any _ wr.heap.size (wr.heap.size + 1) wr.heap.size _ _ d7).mono ?_
      rintro e w8 ⟨rfl, rfl⟩
      have hm : dB.moves = 2 := rfl
      rw [hm]
      clear hm
      go_wp2_with fail
      have d8 := d7.below ((Below.refl _ _).alloc (Nat.le_refl _) (.cells #[Value.int .i64 (k : Int)] 3))
      have l8 := d7.lt.2.1
      refine (Crash_at _ wr.heap.size (wr.heap.size + 1) wr.heap.size _ _ d8 dB_small [(k : Int)] w8.heap.size 0 1 (fun j hj => by cases Nat.lt_one_iff.1 hj; exact World.cell?_alloc_at _ _ _ _ rfl) (by simp) (by omega) (fun j hj => by cases Nat.lt_one_iff.1 hj; simp; omega)).mono ?_
      rintro e w9 ⟨rfl, ⟨v9, E, d9, hP⟩, f9⟩
      obtain ⟨hE, hEl⟩ := partB hlt hP
      have B9 := (B7.alloc B7.size (.cells #[Value.int .i64 (k : Int)] 3)).trans f9.below
      clear d7 d8 l8 B7 f9 hP
      go_wp2_with fail
      refine (Fetch_ok _ wr.heap.size (wr.heap.size + 1) wr.heap.size _ _ d9 0 _ hE rfl).mono ?_
      rintro e w10 ⟨q', rfl, hq1, hq2, b10⟩
      have d10 := d9.below b10
      have B10 := B9.trans (b10.mono B9.size)
      clear d9 b10 B9 hE
      go_wp2_with fail
      refine (of_nat k (by omega) _).mono ?_
      rintro e w11 ⟨rfl, rfl⟩
      have hq3 := (Below.heap_alloc w10 (.cells (bv (allOf (UInt8.ofNat k))).toArray 5) q' (lt_of_heap hq2)).trans hq2
      have S := SameBytes_n _ _ _ _ _ 256 256 256 256 (bytes_of_block hq3) (bytes_of_block (heap_alloc_last w10 (.cells (bv (allOf (UInt8.ofNat k))).toArray 5))) (allOf_len _) (allOf_len _)
      rw [decide_eq_true (show Sec.last ⟨allOf (UInt8.ofNat k), []⟩ = allOf (UInt8.ofNat k) from rfl)] at S
      have HS := hide S
      have b11 := (Below.refl w10.heap.size w10).alloc (Nat.le_refl _) (.cells (bv (allOf (UInt8.ofNat k))).toArray 5)
      have d11 := d10.below b11
      have B11 := B10.trans (b11.mono B10.size)
      clear S d10 b11 B10 hq1 hq2 hq3
      go_wp2_with fail
      refine (unhide HS).mono ?_
      rintro e w12 ⟨rfl, rfl⟩
      clear HS
      go_wp2_with fail
      refine (Dump_any _ wr.heap.size (wr.heap.size + 1) wr.heap.size _ _ d11).mono ?_
      rintro e w13 ⟨v, rfl, _, hown, b13⟩
      have e2 : ({ E with trip := -1, dark := false } : Dk).secs.length * 256 = 512 := by show E.secs.length * 256 = 512; rw [hEl]
      rw [e2] at hown
      obtain ⟨a, c', rfl, _⟩ := own_form hown
      have B13 := B11.trans (b13.mono B11.size)
      have BB := (unhide HR).trans (B13.mono hRs)
      clear d11 hown b13 B11 e2 hEl B13
      go_wp2
      go_roundw
      case rel => exact ⟨k + 1, by omega, by go_num, BB⟩
      case measure => simp [intOf]; omega
    · go_wp2
      go_ret
      exact ⟨rfl, hR⟩

end Go.Proofs.Ytaflibnalhfenaa
