/- The walk of the law DiskLoads. -/
import Derived.Test.YtaflibnalhfenaaRfC
namespace Go.Proofs.Ytaflibnalhfenaa
open Go.RowKit
set_option linter.unusedVariables false

/-- While one's own bytes are written over. -/
structure NRel (w : World) (v : Value) (n : Nat) (P : World → Prop) (wr : World) : Prop where
  own : ∃ xs, wr.ownsRow w.heap.size 5 1 v n xs
  fr : Below w.heap.size w wr
  also : P wr

theorem NRel.next {w wr : World} {q n c k : Nat} {u : Value} {P : World → Prop} (h : NRel w (.slice (some ⟨q, 0, none⟩) n c) n P wr) (hP : P wr → P (wr.setCell ⟨q, k, none⟩ u)) : NRel w (.slice (some ⟨q, 0, none⟩) n c) n P (wr.setCell ⟨q, k, none⟩ u) := by
  obtain ⟨xs, ho⟩ := h.own
  exact ⟨⟨_, (ho.stored k u).1⟩, h.fr.setCell (ho.lt q rfl).1 u, hP h.also⟩
set_option maxHeartbeats 1000000 in
set_option maxRecDepth 100000 in
theorem loads_nil (w : World) (a0 a1 : Option Addr) (n c n1 c1 : Nat) (l : List UInt8) (hs : n ≤ 140737488351232) (hB : BytesOf w a0 n c l) (hm : n % 256 ≠ 0 ∨ n / 256 < 1 ∨ 4096 < n / 256) :
    Calls Try.prog 4 #[.slice a0 n c, .slice a1 n1 c1] w fun e w' => e = .returned (.bool true) ∧ Below w.heap.size w w' := by
  have HB := hide hB
  have HL : Hid (∀ W a c, Calls Try.prog 35 #[.slice a n c] W fun e w' => e = .returned (.tuple #[.pointer none, .int .i64 2]) ∧ w' = W) := fun W a c => by
    by_cases h0 : n % 256 = 0
    · exact Load_bad W a n c h0 (by omega) (by omega)
    · exact Load_odd W a n c h0 (by omega)
  have HM : Hid (∀ W a c, Calls Try.prog 36 #[.slice a n c] W fun e w' => e = .returned (.tuple #[.pointer none, .int .i64 2]) ∧ w' = W) := fun W a c => by
    by_cases h0 : n % 256 = 0
    · exact rLoad_bad W a n c h0 (by omega) (by omega)
    · exact rLoad_odd W a n c h0 (by omega)
  clear hB hm
  go_enter Try.func4, Try.ntmps4
  go_wp2_with fail
  refine (Bytes_any _ _ l _ _ hs (unhide HB)).mono ?_
  rintro e w1 ⟨v, rfl, hown, b1⟩
  obtain ⟨a, cc, rfl, hform⟩ := own_form hown
  have R0 : NRel w (.slice a n cc) n (fun _ => True) w1 := ⟨⟨_, hown⟩, b1, trivial⟩
  have hq : 0 < n → ∃ q, a = some ⟨q, 0, none⟩ := fun h => by obtain ⟨q, e, _⟩ := hform h; exact ⟨q, e⟩
  have HQ := hide hq
  clear hown b1 hform hq
  go_wp2_with fail
  refine (unhide HL _ _ _).mono ?_
  rintro e w2 ⟨rfl, rfl⟩
  go_wp2_with fail
  refine (unhide HM _ _ _).mono ?_
  rintro e w3 ⟨rfl, rfl⟩
  clear HL HM
  go_wp2
  go_loopw [10] (fun i wr => ∃ k : Nat, k ≤ n ∧ i = .int .i64 k ∧ NRel w (.slice a n cc) n (fun _ => True) wr) (fun i _ => n - (intOf i).toNat)
  case atStart => exact ⟨0, by omega, rfl, R0⟩
  case round =>
    clear R0
    obtain ⟨k, hk, rfl, hR⟩ := hrel
    by_cases hlt : k < n
    · obtain ⟨q, rfl⟩ := unhide HQ (by omega)
      obtain ⟨xs, ho⟩ := hR.own
      obtain ⟨⟨u, hu⟩, hf⟩ := own_cell ho hlt
      have HN := hide (hR.next (k := k) (u := .int .u8 203) (fun _ => trivial))
      clear hR ho
      go_wp2
      go_roundw
      case rel => exact ⟨k + 1, by omega, by go_num, unhide HN⟩
      case measure => simp [intOf]; omega
    · have HR := hide hR.fr
      clear hR
      go_wp2_with fail
      refine (works_any _).mono ?_
      rintro e w4 ⟨rfl, b4⟩
      have B4 := hide ((unhide HR).trans (b4.mono (unhide HR).size))
      clear b4
      go_wp2
      go_ret
      exact ⟨rfl, unhide B4⟩

theorem own_capL {w : World} {base q n c : Nat} {xs : List Value} (h : w.ownsRow base 5 1 (.slice (some ⟨q, 0, none⟩) n c) n xs) : n ≤ c ∧ c ≤ 9223372036854775807 := by
  rcases h.2 with ⟨e, _⟩ | ⟨g, cap, cur, e, _, _, h1, h2, _⟩
  · cases e
  · injection e with _ _ ec
    subst ec
    unfold maxLen at h2
    exact ⟨h1, by omega⟩

theorem loaded_dump (l : List UInt8) (m : Nat) (hl : l.length = m * 256) : (Dk.loadedTo l m m).dump = l := by
  have e : (Dk.loadedTo l m m).dump = (List.range m).flatMap (seg l) := by
    unfold Dk.dump Dk.loadedTo
    rw [List.flatMap_def, List.flatMap_def, List.map_map]
    congr 1
    apply List.map_congr_left
    intro i hi
    have := List.mem_range.1 hi
    simp [this, Sec.last, Sec.pick]
  rw [e]
  have : ∀ k, k ≤ m → (List.range k).flatMap (seg l) = l.take (k * 256) := by
    intro k
    induction k with
    | zero => intro _; simp
    | succ k ih =>
      intro hk
      rw [List.range_succ, List.flatMap_append, ih (by omega)]
      simp only [List.flatMap_cons, List.flatMap_nil, List.append_nil, seg]
      rw [show (k + 1) * 256 = k * 256 + 256 by omega, List.take_add]
  rw [this m (Nat.le_refl _), List.take_of_length_le (by omega)]
theorem loaded_dry (l : List UInt8) (m : Nat) : Dry (Dk.loadedTo l m m) := fun i s hi => by
  have hlt : i < m := by have := (List.getElem?_eq_some_iff.1 hi).1; rwa [loadedTo_len] at this
  rw [loadedTo_get l m m i hlt, if_pos hlt] at hi
  have := (Option.some.inj hi).symm
  subst this
  rfl

theorem IsDisk.setLow {w : World} {B p g : Nat} {vs : Nat → Value} {D : Dk} (h : IsDisk w B p g vs D) (a : Addr) (u : Value) (ha : a.block < B) : IsDisk (w.setCell a u) B p g vs D := by
  have hbp := h.bp
  have hbg := h.bg
  refine h.keep (Below.heap_setCell _ _ _ _ (by omega)) (Below.heap_setCell _ _ _ _ (by omega)) (by simp [World.setCell]) (fun i k hi hk => Below.heap_setCell _ _ _ _ ?_)
  have := ((h.get i hi).own.lt k hk).1
  omega

set_option maxHeartbeats 1600000 in
set_option maxRecDepth 100000 in
theorem loads_ok (w : World) (b o n c n1 c1 m : Nat) (a1 : Option Addr) (l : List UInt8) (kept : List Int) (hl : l.length = n) (hc : n ≤ c) (hc' : c ≤ 9223372036854775807) (hB : BytesAt w (some ⟨b, o, none⟩) l) (hs : n ≤ 140737488351232) (hnm : n = m * 256) (h1 : 1 ≤ m) (h2 : m ≤ 4096) (hbw : b < w.heap.size)
    (e1 : kept.length = n1) (hK : KeptOf w w.heap.size a1 kept) :
    Calls Try.prog 4 #[.slice (some ⟨b, o, none⟩) n c, .slice a1 n1 c1] w fun e w' => e = .returned (.bool true) ∧ Below w.heap.size w w' := by
  have HB := hide hB
  have HL := hide hl
  have HNM := hide hnm
  have HK := hide hK
  have E1 := hide e1
  have hn0 : 0 < n := by omega
  clear hB hl hnm hK e1
  go_enter Try.func4, Try.ntmps4
  go_wp2_with fail
  refine (Bytes_some _ _ l _ _ (unhide HL) hs (unhide HB)).mono ?_
  rintro e w1 ⟨v, rfl, hown, b1⟩
  obtain ⟨a, cc, rfl, hform⟩ := own_form hown
  obtain ⟨q, rfl, -⟩ := hform hn0
  have hcap := own_capL hown
  have hq1 := hown.lt q rfl
  have hb1 := b1.size
  clear hform
  go_wp2_with fail
  refine (Load_ok _ q 0 n cc m l (unhide HL) hcap.1 hcap.2 (own_bytes hown) (unhide HNM) h1 h2 hq1.2).mono ?_
  rintro e w2 ⟨rfl, ⟨vs, d2⟩, b2⟩
  have B2 := b1.trans (b2.mono hb1)
  go_wp2_with fail
  refine (rLoad_ok _ b o n c m l (unhide HL) hc hc' ((unhide HB).below B2) (unhide HNM) h1 h2 (Nat.lt_of_lt_of_le hbw B2.size)).mono ?_
  rintro e w3 ⟨rfl, b3⟩
  have B3 := B2.trans (b3.mono B2.size)
  have R0 : NRel w (.slice (some ⟨q, 0, none⟩) n cc) n (fun wr => ∃ vs, IsDisk wr w1.heap.size (w1.heap.size + 1) w1.heap.size vs (Dk.loadedTo l m m)) w3 := ⟨⟨_, own_below (own_below hown b2) b3⟩, B3, ⟨vs, d2.below b3⟩⟩
  have hqb : q < w1.heap.size := hq1.2
  clear hown d2 b1 b2 b3 B2 B3 hcap hq1
  go_wp2
  go_loopw [10] (fun i wr => ∃ k : Nat, k ≤ n ∧ i = .int .i64 k ∧ NRel w (.slice (some ⟨q, 0, none⟩) n cc) n (fun wr => ∃ vs, IsDisk wr w1.heap.size (w1.heap.size + 1) w1.heap.size vs (Dk.loadedTo l m m)) wr) (fun i _ => n - (intOf i).toNat)
  case atStart => exact ⟨0, by omega, rfl, R0⟩
  case round =>
    clear R0
    obtain ⟨k, hk, rfl, hR⟩ := hrel
    by_cases hlt : k < n
    · obtain ⟨xs, ho⟩ := hR.own
      obtain ⟨⟨u, hu⟩, hf⟩ := own_cell ho hlt
      have HN := hide (hR.next (k := k) (u := .int .u8 203) (fun ⟨vs, hd⟩ => ⟨vs, hd.setLow _ _ hqb⟩))
      clear hR ho
      go_wp2
      go_roundw
      case rel => exact ⟨k + 1, by omega, by go_num, unhide HN⟩
      case measure => simp [intOf]; omega
    · obtain ⟨vs, d4⟩ := hR.also
      have B4 := hR.fr
      clear hR
      have hdl : (Dk.loadedTo l m m).dump = l := loaded_dump l m ((unhide HL).trans (unhide HNM))
      have hdry := loaded_dry l m
      have hlen4 := loadedTo_len l m m
      generalize hDD : Dk.loadedTo l m m = D at *
      have htr : D.trip = -1 ∧ D.dark = false := by rw [← hDD]; exact ⟨rfl, rfl⟩
      have hDe : ({ D with dark := false, trip := -1 } : Dk) = D := by
        cases D
        obtain ⟨t1, t2⟩ := htr
        simp only at t1 t2
        subst t1 t2
        rfl
      have HDL := hide hdl
      have HDRY := hide hdry
      have HDE := hide hDe
      have HL4 := hide hlen4
      clear hdl hdry hDD htr hDe hlen4
      go_wp2_with fail
      refine (Dump_any _ _ _ _ _ _ d4).mono ?_
      rintro e w5 ⟨v5, rfl, -, o5, b5⟩
      rw [unhide HL4, unhide HDL, ← unhide HNM] at o5
      obtain ⟨a5, c5, rfl, -⟩ := own_form o5
      have d5 := d4.below b5
      have B5 := B4.trans (b5.mono B4.size)
      have HS := hide (SameBytes_n w5 a5 (some ⟨b, o, none⟩) l l n n c5 c (own_bytes o5) ((unhide HB).below B5) (unhide HL) (unhide HL))
      clear d4 b5 B4 o5
      go_wp2_with fail
      refine (unhide HS).mono ?_
      rintro e w6 ⟨rfl, rfl⟩
      have HC := hide (Crash_any _ _ _ _ _ _ d5 (fun i s hi => by rw [unhide HDRY i s hi]; simp) _ c1 _ kept (unhide E1) ((unhide HK).later B5 hb1))
      clear HS d5
      go_wp2_with fail
      refine (unhide HC).mono ?_
      rintro e w7 ⟨rfl, ⟨vs7, E, d7, hP⟩, f7⟩
      rw [(unhide HDRY).cached] at hP
      have hE := Part.zero hP
      subst hE
      rw [unhide HDE] at d7
      have B7 := B5.trans (f7.below.mono hb1)
      clear hP f7 B5 HC
      go_wp2_with fail
      refine (Dump_any _ _ _ _ _ _ d7).mono ?_
      rintro e w8 ⟨v8, rfl, -, o8, b8⟩
      rw [unhide HL4, unhide HDL, ← unhide HNM] at o8
      obtain ⟨a8, c8, rfl, -⟩ := own_form o8
      have B8 := B7.trans (b8.mono B7.size)
      have HS := hide (SameBytes_n w8 a8 (some ⟨b, o, none⟩) l l n n c8 c (own_bytes o8) ((unhide HB).below B8) (unhide HL) (unhide HL))
      clear d7 b8 B7 o8
      go_wp2_with fail
      refine (unhide HS).mono ?_
      rintro e w9 ⟨rfl, rfl⟩
      clear HS
      go_wp2_with fail
      refine (works_any _).mono ?_
      rintro e w10 ⟨rfl, b10⟩
      have B10 := hide (B8.trans (b10.mono B8.size))
      clear b10 B8
      go_wp2
      go_ret
      exact ⟨rfl, unhide B10⟩

theorem loads_walk (w : World) (a0 a1 : Option Addr) (n c n1 c1 : Nat) (l : List UInt8) (kept : List Int) (hs : n ≤ 140737488351232) (hB : BytesOf w a0 n c l) (e1 : kept.length = n1) (hK : KeptOf w w.heap.size a1 kept) :
    Calls Try.prog 4 #[.slice a0 n c, .slice a1 n1 c1] w fun e w' => e = .returned (.bool true) ∧ Below w.heap.size w w' := by
  by_cases hm : n % 256 ≠ 0 ∨ n / 256 < 1 ∨ 4096 < n / 256
  · exact loads_nil w a0 a1 n c n1 c1 l hs hB hm
  · rcases hB with ⟨hn, h1, h2, ⟨rfl, rfl, rfl⟩ | ⟨b, o, rfl, h⟩⟩ | ⟨hn, rfl, _, ad, rfl⟩
    · omega
    · have hbw : b < w.heap.size := by
        have h0 : 0 < (bv l).length := by rw [bv_length]; omega
        have := h.2 _ rfl 0 _ (List.getElem?_eq_getElem h0)
        rw [Addr.add_mid] at this
        exact World.block_lt_of_cell? w _ this
      exact loads_ok w b o n c n1 c1 (n / 256) a1 l kept hn h1 h2 h hs (by omega) (by omega) (by omega) hbw e1 hK
    · omega

end Go.Proofs.Ytaflibnalhfenaa
