/- The walk of PoolBack. -/
import Derived.Test.YtjpimcglojneaaaJH
import Derived.Test.YtjpimcglojneaaaJA
import Derived.Test.YtjpimcglojneaaaJPlT
import Derived.Test.YtjpimcglojneaaaJD

namespace Go.Proofs.Ytjpimcglojneaaa
open Go.RowKit
set_option linter.unusedVariables false

theorem entsR_fit7 {bs : List UInt8} {n : Nat} (hn : bs.length ≤ 1000000) : ∀ (f : Nat) (l : List Ent) (i : Nat), EntsFit7 l → EntsFit7 (entsR bs n f l i).1
  | 0, l, i, h => h
  | f + 1, l, i, h => by
    rw [entsR]
    split
    · exact h
    · simp only
      split
      · exact h
      · exact entsR_fit7 hn f _ _ (h.more (entR_fit hn))
theorem readP_fit7 {bs : List UInt8} {i : Nat} (hn : bs.length ≤ 1000000) : EntsFit7 (readP bs i).1 := by
  have e0 : EntsFit7 [] := ⟨fun y hy => by simp at hy, fun y hy => by simp at hy⟩
  have e1 : EntsFit7 [ent0] := ⟨fun y hy => by simp at hy; subst hy; decide, fun y hy => by simp at hy; subst hy; exact fit0⟩
  unfold readP
  simp only
  repeat' split
  all_goals first | exact e0 | exact entsR_fit7 hn _ _ _ e1
theorem readP_nil7 {bs : List UInt8} {i : Nat} (h : (readP bs i).2.1 ≠ 0) : (readP bs i).1 = [] := by
  unfold readP at h ⊢
  simp only at h ⊢
  split
  · rfl
  · rename_i h1
    rw [if_neg h1] at h
    split
    · rfl
    · rename_i h2
      rw [if_neg h2] at h
      split
      · rfl
      · rename_i h3
        rw [if_neg h3] at h
        split
        · rfl
        · rename_i h4
          rw [if_neg h4] at h
          have h3' : (entsR bs (getW bs i 2 false).1.toNat (getW bs i 2 false).1.toNat [ent0] (getW bs i 2 false).2.2).2.1 = 0 := by simpa using h3
          exact absurd h3' h
theorem bodyE_le7 {l : List Ent} {x : Ent} (h : okE l x = true) : (bodyE x).length ≤ 260 := by
  have ht := okE_tag h
  unfold bodyE
  unfold okE at h
  rcases ht with t | t | t | t | t | t | t <;> simp [t] at h ⊢ <;> simp [bytesW_len]
  have := h.1
  unfold textB at this
  simp at this
  omega
theorem bytesP_len7 {l : List Ent} (h : checkP l = true) : (bytesP l).length ≤ 400000 := by
  obtain ⟨⟨h1, h2⟩, _, h3⟩ := checkP_iff.1 h
  have key : ∀ s : List Ent, (∀ x ∈ s, (bytesE x).length ≤ 300) → (s.flatMap bytesE).length ≤ 300 * s.length := fun s => by
    induction s with
    | nil => intro _; simp
    | cons x s ih =>
      intro hs
      have a1 := hs x (by simp)
      have a2 := ih (fun y hy => hs y (by simp [hy]))
      simp only [List.flatMap_cons, List.length_append, List.length_cons]
      omega
  have hk := key (l.drop 1) (fun x hx => by
    by_cases h0 : x.tag = 0
    · unfold bytesE
      rw [if_pos h0]
      simp
    · have := bodyE_le7 (goE_mem _ h3 x hx h0)
      unfold bytesE
      rw [if_neg h0, List.length_cons]
      omega)
  unfold bytesP
  rw [List.length_append, bytesW_len]
  simp only [List.length_drop] at hk
  have : (2 : Int).toNat = 2 := rfl
  omega
theorem es_block_lt {w : World} {a : Option Addr} {n : Nat} {l : List Ent} (h : Es w a n l) {b o : Nat} (e : a = some ⟨b, o, none⟩) (hn : 0 < n) : b < w.heap.size := by
  obtain ⟨b', o', e', hE⟩ := h.2.resolve_left (by omega)
  rw [e] at e'
  injection e' with e'
  injection e' with e1 e2
  obtain ⟨x, hx⟩ : ∃ x, l[0]? = some x := ⟨_, List.getElem?_eq_getElem (by have := h.1; omega)⟩
  obtain ⟨c0, _⟩ := ents_get hE hx
  have := World.block_lt_of_cell? w _ c0
  simp at this
  omega
theorem arg_take7 {w : World} {a : Option Addr} {n c : Nat} {bs : List UInt8} (h : Arg w a n c bs) (m : Nat) (hm : m ≤ n) (hm0 : 0 < m) : Arg w a m c (bs.take m) := by
  refine ⟨⟨by rw [List.length_take, h.bs.1]; omega, ?_⟩, by have := h.room; omega, h.most, fun e => by have := h.nil e; omega⟩
  rcases h.bs.2 with h0 | ⟨b, o, e, hB⟩
  · omega
  · exact .inr ⟨b, o, e, bytes_take hB m⟩
theorem krd7_lt {F : Nat → Prop} {w : World} {B x : Nat} {bs : List UInt8} {i : Nat} (h : RD F w B x bs i) : ∀ k, F k → B ≤ k ∧ k < w.heap.size := by
  obtain ⟨y, c, rfl, h⟩ := h
  intro k hk
  rcases hk with rfl | rfl
  · exact ⟨h.hx, h.xlt⟩
  · exact h.y
theorem krd7_keep {F : Nat → Prop} {w w' : World} {B x : Nat} {bs : List UInt8} {i : Nat} (h : RD F w B x bs i) (hk : ∀ k, F k → w'.heap[k]? = w.heap[k]?) : RD F w' B x bs i := by
  obtain ⟨y, c, rfl, h⟩ := h
  exact ⟨y, c, rfl, h.keep (hk x (.inl rfl)) (hk y (.inr rfl))⟩
theorem kwr7_lt {F : Nat → Prop} {w : World} {B x : Nat} {bs : List UInt8} (h : WR F w B x bs) : ∀ k, F k → B ≤ k ∧ k < w.heap.size := by
  obtain ⟨y, c, rfl, h⟩ := h
  intro k hk
  rcases hk with rfl | rfl
  · exact ⟨h.hx, h.xlt⟩
  · exact h.y

set_option maxHeartbeats 12800000 in
set_option maxRecDepth 100000 in
theorem back_few (P : PoolsRW) (w : World) (a0 : Option Addr) (n0 c0 : Nat) (l : List Ent) (hI : EIn w a0 n0 c0 l) (A1 : Option Addr) (n1 cc : Nat) (bs : List UInt8) (hB : Arg w A1 n1 cc bs) (hN : n1 ≤ 5000) :
    Calls Try.prog 7 #[.slice a0 n0 c0, .slice A1 n1 cc] w fun e w' => e = .returned (.bool true) ∧ Below w.heap.size w w' := by
  have hn5 : ¬ (5000 : Int) < (n1 : Int) := by omega
  have hbl := hB.bs.1
  have hMs : bs.length ≤ 5000 := by omega
  have HA0 := hide hB
  have HI := hide hI
  have hsm : n0 ≤ 140737488351232 := by have := hI.small; omega
  clear hB hI
  go_enter Try.func7, Try.ntmps7
  go_wp2_with fail
  refine (works7_any P.pools w).mono ?_
  rintro e w1 ⟨rfl, f1⟩
  have HMk := hide (eMake_any w1)
  have F1 := hide f1
  clear f1
  go_wp2_with fail
  refine (unhide HMk).mono ?_
  rintro e w2 ⟨x1, F1', rfl, r2, f2⟩
  have fw2 := (unhide F1).trans (f2.mono (unhide F1).size)
  have I2 := (unhide HI).below fw2
  have HWr := hide (P.write F1' w2 w1.heap.size x1 [] a0 n0 c0 l r2 I2 (fun b o e hn hb => by
    have h1 := (kwr7_lt r2 b hb).1
    have h2 := es_block_lt (unhide HI).arg.es e hn
    have h3 := (unhide F1).size
    omega) (by simp))
  have F2 := hide fw2
  have hs1 := (unhide F1).size
  have hs12 := f2.size
  clear HMk r2 f2 fw2 I2 F1
  by_cases hck : checkP l = true
  case neg =>
    rw [if_neg hck, if_neg hck] at HWr
    clear hck
    go_wp2_with fail
    refine (unhide HWr).mono ?_
    rintro e W ⟨rfl, _, fr3⟩
    have fW : Below w.heap.size w W := (unhide F2).trans (fr3.below.mono hs1)
    have FW := hide fW
    have HAW := hide ((unhide HA0).below fW)
    clear HWr fr3 fW F2
    go_wp2_with fail
    refine (dRead_any W A1 n1 cc bs (unhide HAW) (by omega)).mono ?_
    rintro e w2 ⟨x, F, rfl, r2, f2⟩
    have HP := hide (P.read F w2 W.heap.size x bs 0 r2 (by omega) (by omega))
    have F2 := hide ((unhide FW).trans (f2.mono (unhide FW).size))
    have HA2 := hide ((unhide HAW).below f2)
    have hWs : w.heap.size ≤ W.heap.size := (unhide FW).size
    clear r2 f2 FW HAW
    have hfit := hide (readP_fit7 (bs := bs) (i := 0) (by omega))
    have hnil := hide (readP_nil7 (bs := bs) (i := 0))
    have hback := hide (readP_back (b := bs))
    go_wp2_with fail
    refine (unhide HP).mono ?_
    rintro e w3 ⟨⟨a3, c3, rfl, e3⟩, hrd, fr3⟩
    have f3 : Below w.heap.size w w3 := (unhide F2).trans (fr3.below.mono hWs)
    have HA3 : Hid (Arg w3 A1 n1 cc bs) := (unhide HA0).below f3
    have F3 := hide f3
    have HE3 := hide e3
    have HRD := hide hrd
    clear HP e3 hrd fr3 f3 F2 HA2
    generalize readP bs 0 = R at *
    obtain ⟨RL, RE, RJ⟩ := R
    simp only at HE3 HRD hfit hnil hback ⊢
    by_cases h0 : RE = 0
    case neg =>
      have hne : (RE == 0) = false := by simpa using h0
      have hne' : (RE != 0) = true := by simpa using h0
      have hl0 := unhide hnil h0
      subst hl0
      clear h0 HE3 HRD hfit hnil hback
      go_wp2
      go_ret
      exact ⟨rfl, unhide F3⟩
    case pos =>
      subst h0
      obtain ⟨hck, hby, hRJ⟩ := unhide hback (by first | rfl | trivial)
      obtain ⟨F', r3, hF'⟩ := unhide HRD (by first | rfl | trivial)
      have hRl : RL.length ≤ 1024 := (checkP_right.1 hck).1.2
      have hMk := hide (eMake_any w3)
      have R3 := hide r3
      have HBY := hide hby
      have HCK := hide hck
      clear hnil hback HRD r3 hF' hby hck
      go_wp2_with fail
      refine (unhide hMk).mono ?_
      rintro e w4 ⟨x2, F2, rfl, r4, f4⟩
      have e4 := (unhide HE3).below f4
      have HW := hide (P.write F2 w4 w3.heap.size x2 [] a3 RL.length c3 RL r4 ⟨e4, by omega, unhide hfit⟩ (fun b o e hn hb => by
        have h1 := (kwr7_lt r4 b hb).1
        have h2 := es_block_lt (unhide HE3).es e hn
        omega) (by simp))
      rw [if_pos (unhide HCK), if_pos (unhide HCK), List.nil_append] at HW
      have F4 := hide f4
      clear hMk r4 e4 f4 HE3
      go_wp2_with fail
      refine (unhide HW).mono ?_
      rintro e w5 ⟨rfl, ⟨F5, r5, _⟩, fr5⟩
      have f35 : Below w3.heap.size w3 w5 := (unhide F4).trans fr5.below
      have hlb := bytesP_len7 (unhide HCK)
      have HAl := hide (eAll_any F5 w5 w3.heap.size x2 (bytesP RL) r5 (by omega))
      have F35 := hide f35
      clear HW r5 fr5 f35 F4
      go_wp2_with fail
      refine (unhide HAl).mono ?_
      rintro e w6 ⟨v6, rfl, o6, f6⟩
      obtain ⟨a6, c6, rfl, _⟩ := own_form o6
      have f36 := (unhide F35).trans (f6.mono (unhide F35).size)
      have r6 : RD F' w6 W.heap.size x bs RJ := krd7_keep (unhide R3) (fun k hk => f36.block k (krd7_lt (unhide R3) k hk).2)
      have HAt := hide (dAt_any F' w6 W.heap.size x bs RJ r6)
      have O6 := hide o6
      have F36 := hide f36
      clear HAl o6 f6 f36 r6 F35 R3
      go_wp2_with fail
      refine (unhide HAt).mono ?_
      rintro e w7 ⟨rfl, f7⟩
      have f37 := (unhide F36).trans (f7.mono (unhide F36).size)
      have fw7 := (unhide F3).trans (f37.mono (unhide F3).size)
      have hlt : (bs.take RJ).length = RJ := by rw [List.length_take]; omega
      have hb6 : Bs w7 a6 RJ (bs.take RJ) := by
        have o7 := own_below (unhide O6) f7
        have := bs_of_own rfl o7
        rw [unhide HBY, hlt] at this
        exact this
      have hb7 : Bs w7 A1 RJ (bs.take RJ) := by
        have h7 := (unhide HA0).below fw7
        refine ⟨hlt, ?_⟩
        rcases h7.bs.2 with h0 | ⟨b, o, e, hB⟩
        · exact .inl (by omega)
        · exact .inr ⟨b, o, e, bytes_take hB RJ⟩
      have hl6 : (bytesP RL).length = RJ := by rw [unhide HBY, hlt]
      have HSm := hide (SameBytes_same w7 a6 A1 (bs.take RJ) RJ c6 cc hb6 hb7)
      have F7 := hide fw7
      have hR1 : (RJ : Int) ≤ (cc : Int) := by have := (unhide HA0).room; omega
      have hR2 : (cc : Int) ≤ 9223372036854775807 := by have := (unhide HA0).most; omega
      rw [hl6]
      clear HAt f7 f37 fw7 hlt hb6 hb7 hl6 O6 F36 HA3 HBY
      go_wp2_with fail
      refine (unhide HSm).mono ?_
      rintro e w8 ⟨rfl, e0⟩
      have e0' := e0.symm
      clear e0
      subst e0'
      go_wp2
      go_ret
      exact ⟨rfl, unhide F7⟩

  case pos =>
    rw [if_pos hck, if_pos hck, List.nil_append] at HWr
    have hlb := bytesP_len7 hck
    have hat := readP_at (l := l) [] [7] hck (unhide HI).fit.2
    rw [List.nil_append, List.length_nil, Nat.zero_add] at hat
    have HAT := hide hat
    clear hck hat
    go_wp2_with fail
    refine (unhide HWr).mono ?_
    rintro e w3 ⟨rfl, ⟨F3', r3, _⟩, fr3⟩
    have fw3 : Below w.heap.size w w3 := (unhide F2).trans (fr3.below.mono hs1)
    have HAl := hide (eAll_any F3' w3 w1.heap.size x1 (bytesP l) r3 (by omega))
    have F3 := hide fw3
    clear HWr r3 fr3 fw3 F2
    go_wp2_with fail
    refine (unhide HAl).mono ?_
    rintro e w4 ⟨v4, rfl, o4, f4⟩
    obtain ⟨a4, c4, rfl, _⟩ := own_form o4
    have hown := o4.alloc (.cells (bv [7]).toArray 5)
    have hsrc : Bs (w4.alloc (.cells (bv [7]).toArray 5)) (some ⟨w4.heap.size, 0, none⟩) 1 [7] := ⟨rfl, .inr ⟨_, _, rfl, bytes_of_block (heap_alloc_last _ _)⟩⟩
    have hbs4 : w3.heap.size ≤ (w4.alloc (.cells (bv [7]).toArray 5)).heap.size := Nat.le_trans f4.size (by simp)
    have bl4 : Below w3.heap.size w3 (w4.alloc (.cells (bv [7]).toArray 5)) := f4.alloc f4.size _
    have BL4 := hide bl4
    have O4 := hide o4
    have hlt4 : ∀ k, (Value.slice a4 (bytesP l).length c4).ownBlock = some k → w3.heap.size ≤ k := fun k hk => (o4.lt k hk).1
    have HLT := hide hlt4
    clear HAl o4 f4 bl4 hlt4
    go_wp2_with (at_builtin; refine listB_append rfl _ _ rfl w3.heap.size (.slice a4 (bytesP l).length c4) (bytesP l).length (bytesP l) rfl (by exact hown) (some ⟨w4.heap.size, 0, none⟩) 1 1 [7] rfl (by exact hsrc) (fun e => by cases e) (by omega) hbs4 ?_)
    intro v5 w5 o5 g5
    have f5 : Below w3.heap.size w3 w5 := (unhide BL4).grown g5 hbs4 (fun k hk => unhide HLT k hk)
    obtain ⟨a5, c5, rfl, _⟩ := own_form o5
    have hl5 : (bytesP l ++ [7]).length = (bytesP l).length + 1 := by simp
    have HRd := hide (dRead_any w5 a5 ((bytesP l).length + 1) c5 (bytesP l ++ [7]) (arg_of_own hl5 o5) (by omega))
    have F5 := hide f5
    clear o5 g5 f5 hown hsrc hbs4 BL4 O4 HLT
    go_wp2_with fail
    refine (unhide HRd).mono ?_
    rintro e w6 ⟨x6, F6', rfl, r6, f6⟩
    have HP6 := hide (P.read F6' w6 w5.heap.size x6 (bytesP l ++ [7]) 0 r6 (by rw [hl5]; omega) (by omega))
    rw [unhide HAT] at HP6
    have F6 := hide ((unhide F5).trans (f6.mono (unhide F5).size))
    have hs56 : w3.heap.size ≤ w5.heap.size := (unhide F5).size
    clear HRd r6 f6 F5 HAT
    go_wp2_with fail
    refine (unhide HP6).mono ?_
    rintro e w7 ⟨⟨a7, c7, rfl, e7⟩, _, fr7⟩
    have f37 : Below w3.heap.size w3 w7 := (unhide F6).trans (fr7.below.mono hs56)
    have fw7 := (unhide F3).trans (f37.mono (unhide F3).size)
    have hln := (unhide HI).arg.es.1
    have HSE := hide (SameEntries_same w7 a7 a0 n0 c7 c0 l (by have := e7.es; rw [hln] at this; exact this) ((unhide HI).below fw7).arg.es hsm)
    have F7 := hide fw7
    simp only
    rw [hln]
    clear HP6 e7 fr7 f37 fw7 F6 F3
    go_wp2_with fail
    refine (unhide HSE).mono ?_
    rintro e W ⟨rfl, f8⟩
    have fW := (unhide F7).trans (f8.mono (unhide F7).size)
    have FW := hide fW
    have HAW := hide ((unhide HA0).below fW)
    clear HSE f8 fW F7
    go_wp2_with fail
    refine (dRead_any W A1 n1 cc bs (unhide HAW) (by omega)).mono ?_
    rintro e w2 ⟨x, F, rfl, r2, f2⟩
    have HP := hide (P.read F w2 W.heap.size x bs 0 r2 (by omega) (by omega))
    have F2 := hide ((unhide FW).trans (f2.mono (unhide FW).size))
    have HA2 := hide ((unhide HAW).below f2)
    have hWs : w.heap.size ≤ W.heap.size := (unhide FW).size
    clear r2 f2 FW HAW
    have hfit := hide (readP_fit7 (bs := bs) (i := 0) (by omega))
    have hnil := hide (readP_nil7 (bs := bs) (i := 0))
    have hback := hide (readP_back (b := bs))
    go_wp2_with fail
    refine (unhide HP).mono ?_
    rintro e w3 ⟨⟨a3, c3, rfl, e3⟩, hrd, fr3⟩
    have f3 : Below w.heap.size w w3 := (unhide F2).trans (fr3.below.mono hWs)
    have HA3 : Hid (Arg w3 A1 n1 cc bs) := (unhide HA0).below f3
    have F3 := hide f3
    have HE3 := hide e3
    have HRD := hide hrd
    clear HP e3 hrd fr3 f3 F2 HA2
    generalize readP bs 0 = R at *
    obtain ⟨RL, RE, RJ⟩ := R
    simp only at HE3 HRD hfit hnil hback ⊢
    by_cases h0 : RE = 0
    case neg =>
      have hne : (RE == 0) = false := by simpa using h0
      have hne' : (RE != 0) = true := by simpa using h0
      have hl0 := unhide hnil h0
      subst hl0
      clear h0 HE3 HRD hfit hnil hback
      go_wp2
      go_ret
      exact ⟨rfl, unhide F3⟩
    case pos =>
      subst h0
      obtain ⟨hck, hby, hRJ⟩ := unhide hback (by first | rfl | trivial)
      obtain ⟨F', r3, hF'⟩ := unhide HRD (by first | rfl | trivial)
      have hRl : RL.length ≤ 1024 := (checkP_right.1 hck).1.2
      have hMk := hide (eMake_any w3)
      have R3 := hide r3
      have HBY := hide hby
      have HCK := hide hck
      clear hnil hback HRD r3 hF' hby hck
      go_wp2_with fail
      refine (unhide hMk).mono ?_
      rintro e w4 ⟨x2, F2, rfl, r4, f4⟩
      have e4 := (unhide HE3).below f4
      have HW := hide (P.write F2 w4 w3.heap.size x2 [] a3 RL.length c3 RL r4 ⟨e4, by omega, unhide hfit⟩ (fun b o e hn hb => by
        have h1 := (kwr7_lt r4 b hb).1
        have h2 := es_block_lt (unhide HE3).es e hn
        omega) (by simp))
      rw [if_pos (unhide HCK), if_pos (unhide HCK), List.nil_append] at HW
      have F4 := hide f4
      clear hMk r4 e4 f4 HE3
      go_wp2_with fail
      refine (unhide HW).mono ?_
      rintro e w5 ⟨rfl, ⟨F5, r5, _⟩, fr5⟩
      have f35 : Below w3.heap.size w3 w5 := (unhide F4).trans fr5.below
      have hlb := bytesP_len7 (unhide HCK)
      have HAl := hide (eAll_any F5 w5 w3.heap.size x2 (bytesP RL) r5 (by omega))
      have F35 := hide f35
      clear HW r5 fr5 f35 F4
      go_wp2_with fail
      refine (unhide HAl).mono ?_
      rintro e w6 ⟨v6, rfl, o6, f6⟩
      obtain ⟨a6, c6, rfl, _⟩ := own_form o6
      have f36 := (unhide F35).trans (f6.mono (unhide F35).size)
      have r6 : RD F' w6 W.heap.size x bs RJ := krd7_keep (unhide R3) (fun k hk => f36.block k (krd7_lt (unhide R3) k hk).2)
      have HAt := hide (dAt_any F' w6 W.heap.size x bs RJ r6)
      have O6 := hide o6
      have F36 := hide f36
      clear HAl o6 f6 f36 r6 F35 R3
      go_wp2_with fail
      refine (unhide HAt).mono ?_
      rintro e w7 ⟨rfl, f7⟩
      have f37 := (unhide F36).trans (f7.mono (unhide F36).size)
      have fw7 := (unhide F3).trans (f37.mono (unhide F3).size)
      have hlt : (bs.take RJ).length = RJ := by rw [List.length_take]; omega
      have hb6 : Bs w7 a6 RJ (bs.take RJ) := by
        have o7 := own_below (unhide O6) f7
        have := bs_of_own rfl o7
        rw [unhide HBY, hlt] at this
        exact this
      have hb7 : Bs w7 A1 RJ (bs.take RJ) := by
        have h7 := (unhide HA0).below fw7
        refine ⟨hlt, ?_⟩
        rcases h7.bs.2 with h0 | ⟨b, o, e, hB⟩
        · exact .inl (by omega)
        · exact .inr ⟨b, o, e, bytes_take hB RJ⟩
      have hl6 : (bytesP RL).length = RJ := by rw [unhide HBY, hlt]
      have HSm := hide (SameBytes_same w7 a6 A1 (bs.take RJ) RJ c6 cc hb6 hb7)
      have F7 := hide fw7
      have hR1 : (RJ : Int) ≤ (cc : Int) := by have := (unhide HA0).room; omega
      have hR2 : (cc : Int) ≤ 9223372036854775807 := by have := (unhide HA0).most; omega
      rw [hl6]
      clear HAt f7 f37 fw7 hlt hb6 hb7 hl6 O6 F36 HA3 HBY
      go_wp2_with fail
      refine (unhide HSm).mono ?_
      rintro e w8 ⟨rfl, e0⟩
      have e0' := e0.symm
      clear e0
      subst e0'
      go_wp2
      go_ret
      exact ⟨rfl, unhide F7⟩


set_option maxHeartbeats 12800000 in
set_option maxRecDepth 100000 in
theorem back_many (P : PoolsRW) (w : World) (a0 : Option Addr) (n0 c0 : Nat) (l : List Ent) (hI : EIn w a0 n0 c0 l) (ab ao n1 cc : Nat) (bs0 bs : List UInt8) (hB0 : Arg w (some ⟨ab, ao, none⟩) n1 cc bs0) (hN : 5000 < n1) (hNs : n1 ≤ 140737488351232) (hB : Arg w (some ⟨ab, ao, none⟩) 5000 cc bs) :
    Calls Try.prog 7 #[.slice a0 n0 c0, .slice (some ⟨ab, ao, none⟩) n1 cc] w fun e w' => e = .returned (.bool true) ∧ Below w.heap.size w w' := by
  have hn5 : (5000 : Int) < (n1 : Int) := by omega
  have hcap : (5000 : Int) ≤ (cc : Int) := by have := hB.room; omega
  have hcm : (cc : Int) ≤ 9223372036854775807 := by have := hB.most; omega
  have hNc : (n1 : Int) ≤ (cc : Int) := by have := hB0.room; omega
  have hbl := hB.bs.1
  have hMs : bs.length ≤ 5000 := by omega
  have HA0 := hide hB
  have HI := hide hI
  have hsm : n0 ≤ 140737488351232 := by have := hI.small; omega
  clear hB hI hB0
  go_enter Try.func7, Try.ntmps7
  go_wp2_with fail
  refine (works7_any P.pools w).mono ?_
  rintro e w1 ⟨rfl, f1⟩
  have HMk := hide (eMake_any w1)
  have F1 := hide f1
  clear f1
  go_wp2_with fail
  refine (unhide HMk).mono ?_
  rintro e w2 ⟨x1, F1', rfl, r2, f2⟩
  have fw2 := (unhide F1).trans (f2.mono (unhide F1).size)
  have I2 := (unhide HI).below fw2
  have HWr := hide (P.write F1' w2 w1.heap.size x1 [] a0 n0 c0 l r2 I2 (fun b o e hn hb => by
    have h1 := (kwr7_lt r2 b hb).1
    have h2 := es_block_lt (unhide HI).arg.es e hn
    have h3 := (unhide F1).size
    omega) (by simp))
  have F2 := hide fw2
  have hs1 := (unhide F1).size
  have hs12 := f2.size
  clear HMk r2 f2 fw2 I2 F1
  by_cases hck : checkP l = true
  case neg =>
    rw [if_neg hck, if_neg hck] at HWr
    clear hck
    go_wp2_with fail
    refine (unhide HWr).mono ?_
    rintro e W ⟨rfl, _, fr3⟩
    have fW : Below w.heap.size w W := (unhide F2).trans (fr3.below.mono hs1)
    have FW := hide fW
    have HAW := hide ((unhide HA0).below fW)
    clear HWr fr3 fW F2
    go_wp2_with fail
    refine (dRead_any W (some ⟨ab, ao, none⟩) 5000 cc bs (unhide HAW) (by omega)).mono ?_
    rintro e w2 ⟨x, F, rfl, r2, f2⟩
    have HP := hide (P.read F w2 W.heap.size x bs 0 r2 (by omega) (by omega))
    have F2 := hide ((unhide FW).trans (f2.mono (unhide FW).size))
    have HA2 := hide ((unhide HAW).below f2)
    have hWs : w.heap.size ≤ W.heap.size := (unhide FW).size
    clear r2 f2 FW HAW
    have hfit := hide (readP_fit7 (bs := bs) (i := 0) (by omega))
    have hnil := hide (readP_nil7 (bs := bs) (i := 0))
    have hback := hide (readP_back (b := bs))
    go_wp2_with fail
    refine (unhide HP).mono ?_
    rintro e w3 ⟨⟨a3, c3, rfl, e3⟩, hrd, fr3⟩
    have f3 : Below w.heap.size w w3 := (unhide F2).trans (fr3.below.mono hWs)
    have HA3 : Hid (Arg w3 (some ⟨ab, ao, none⟩) 5000 cc bs) := (unhide HA0).below f3
    have F3 := hide f3
    have HE3 := hide e3
    have HRD := hide hrd
    clear HP e3 hrd fr3 f3 F2 HA2
    generalize readP bs 0 = R at *
    obtain ⟨RL, RE, RJ⟩ := R
    simp only at HE3 HRD hfit hnil hback ⊢
    by_cases h0 : RE = 0
    case neg =>
      have hne : (RE == 0) = false := by simpa using h0
      have hne' : (RE != 0) = true := by simpa using h0
      have hl0 := unhide hnil h0
      subst hl0
      clear h0 HE3 HRD hfit hnil hback
      go_wp2
      go_ret
      exact ⟨rfl, unhide F3⟩
    case pos =>
      subst h0
      obtain ⟨hck, hby, hRJ⟩ := unhide hback (by first | rfl | trivial)
      obtain ⟨F', r3, hF'⟩ := unhide HRD (by first | rfl | trivial)
      have hRl : RL.length ≤ 1024 := (checkP_right.1 hck).1.2
      have hMk := hide (eMake_any w3)
      have R3 := hide r3
      have HBY := hide hby
      have HCK := hide hck
      clear hnil hback HRD r3 hF' hby hck
      go_wp2_with fail
      refine (unhide hMk).mono ?_
      rintro e w4 ⟨x2, F2, rfl, r4, f4⟩
      have e4 := (unhide HE3).below f4
      have HW := hide (P.write F2 w4 w3.heap.size x2 [] a3 RL.length c3 RL r4 ⟨e4, by omega, unhide hfit⟩ (fun b o e hn hb => by
        have h1 := (kwr7_lt r4 b hb).1
        have h2 := es_block_lt (unhide HE3).es e hn
        omega) (by simp))
      rw [if_pos (unhide HCK), if_pos (unhide HCK), List.nil_append] at HW
      have F4 := hide f4
      clear hMk r4 e4 f4 HE3
      go_wp2_with fail
      refine (unhide HW).mono ?_
      rintro e w5 ⟨rfl, ⟨F5, r5, _⟩, fr5⟩
      have f35 : Below w3.heap.size w3 w5 := (unhide F4).trans fr5.below
      have hlb := bytesP_len7 (unhide HCK)
      have HAl := hide (eAll_any F5 w5 w3.heap.size x2 (bytesP RL) r5 (by omega))
      have F35 := hide f35
      clear HW r5 fr5 f35 F4
      go_wp2_with fail
      refine (unhide HAl).mono ?_
      rintro e w6 ⟨v6, rfl, o6, f6⟩
      obtain ⟨a6, c6, rfl, _⟩ := own_form o6
      have f36 := (unhide F35).trans (f6.mono (unhide F35).size)
      have r6 : RD F' w6 W.heap.size x bs RJ := krd7_keep (unhide R3) (fun k hk => f36.block k (krd7_lt (unhide R3) k hk).2)
      have HAt := hide (dAt_any F' w6 W.heap.size x bs RJ r6)
      have O6 := hide o6
      have F36 := hide f36
      clear HAl o6 f6 f36 r6 F35 R3
      go_wp2_with fail
      refine (unhide HAt).mono ?_
      rintro e w7 ⟨rfl, f7⟩
      have f37 := (unhide F36).trans (f7.mono (unhide F36).size)
      have fw7 := (unhide F3).trans (f37.mono (unhide F3).size)
      have hlt : (bs.take RJ).length = RJ := by rw [List.length_take]; omega
      have hb6 : Bs w7 a6 RJ (bs.take RJ) := by
        have o7 := own_below (unhide O6) f7
        have := bs_of_own rfl o7
        rw [unhide HBY, hlt] at this
        exact this
      have hb7 : Bs w7 (some ⟨ab, ao, none⟩) RJ (bs.take RJ) := by
        have h7 := (unhide HA0).below fw7
        refine ⟨hlt, ?_⟩
        rcases h7.bs.2 with h0 | ⟨b, o, e, hB⟩
        · exact .inl (by omega)
        · exact .inr ⟨b, o, e, bytes_take hB RJ⟩
      have hl6 : (bytesP RL).length = RJ := by rw [unhide HBY, hlt]
      have HSm := hide (SameBytes_same w7 a6 (some ⟨ab, ao, none⟩) (bs.take RJ) RJ c6 cc hb6 hb7)
      have F7 := hide fw7
      have hR1 : (RJ : Int) ≤ (cc : Int) := by have := (unhide HA0).room; omega
      have hR2 : (cc : Int) ≤ 9223372036854775807 := by have := (unhide HA0).most; omega
      rw [hl6]
      clear HAt f7 f37 fw7 hlt hb6 hb7 hl6 O6 F36 HA3 HBY
      go_wp2_with fail
      refine (unhide HSm).mono ?_
      rintro e w8 ⟨rfl, e0⟩
      have e0' := e0.symm
      clear e0
      subst e0'
      go_wp2
      go_ret
      exact ⟨rfl, unhide F7⟩

  case pos =>
    rw [if_pos hck, if_pos hck, List.nil_append] at HWr
    have hlb := bytesP_len7 hck
    have hat := readP_at (l := l) [] [7] hck (unhide HI).fit.2
    rw [List.nil_append, List.length_nil, Nat.zero_add] at hat
    have HAT := hide hat
    clear hck hat
    go_wp2_with fail
    refine (unhide HWr).mono ?_
    rintro e w3 ⟨rfl, ⟨F3', r3, _⟩, fr3⟩
    have fw3 : Below w.heap.size w w3 := (unhide F2).trans (fr3.below.mono hs1)
    have HAl := hide (eAll_any F3' w3 w1.heap.size x1 (bytesP l) r3 (by omega))
    have F3 := hide fw3
    clear HWr r3 fr3 fw3 F2
    go_wp2_with fail
    refine (unhide HAl).mono ?_
    rintro e w4 ⟨v4, rfl, o4, f4⟩
    obtain ⟨a4, c4, rfl, _⟩ := own_form o4
    have hown := o4.alloc (.cells (bv [7]).toArray 5)
    have hsrc : Bs (w4.alloc (.cells (bv [7]).toArray 5)) (some ⟨w4.heap.size, 0, none⟩) 1 [7] := ⟨rfl, .inr ⟨_, _, rfl, bytes_of_block (heap_alloc_last _ _)⟩⟩
    have hbs4 : w3.heap.size ≤ (w4.alloc (.cells (bv [7]).toArray 5)).heap.size := Nat.le_trans f4.size (by simp)
    have bl4 : Below w3.heap.size w3 (w4.alloc (.cells (bv [7]).toArray 5)) := f4.alloc f4.size _
    have BL4 := hide bl4
    have O4 := hide o4
    have hlt4 : ∀ k, (Value.slice a4 (bytesP l).length c4).ownBlock = some k → w3.heap.size ≤ k := fun k hk => (o4.lt k hk).1
    have HLT := hide hlt4
    clear HAl o4 f4 bl4 hlt4
    go_wp2_with (at_builtin; refine listB_append rfl _ _ rfl w3.heap.size (.slice a4 (bytesP l).length c4) (bytesP l).length (bytesP l) rfl (by exact hown) (some ⟨w4.heap.size, 0, none⟩) 1 1 [7] rfl (by exact hsrc) (fun e => by cases e) (by omega) hbs4 ?_)
    intro v5 w5 o5 g5
    have f5 : Below w3.heap.size w3 w5 := (unhide BL4).grown g5 hbs4 (fun k hk => unhide HLT k hk)
    obtain ⟨a5, c5, rfl, _⟩ := own_form o5
    have hl5 : (bytesP l ++ [7]).length = (bytesP l).length + 1 := by simp
    have HRd := hide (dRead_any w5 a5 ((bytesP l).length + 1) c5 (bytesP l ++ [7]) (arg_of_own hl5 o5) (by omega))
    have F5 := hide f5
    clear o5 g5 f5 hown hsrc hbs4 BL4 O4 HLT
    go_wp2_with fail
    refine (unhide HRd).mono ?_
    rintro e w6 ⟨x6, F6', rfl, r6, f6⟩
    have HP6 := hide (P.read F6' w6 w5.heap.size x6 (bytesP l ++ [7]) 0 r6 (by rw [hl5]; omega) (by omega))
    rw [unhide HAT] at HP6
    have F6 := hide ((unhide F5).trans (f6.mono (unhide F5).size))
    have hs56 : w3.heap.size ≤ w5.heap.size := (unhide F5).size
    clear HRd r6 f6 F5 HAT
    go_wp2_with fail
    refine (unhide HP6).mono ?_
    rintro e w7 ⟨⟨a7, c7, rfl, e7⟩, _, fr7⟩
    have f37 : Below w3.heap.size w3 w7 := (unhide F6).trans (fr7.below.mono hs56)
    have fw7 := (unhide F3).trans (f37.mono (unhide F3).size)
    have hln := (unhide HI).arg.es.1
    have HSE := hide (SameEntries_same w7 a7 a0 n0 c7 c0 l (by have := e7.es; rw [hln] at this; exact this) ((unhide HI).below fw7).arg.es hsm)
    have F7 := hide fw7
    simp only
    rw [hln]
    clear HP6 e7 fr7 f37 fw7 F6 F3
    go_wp2_with fail
    refine (unhide HSE).mono ?_
    rintro e W ⟨rfl, f8⟩
    have fW := (unhide F7).trans (f8.mono (unhide F7).size)
    have FW := hide fW
    have HAW := hide ((unhide HA0).below fW)
    clear HSE f8 fW F7
    go_wp2_with fail
    refine (dRead_any W (some ⟨ab, ao, none⟩) 5000 cc bs (unhide HAW) (by omega)).mono ?_
    rintro e w2 ⟨x, F, rfl, r2, f2⟩
    have HP := hide (P.read F w2 W.heap.size x bs 0 r2 (by omega) (by omega))
    have F2 := hide ((unhide FW).trans (f2.mono (unhide FW).size))
    have HA2 := hide ((unhide HAW).below f2)
    have hWs : w.heap.size ≤ W.heap.size := (unhide FW).size
    clear r2 f2 FW HAW
    have hfit := hide (readP_fit7 (bs := bs) (i := 0) (by omega))
    have hnil := hide (readP_nil7 (bs := bs) (i := 0))
    have hback := hide (readP_back (b := bs))
    go_wp2_with fail
    refine (unhide HP).mono ?_
    rintro e w3 ⟨⟨a3, c3, rfl, e3⟩, hrd, fr3⟩
    have f3 : Below w.heap.size w w3 := (unhide F2).trans (fr3.below.mono hWs)
    have HA3 : Hid (Arg w3 (some ⟨ab, ao, none⟩) 5000 cc bs) := (unhide HA0).below f3
    have F3 := hide f3
    have HE3 := hide e3
    have HRD := hide hrd
    clear HP e3 hrd fr3 f3 F2 HA2
    generalize readP bs 0 = R at *
    obtain ⟨RL, RE, RJ⟩ := R
    simp only at HE3 HRD hfit hnil hback ⊢
    by_cases h0 : RE = 0
    case neg =>
      have hne : (RE == 0) = false := by simpa using h0
      have hne' : (RE != 0) = true := by simpa using h0
      have hl0 := unhide hnil h0
      subst hl0
      clear h0 HE3 HRD hfit hnil hback
      go_wp2
      go_ret
      exact ⟨rfl, unhide F3⟩
    case pos =>
      subst h0
      obtain ⟨hck, hby, hRJ⟩ := unhide hback (by first | rfl | trivial)
      obtain ⟨F', r3, hF'⟩ := unhide HRD (by first | rfl | trivial)
      have hRl : RL.length ≤ 1024 := (checkP_right.1 hck).1.2
      have hMk := hide (eMake_any w3)
      have R3 := hide r3
      have HBY := hide hby
      have HCK := hide hck
      clear hnil hback HRD r3 hF' hby hck
      go_wp2_with fail
      refine (unhide hMk).mono ?_
      rintro e w4 ⟨x2, F2, rfl, r4, f4⟩
      have e4 := (unhide HE3).below f4
      have HW := hide (P.write F2 w4 w3.heap.size x2 [] a3 RL.length c3 RL r4 ⟨e4, by omega, unhide hfit⟩ (fun b o e hn hb => by
        have h1 := (kwr7_lt r4 b hb).1
        have h2 := es_block_lt (unhide HE3).es e hn
        omega) (by simp))
      rw [if_pos (unhide HCK), if_pos (unhide HCK), List.nil_append] at HW
      have F4 := hide f4
      clear hMk r4 e4 f4 HE3
      go_wp2_with fail
      refine (unhide HW).mono ?_
      rintro e w5 ⟨rfl, ⟨F5, r5, _⟩, fr5⟩
      have f35 : Below w3.heap.size w3 w5 := (unhide F4).trans fr5.below
      have hlb := bytesP_len7 (unhide HCK)
      have HAl := hide (eAll_any F5 w5 w3.heap.size x2 (bytesP RL) r5 (by omega))
      have F35 := hide f35
      clear HW r5 fr5 f35 F4
      go_wp2_with fail
      refine (unhide HAl).mono ?_
      rintro e w6 ⟨v6, rfl, o6, f6⟩
      obtain ⟨a6, c6, rfl, _⟩ := own_form o6
      have f36 := (unhide F35).trans (f6.mono (unhide F35).size)
      have r6 : RD F' w6 W.heap.size x bs RJ := krd7_keep (unhide R3) (fun k hk => f36.block k (krd7_lt (unhide R3) k hk).2)
      have HAt := hide (dAt_any F' w6 W.heap.size x bs RJ r6)
      have O6 := hide o6
      have F36 := hide f36
      clear HAl o6 f6 f36 r6 F35 R3
      go_wp2_with fail
      refine (unhide HAt).mono ?_
      rintro e w7 ⟨rfl, f7⟩
      have f37 := (unhide F36).trans (f7.mono (unhide F36).size)
      have fw7 := (unhide F3).trans (f37.mono (unhide F3).size)
      have hlt : (bs.take RJ).length = RJ := by rw [List.length_take]; omega
      have hb6 : Bs w7 a6 RJ (bs.take RJ) := by
        have o7 := own_below (unhide O6) f7
        have := bs_of_own rfl o7
        rw [unhide HBY, hlt] at this
        exact this
      have hb7 : Bs w7 (some ⟨ab, ao, none⟩) RJ (bs.take RJ) := by
        have h7 := (unhide HA0).below fw7
        refine ⟨hlt, ?_⟩
        rcases h7.bs.2 with h0 | ⟨b, o, e, hB⟩
        · exact .inl (by omega)
        · exact .inr ⟨b, o, e, bytes_take hB RJ⟩
      have hl6 : (bytesP RL).length = RJ := by rw [unhide HBY, hlt]
      have HSm := hide (SameBytes_same w7 a6 (some ⟨ab, ao, none⟩) (bs.take RJ) RJ c6 cc hb6 hb7)
      have F7 := hide fw7
      have hR1 : (RJ : Int) ≤ (cc : Int) := by have := (unhide HA0).room; omega
      have hR2 : (cc : Int) ≤ 9223372036854775807 := by have := (unhide HA0).most; omega
      rw [hl6]
      clear HAt f7 f37 fw7 hlt hb6 hb7 hl6 O6 F36 HA3 HBY
      go_wp2_with fail
      refine (unhide HSm).mono ?_
      rintro e w8 ⟨rfl, e0⟩
      have e0' := e0.symm
      clear e0
      subst e0'
      go_wp2
      go_ret
      exact ⟨rfl, unhide F7⟩


theorem back_walk7 (P : PoolsRW) (w : World) (a0 : Option Addr) (n0 c0 : Nat) (l : List Ent) (hI : EIn w a0 n0 c0 l) (a1 : Option Addr) (n1 c1 : Nat) (bs : List UInt8) (h : Arg w a1 n1 c1 bs) (hs : n1 ≤ 140737488351232) :
    Calls Try.prog 7 #[.slice a0 n0 c0, .slice a1 n1 c1] w fun e w' => e = .returned (.bool true) ∧ Below w.heap.size w w' := by
  by_cases hn : n1 ≤ 5000
  · exact back_few P w a0 n0 c0 l hI a1 n1 c1 bs h hn
  · obtain ⟨b, o, rfl, _⟩ := h.bs.2.resolve_left (by omega)
    exact back_many P w a0 n0 c0 l hI b o n1 c1 bs (bs.take 5000) h (by omega) hs (arg_take7 h 5000 (by omega) (by omega))

end Go.Proofs.Ytjpimcglojneaaa
