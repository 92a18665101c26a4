/- The program's own sums, as far as other layers call them: split, Seal, Right. -/
import Derived.Test.YtnkmcndbbapeoaaDoorSmP1
import Derived.Test.YtnkmcndbbapeoaaDoorSmS
namespace Go.Proofs.YtnkmcndbbapeoaaDoor
open Go.RowKit
set_option linter.unusedVariables false

theorem results_cell_one {fn : Func} {p : Tmp} {ty : TypeId} (h : fn.results = #[.cell p ty]) (tmps : Array Value) (P : Program) (w : World) :
    (results fn tmps).run P w = ((asAddr (tmps.getD p undef)).run P w).andThen fun a w₁ => (loadVar ty a).run P w₁ := by
  simp only [results, h]
  simp [Sem.run_bind, Result.andThen]

/-- A sum's bytes in a place of their own. -/
theorem four_results {fn : Func} (h : fn.results = #[.cell 2 56]) (w : World) (A : Nat) (c0 c1 c2 c3 : Value) (hA : w.heap[A]? = some (.cells #[c0, c1, c2, c3] 56)) (o0 : c0.oneCell' = true) (o1 : c1.oneCell' = true) (o2 : c2.oneCell' = true) (o3 : c3.oneCell' = true) (tmps : Array Value) (hp : tmps.getD 2 undef = .pointer (some ⟨A, 0, none⟩)) :
    (results fn tmps).run Tryd.prog w = .ok (.agg #[c0, c1, c2, c3]) w := by
  have h0 : w.cell? ⟨A, 0, none⟩ = some c0 := by rw [cell_of_row _ _ _ _ _ _ hA]; rfl
  have h1 : w.cell? ⟨A, 1, none⟩ = some c1 := by rw [cell_of_row _ _ _ _ _ _ hA]; rfl
  have h2 : w.cell? ⟨A, 2, none⟩ = some c2 := by rw [cell_of_row _ _ _ _ _ _ hA]; rfl
  have h3 : w.cell? ⟨A, 3, none⟩ = some c3 := by rw [cell_of_row _ _ _ _ _ _ hA]; rfl
  rw [results_cell_one h, hp]
  go_simp

set_option maxHeartbeats 800000 in
theorem split_any (w : World) (s : Nat) (hs : s < W32) :
    Calls Tryd.prog 35 #[.int .u32 (s : Int)] w fun e w' => e = .returned (.agg (bv (be4 s)).toArray) ∧ Below w.heap.size w w' := by
  rw [bv_be4]
  go_enter Tryd.func35, Tryd.ntmps35
  go_wp2
  refine bodyPost_ret (four_results Tryd.results35 _ w.heap.size _ _ _ _ (heap_alloc_last w _) rfl rfl rfl rfl _ rfl) rfl ⟨rfl, (Below.refl _ _).alloc (Nat.le_refl _) _⟩

theorem bytesEqual_any (w : World) (a b : Option Addr) (x y : List UInt8) (n m c d : Nat) (ha : BytesAt w a x) (hb : BytesAt w b y) (hn : x.length = n) (hm : y.length = m) :
    Calls Tryd.prog 38 #[.slice a n c, .slice b m d] w fun e w' => e = .returned (.bool (decide (x = y))) ∧ w' = w := by
  subst hn
  subst hm
  have h1 := conv_bytes w a x c ha
  have h2 := conv_bytes w b y d hb
  clear ha hb
  go_enter Tryd.func38, Tryd.ntmps38
  go_wp2
  go_ret
  refine ⟨?_, rfl⟩
  show Ending.returned (.bool (x == y)) = _
  rw [Bool.beq_eq_decide_eq]

/-- Of one part. -/
theorem tOf_one (w : World) (a : Option Addr) (n cap : Nat) (l : List UInt8) (hT : Tab w) (hs : n ≤ 1000000) (h : Bs w a n l) :
    Calls Tryd.prog 36 #[.slice (some ⟨w.heap.size, 0, none⟩) 1 1] (w.alloc (.cells #[.slice a n cap] 25)) fun e w' => e = .returned (.int .u32 (onS 0 l : Int)) ∧ Below w.heap.size w w' := by
  have b1 : Below w.heap.size w (w.alloc (.cells #[.slice a n cap] 25)) := (Below.refl _ _).alloc (Nat.le_refl _) _
  have hl := heap_alloc_last w (.cells #[.slice a n cap] 25)
  have hn := h.1
  refine (sOf_at _ w.heap.size 0 1 1 [l] (hT.below b1) rfl (by omega) ?_).mono ?_
  · intro j x hx
    match j, hx with
    | 0, hx =>
      cases hx
      refine ⟨by omega, a, cap, ?_, ?_⟩
      · rw [cell_of_row _ _ _ _ _ _ hl, hn]; rfl
      · rw [hn]; exact h.below b1
  · rintro e w' ⟨rfl, f⟩
    refine ⟨by simp, b1.trans (f.mono b1.size)⟩

theorem split_four (w : World) (s : Nat) (hs : s < W32) :
    Calls Tryd.prog 35 #[.int .u32 (s : Int)] w fun e w' => e = .returned (.agg #[.int .u8 ((s : Int) / 16777216 % 256), .int .u8 ((s : Int) / 65536 % 256), .int .u8 ((s : Int) / 256 % 256), .int .u8 ((s : Int) % 256)]) ∧ Below w.heap.size w w' := by
  have h := split_any w s hs
  rw [bv_be4] at h
  exact h

theorem madeRoom (w : World) (n : Nat) (hn : n ≤ 1000000) :
    ∃ w', (Instr.makeSlice 25 (.int .i64 0) (.int .i64 ((n : Int) + 4))).run Tryd.prog w = .ok (.slice (some ⟨w.heap.size, 0, none⟩) 0 (n + 4)) w' ∧
      w'.ownsRow w.heap.size 5 1 (.slice (some ⟨w.heap.size, 0, none⟩) 0 (n + 4)) 0 [] ∧ Below w.heap.size w w' := by
  obtain ⟨i0, hi, hz0, hz1, hz2⟩ := info_parts infoB
  obtain ⟨w', h1, h2, h3⟩ := run_make_own (P := Tryd.prog) w w.heap.size 25 5 i0 (.int .u8 0) 1 Tryd.underlying25 hi hz0 hz1 .i64 .i64 (n + 4) (by rw [hz2]; omega) (by unfold maxLen; omega) (Nat.le_refl _)
  exact ⟨w', h1, h2, (Below.refl _ _).grown h3 (Nat.le_refl _) (fun k hk => by cases hk)⟩

set_option maxHeartbeats 800000 in
theorem sSeal_some (w : World) (ad : Addr) (n cap : Nat) (l : List UInt8) (hT : Tab w) (hs : n ≤ 1000000) (h : Bs w (some ad) n l) :
    Calls Tryd.prog 27 #[.slice (some ad) n cap] w fun e w' => ∃ v, e = .returned v ∧ w'.ownsRow w.heap.size 5 1 v (n + 4) (bv (sealL l)) ∧ Below w.heap.size w w' := by
  have hsl : sealL l = l ++ be4 (onS 0 l) := rfl
  have HSL := hide hsl
  have hlt := hide (onS_lt l zero_lt32)
  obtain ⟨w0, hm, hown, f0⟩ := madeRoom w n hs
  obtain ⟨i0, hi, hz0, hz1, hz2⟩ := info_parts infoB
  have hsrc := (h.below f0).at.2 ad rfl
  have hn := h.1
  have hsz := f0.size
  have HT := hide hT
  have HH := hide h
  have F0 := hide f0
  clear hsl hT h f0
  go_enter Tryd.func27, Tryd.ntmps27
  go_wp2_with (at_builtin; refine wpList_append_own _ rfl (.tmp 9) (.tmp 10) 25 rfl w.heap.size 5 i0 (.int .u8 0) 1 1 Tryd.underlying25 hi hz0 hz1 hz2 rfl (by decide) _ _ _ rfl hown ad n cap (bv l) rfl ?c0 ?c1 ?c2 ?c3 ?c4 ?c5 ?_)
  case c0 => rw [bv_length, hn]; omega
  case c1 => exact hsrc
  case c2 => exact bv_one _
  case c3 => unfold maxLen; omega
  case c4 => omega
  case c5 => exact hsz
  intro v1 w1 hown1 hgrow _
  have f1 : Below w.heap.size w w1 := (unhide F0).grown hgrow hsz (fun k hk => by simp [Value.ownBlock] at hk; omega)
  obtain ⟨a1, c1, rfl, _⟩ := own_form hown1
  have H2 := hide (tOf_one w1 (some ad) n cap l ((unhide HT).below f1) hs ((unhide HH).below f1))
  have F1 := hide f1
  have O1 := hide hown1
  generalize onS 0 l = s at *
  clear hown1 hgrow f1 hown hsrc hm
  go_wp2_with fail
  refine (unhide H2).mono ?_
  rintro e w2 ⟨rfl, f2⟩
  have H3 := hide (split_four w2 s (unhide hlt))
  have O2 := hide (own_below (unhide O1) f2)
  have F2 := hide ((unhide F1).trans (f2.mono (unhide F1).size))
  clear f2 H2 F1 O1
  go_wp2_with fail
  refine (unhide H3).mono ?_
  rintro e w3 ⟨rfl, f3⟩
  have hb3 := (unhide F2).trans (f3.mono (unhide F2).size)
  have hown3 := own_below (own_below (unhide O2) f3) ((Below.refl _ _).alloc (Nat.le_refl _) (.cells (bv (be4 s)).toArray 56))
  have hb4 : Below w.heap.size w (w3.alloc (.cells (bv (be4 s)).toArray 56)) := hb3.alloc hb3.size _
  have hsrc3 : ∀ j u, (bv (be4 s))[j]? = some u → (w3.alloc (.cells (bv (be4 s)).toArray 56)).cell? (Addr.add ⟨w3.heap.size, 0, none⟩ j) = some u := World.news_of_block (heap_alloc_last w3 _)
  have one4 := bv_one (be4 s)
  have hlo := hown3.lt
  have hsz4 := hb4.size
  rw [bv_be4] at hown3 hb4 hsrc3 one4 hsz4
  have HB := hide hb4
  have HLO := hide hlo
  clear f3 H3 F2 O2 hb3 hb4 hlo
  go_wp2_with (at_builtin; refine wpList_append_own _ rfl (.tmp 16) (.tmp 17) 25 rfl w.heap.size 5 i0 (.int .u8 0) 1 1 Tryd.underlying25 hi hz0 hz1 hz2 rfl (by decide) _ _ _ rfl hown3 ⟨w3.heap.size, 0, none⟩ 4 4 [.int .u8 ((s : Int) / 16777216 % 256), .int .u8 ((s : Int) / 65536 % 256), .int .u8 ((s : Int) / 256 % 256), .int .u8 ((s : Int) % 256)] rfl rfl hsrc3 one4 ?c3 ?c4 hsz4 ?_)
  case c3 => unfold maxLen; omega
  case c4 => omega
  intro v4 w4 hown4 hgrow4 _
  have hb5 : Below w.heap.size w w4 := (unhide HB).grown hgrow4 (unhide HB).size (fun k hk => (unhide HLO k hk).1)
  have HO := hide hown4
  have HB5 := hide hb5
  clear hown4 hgrow4 hb5 hown3 hsrc3
  go_wp2
  go_ret
  refine ⟨_, rfl, ?_, unhide HB5⟩
  have := unhide HO
  rw [unhide HSL, bv_append, bv_be4]
  exact this

set_option maxHeartbeats 800000 in
theorem sSeal_none (w : World) (hT : Tab w) :
    Calls Tryd.prog 27 #[.slice none 0 0] w fun e w' => ∃ v, e = .returned v ∧ w'.ownsRow w.heap.size 5 1 v (0 + 4) (bv (sealL [])) ∧ Below w.heap.size w w' := by
  have hsl : sealL [] = [] ++ be4 (onS 0 []) := rfl
  have HSL := hide hsl
  have hlt := hide (onS_lt [] zero_lt32)
  obtain ⟨w0, hm, hown, f0⟩ := madeRoom w 0 (by omega)
  obtain ⟨i0, hi, hz0, hz1, hz2⟩ := info_parts infoB
  have hsz := f0.size
  have HT := hide hT
  have F0 := hide f0
  clear hsl hT f0
  go_enter Tryd.func27, Tryd.ntmps27
  have hm4 : (Instr.makeSlice 25 (.int .i64 0) (.int .i64 4)).run Tryd.prog w = .ok (.slice (some ⟨w.heap.size, 0, none⟩) 0 4) w0 := hm
  have H2 := hide (tOf_one w0 none 0 0 [] ((unhide HT).below (unhide F0)) (by omega) ⟨rfl, .inl rfl⟩)
  have O1 := hide hown
  generalize onS 0 [] = s at *
  go_wp2_with (at_builtin; refine wpList_append_own_none rfl (.tmp 9) (.tmp 10) 25 rfl w.heap.size 5 i0 1 Tryd.underlying25 hi _ _ _ rfl hown rfl ?_)
  refine (unhide H2).mono ?_
  rintro e w2 ⟨rfl, f2⟩
  have H3 := hide (split_four w2 s (unhide hlt))
  have O2 := hide (own_below (unhide O1) f2)
  have F2 := hide ((unhide F0).trans (f2.mono (unhide F0).size))
  clear f2 H2 F0 O1 hown hm hm4
  go_wp2_with fail
  refine (unhide H3).mono ?_
  rintro e w3 ⟨rfl, f3⟩
  have hb3 := (unhide F2).trans (f3.mono (unhide F2).size)
  have hown3 := own_below (own_below (unhide O2) f3) ((Below.refl _ _).alloc (Nat.le_refl _) (.cells (bv (be4 s)).toArray 56))
  have hb4 : Below w.heap.size w (w3.alloc (.cells (bv (be4 s)).toArray 56)) := hb3.alloc hb3.size _
  have hsrc3 : ∀ j u, (bv (be4 s))[j]? = some u → (w3.alloc (.cells (bv (be4 s)).toArray 56)).cell? (Addr.add ⟨w3.heap.size, 0, none⟩ j) = some u := World.news_of_block (heap_alloc_last w3 _)
  have one4 := bv_one (be4 s)
  have hlo := hown3.lt
  have hsz4 := hb4.size
  rw [bv_be4] at hown3 hb4 hsrc3 one4 hsz4
  have HB := hide hb4
  have HLO := hide hlo
  clear f3 H3 F2 O2 hb3 hb4 hlo
  go_wp2_with (at_builtin; refine wpList_append_own _ rfl (.tmp 16) (.tmp 17) 25 rfl w.heap.size 5 i0 (.int .u8 0) 1 1 Tryd.underlying25 hi hz0 hz1 hz2 rfl (by decide) _ _ _ rfl hown3 ⟨w3.heap.size, 0, none⟩ 4 4 [.int .u8 ((s : Int) / 16777216 % 256), .int .u8 ((s : Int) / 65536 % 256), .int .u8 ((s : Int) / 256 % 256), .int .u8 ((s : Int) % 256)] rfl rfl hsrc3 one4 ?c3 ?c4 hsz4 ?_)
  case c3 => unfold maxLen; omega
  case c4 => omega
  intro v4 w4 hown4 hgrow4 _
  have hb5 : Below w.heap.size w w4 := (unhide HB).grown hgrow4 (unhide HB).size (fun k hk => (unhide HLO k hk).1)
  have HO := hide hown4
  have HB5 := hide hb5
  clear hown4 hgrow4 hb5 hown3 hsrc3
  go_wp2
  go_ret
  refine ⟨_, rfl, ?_, unhide HB5⟩
  have := unhide HO
  rw [unhide HSL, bv_append, bv_be4]
  exact this

theorem sSeal_any (w : World) (a : Option Addr) (n cap : Nat) (l : List UInt8) (hT : Tab w) (hs : n ≤ 1000000) (ha : a = none → n = 0 ∧ cap = 0) (h : Bs w a n l) :
    Calls Tryd.prog 27 #[.slice a n cap] w fun e w' => ∃ v, e = .returned v ∧ w'.ownsRow w.heap.size 5 1 v (n + 4) (bv (sealL l)) ∧ Below w.heap.size w w' := by
  cases a with
  | none =>
    obtain ⟨rfl, rfl⟩ := ha rfl
    have : l = [] := List.eq_nil_of_length_eq_zero h.1
    subst this
    exact sSeal_none w hT
  | some ad => exact sSeal_some w ad n cap l hT hs h

set_option maxHeartbeats 800000 in
theorem sRight_lt (w : World) (a : Option Addr) (n cap : Nat) (h : n < 4) :
    Calls Tryd.prog 31 #[.slice a n cap] w fun e w' => e = .returned (.bool false) ∧ Below w.heap.size w w' := by
  have g1 : decide ((n : Int) - 4 < 0) = true := by simp; omega
  go_enter Tryd.func31, Tryd.ntmps31
  go_wp2
  go_ret
  exact ⟨rfl, Below.refl _ _⟩

theorem drop_bytes {W : World} {b o : Nat} {l : List UInt8} (h : BytesAt W (some ⟨b, o, none⟩) l) (k : Nat) : BytesAt W (some ⟨b, o + k, none⟩) (l.drop k) :=
  ⟨(fun e => by cases e), fun ad e i u hu => by
    injection e with e
    subst e
    have hu' : (bv l)[k + i]? = some u := by
      simp only [bv, List.map_drop, List.getElem?_drop] at hu ⊢
      exact hu
    have := h.2 _ rfl (k + i) u hu'
    rw [Addr.add_mid] at this ⊢
    rw [Nat.add_assoc]
    exact this⟩

theorem right_iff (l : List UInt8) (n : Nat) (hn : l.length = n) (h4 : 4 ≤ n) : (be4 (onS 0 (l.take (n - 4))) = l.drop (n - 4)) ↔ sealL (l.take (n - 4)) = l := by
  unfold sealL
  constructor
  · intro h
    rw [h, List.take_append_drop]
  · intro h
    have h2 := congrArg (List.drop (n - 4)) h
    rw [List.drop_append_of_le_length (by simp; omega), List.drop_eq_nil_of_le (by rw [List.length_take]; omega), List.nil_append] at h2
    exact h2

set_option maxHeartbeats 800000 in
theorem sRight_ge (w : World) (b o n cap : Nat) (l : List UInt8) (hT : Tab w) (h4 : 4 ≤ n) (hn : l.length = n) (hc : n ≤ cap) (hcap : cap ≤ 9223372036854775807) (hs : n ≤ 1000000) (h : BytesAt w (some ⟨b, o, none⟩) l) :
    Calls Tryd.prog 31 #[.slice (some ⟨b, o, none⟩) n cap] w fun e w' => e = .returned (.bool (decide (sealL (l.take (n - 4)) = l))) ∧ Below w.heap.size w w' := by
  have g1 : decide (((n - 4 : Nat) : Int) < 0) = false := by simp
  have hn4 : (n : Int) - 4 = ((n - 4 : Nat) : Int) := by omega
  obtain ⟨m, hm⟩ : ∃ m, n - 4 = m := ⟨_, rfl⟩
  have hfin : decide (be4 (onS 0 (l.take (n - 4))) = l.drop (n - 4)) = decide (sealL (l.take (n - 4)) = l) := decide_eq_decide.2 (right_iff l n hn h4)
  rw [hm] at hn4 g1 hfin ⊢
  generalize decide (sealL (l.take m) = l) = ans at *
  have H1 := hide (tOf_one w (some ⟨b, o, none⟩) m cap (l.take m) hT (by omega) ⟨by simp; omega, .inr ⟨b, o, rfl, bytes_take h _⟩⟩)
  have hlt := hide (onS_lt (l.take m) zero_lt32)
  generalize onS 0 (l.take m) = s at *
  have f2 : (m : Int) ≤ (cap : Int) := by omega
  have f2n : (m : Int) ≤ (n : Int) := by omega
  have f3 : (n : Int) - (m : Int) = 4 := by omega
  have f7 : ¬ cap = m := by omega
  have f9 : ¬ cap = 0 := by omega
  have f8 : IntKind.i64.wrap (m : Int) = (m : Int) := by rw [IntKind.wrap_i64]; omega
  have hdl : (l.drop m).length = n - m := by simp; omega
  have HD := hide (drop_bytes h m)
  have HF := hide hfin
  clear h hfin
  go_enter Tryd.func31, Tryd.ntmps31
  go_wp2_with fail
  refine (unhide H1).mono ?_
  rintro e w2 ⟨rfl, f2'⟩
  have H3 := hide (split_four w2 s (unhide hlt))
  have F2 := hide f2'
  clear f2' H1
  go_wp2_with fail
  refine (unhide H3).mono ?_
  rintro e w3 ⟨rfl, f3'⟩
  have F3 := hide ((unhide F2).trans (f3'.mono (unhide F2).size))
  clear f3' F2 H3
  have hW : Below w.heap.size w (w3.alloc (.cells (bv (be4 s)).toArray 56)) := (unhide F3).alloc (unhide F3).size _
  have hA : BytesAt (w3.alloc (.cells (bv (be4 s)).toArray 56)) (some ⟨w3.heap.size, 0, none⟩) (be4 s) := bytes_of_block (heap_alloc_last w3 _)
  have HQ : Hid (∀ V, Below (w3.alloc (.cells (bv (be4 s)).toArray 56)).heap.size (w3.alloc (.cells (bv (be4 s)).toArray 56)) V → ∀ c d, Calls Tryd.prog 38 #[.slice (some ⟨w3.heap.size, 0, none⟩) 4 c, .slice (some ⟨b, o + m, none⟩) (n - m) d] V fun e w' => e = .returned (.bool ans) ∧ w' = V) := fun V f c d => by
    rw [← unhide HF]
    exact bytesEqual_any V _ _ (be4 s) (l.drop m) 4 (n - m) c d (hA.below f) (((unhide HD).below hW).below f) rfl hdl
  rw [bv_be4] at hW HQ
  have HW := hide hW
  clear hA hW F3 HD HF hlt
  go_wp2
  generalize w3.alloc (Obj.cells #[.int .u8 ((s : Int) / 16777216 % 256), .int .u8 ((s : Int) / 65536 % 256), .int .u8 ((s : Int) / 256 % 256), .int .u8 ((s : Int) % 256)] 56) = W at *
  go_region_held (fun _ => True) (trivial) (first | (go_at_call 38; refine (unhide HQ _ (by repeat (first | exact Below.refl _ _ | refine Below.drew ?_)) _ _).mono ?_; rintro e w5 ⟨rfl, rfl⟩))
  all_goals
    go_wp2
    go_ret
    exact ⟨rfl, by repeat (first | exact unhide HW | refine Below.drew ?_)⟩

theorem sRight_any (w : World) (a : Option Addr) (n cap : Nat) (l : List UInt8) (hT : Tab w) (hc : n ≤ cap) (hcap : cap ≤ 9223372036854775807) (hs : n ≤ 1000000) (h : Bs w a n l) :
    Calls Tryd.prog 31 #[.slice a n cap] w fun e w' => e = .returned (.bool (rightL l)) ∧ Below w.heap.size w w' := by
  have hn := h.1
  by_cases h4 : n < 4
  · refine (sRight_lt w a n cap h4).mono ?_
    rintro e w' ⟨rfl, f⟩
    exact ⟨by simp [rightL]; omega, f⟩
  · rcases h with ⟨_, h0 | ⟨b, o, rfl, h⟩⟩
    · omega
    · refine (sRight_ge w b o n cap l hT (by omega) hn hc hcap hs h).mono ?_
      rintro e w' ⟨rfl, f⟩
      refine ⟨?_, f⟩
      unfold rightL
      subst hn
      simp [show 4 ≤ l.length by omega]

end Go.Proofs.YtnkmcndbbapeoaaDoor
