/- Joined: ShJ ShK. -/
import Derived.Test.YthenefjoidckkaaGreatDoorJS1
import Derived.Test.YthenefjoidckkaaGreatDoorJA
import Derived.Test.YthenefjoidckkaaGreatDoorJS4
import Derived.Deep.Cut
import Derived.Deep.RegionWith

/- Layer 11: how long names are. -/
namespace Go.Proofs.YthenefjoidckkaaGreatDoor
open Go.RowKit
set_option linter.unusedVariables false
set_option maxRecDepth 100000

theorem clsB_len {s : List UInt8} (h : clsB s = true) : s.length ≤ 60 := by
  cases s with
  | nil => simp
  | cons c t =>
    unfold clsB at h
    simp only [Bool.and_eq_true, decide_eq_true_eq] at h
    simp only [List.length_cons]
    omega
theorem innN_le62 (s : List UInt8) (b : Bool) : innN s b ≤ 62 := by
  cases s with
  | nil => simp [innN]
  | cons c t =>
    show (if c = 73 ∨ c = 74 then 1 else if c = 66 then (if b then 1 else 0) else if c = 76 then (if Lib.indexByte t 59 = -1 then 0 else if clsB (t.take (Lib.indexByte t 59).toNat) = true then (Lib.indexByte t 59).toNat + 2 else 0) else 0) ≤ 62
    split
    · omega
    · split
      · cases b <;> simp
      · split
        · split
          · omega
          · split
            · rename_i hi hc
              obtain ⟨h1, h2, _⟩ := idx_lt t 59 hi
              have := clsB_len hc
              rw [List.length_take] at this
              omega
            · omega
        · omega
theorem sizeN_le70 (s : List UInt8) : sizeN s ≤ 70 := by
  unfold sizeN
  have := innN_le62 (s.drop (deepN s)) (decide (0 < deepN s))
  split
  · omega
  · split
    · omega
    · omega
theorem typeP_len2 (s : List UInt8) : (typeP s).name.length ≤ s.length := by
  unfold typeP
  split
  · simp
  · split
    · simp
    · split
      · simp only [List.length_take, List.length_drop]; omega
      · simp
theorem par_len (s : List UInt8) : (parP s).1.name.length ≤ 70 := by
  unfold parP
  split
  · simp [ty0]
  · rename_i h
    have h1 := typeP_len2 s
    have h2 := sizeN_le70 s
    simp only
    omega
theorem elem_len70 (t : Ty) : (elemP t).1.name.length ≤ 70 := by
  unfold elemP
  split
  · rename_i h
    split
    · simp
    · have h1 := typeP_len2 (t.name.drop 1)
      have h2 := sizeN_le70 t.name
      rw [List.length_drop] at h1
      simp only
      omega
  · simp [ty0]
theorem Args.lens {r : List UInt8} {l : List Ty} {rest : List UInt8} (h : Args r l rest) : ∀ t ∈ l, t.name.length ≤ 70 := by
  induction h with
  | done => simp
  | step r l rest h1 h2 ih =>
    intro t ht
    rcases List.mem_cons.1 ht with rfl | ht
    · have h3 := typeP_len2 (r.take (sizeN r))
      have h4 := sizeN_le70 r
      rw [List.length_take] at h3
      omega
    · exact ih t ht
theorem wideN_len (l : List Ty) : l.length ≤ wideN l := by unfold wideN; omega
theorem met_len (s : List UInt8) : (∀ t ∈ (metD s).1, t.name.length ≤ 70) ∧ (metD s).2.1.name.length ≤ 70 ∧ (metD s).1.length ≤ 32 := by
  unfold metD metP
  have hA := args_of s
  have hans : (ansP (argsR s)).1.name.length ≤ 70 := by
    unfold ansP
    split
    · split
      · simp [ty0]
      · exact par_len _
    · simp [ty0]
  split
  · split
    · exact ⟨by simp, by simp [ty0], by simp⟩
    · rename_i hw
      refine ⟨?_, hans, by have := wideN_len (argsL s); simp only; omega⟩
      by_cases h1 : s[0]? = some 40
      · exact (hA.yes h1).lens
      · rw [(hA.no h1).1]; simp
  · exact ⟨by simp, by simp [ty0], by simp⟩
theorem text_len {l : List Ent} (h : rightL l) {i : Int} (ht : (atE l i).tag ≠ 0) : (atE l i).text.length ≤ 255 := by
  have h1 := right_ok h ht
  rw [okE_code] at h1
  simp only [Bool.and_eq_true] at h1
  have h2 := h1.1.1.2
  unfold textB at h2
  simp only [Bool.and_eq_true, decide_eq_true_eq] at h2
  exact h2.2
theorem okE_leads {l : List Ent} {x : Ent} (h : okE l x = true) : (x.tag = 7 → tagE l x.a = 1) ∧ (x.tag = 12 → tagE l x.a = 1 ∧ tagE l x.b = 1) ∧ (x.tag = 9 ∨ x.tag = 10 → tagE l x.a = 7 ∧ tagE l x.b = 12) := by
  refine ⟨fun h7 => ?_, fun h12 => ?_, fun h9 => ?_⟩
  · unfold okE at h
    rw [if_neg (by omega), if_neg (by omega), if_neg (by omega), if_pos h7] at h
    simp only [Bool.and_eq_true, decide_eq_true_eq] at h
    exact h.1
  · unfold okE at h
    rw [if_neg (by omega), if_neg (by omega), if_neg (by omega), if_neg (by omega), if_pos h12] at h
    simp only [Bool.and_eq_true, decide_eq_true_eq] at h
    exact h.1
  · unfold okE at h
    rw [if_neg (by omega), if_neg (by omega), if_neg (by omega), if_neg (by omega), if_neg (by omega), if_pos h9] at h
    simp only [Bool.and_eq_true, decide_eq_true_eq] at h
    exact h.1
theorem const_len (l : List Ent) (i : Int) : (constP l i).1.cls.length ≤ 255 ∧ (constP l i).1.type.length ≤ 255 := by
  unfold constP
  split
  · simp [cst0]
  · rename_i hc
    have hc : checkP l = true := by simpa using hc
    have hr := (checkP_right.1 hc).2
    split
    · simp [cst0]
    · simp only
      unfold meanP
      simp only
      split
      · simp
      · split
        · rename_i h7
          have h1 := (okE_leads (right_ok hr (i := i) (by omega))).1 h7
          have h2 := text_len hr (i := (atE l i).a) (by unfold tagE at h1; omega)
          exact ⟨h2, by simp⟩
        · split
          · rename_i h9
            obtain ⟨h1, h2⟩ := (okE_leads (right_ok hr (i := i) (by omega))).2.2 h9
            unfold tagE at h1 h2
            have h3 := (okE_leads (right_ok hr (i := (atE l i).a) (by omega))).1 h1
            obtain ⟨h4, h5⟩ := (okE_leads (right_ok hr (i := (atE l i).b) (by omega))).2.1 h2
            unfold tagE at h3 h4 h5
            exact ⟨text_len hr (by omega), text_len hr (by omega)⟩
          · simp [cst0]
end Go.Proofs.YthenefjoidckkaaGreatDoor

/- Layer 11: arrays and elements are pushed. -/
namespace Go.Proofs.YthenefjoidckkaaGreatDoor
open Go.RowKit
set_option linter.unusedVariables false
set_option maxRecDepth 100000

theorem prn_len70 (t : Ty) : (prnP t).1.length ≤ 70 := by
  unfold prnP
  split
  · rename_i h
    have h1 := h.1
    unfold parP at h1
    split at h1
    · cases h1
    · rename_i h2
      have := sizeN_le70 (spelP t)
      simp only
      omega
  · simp
theorem join91 (s : List UInt8) : (⟨#[91]⟩ : ByteArray) ++ ⟨s.toArray⟩ = ⟨(91 :: s).toArray⟩ := by
  apply ByteArray.ext
  simp
theorem push_box (C : Wcx) (x : Wst) (W : World) (T : Ty) (hT : nmOk T) (k : WK C x W) (hs : x.st.length + x.ha.length ≤ 100000000) :
    Calls Tryz.prog 117 #[.pointer (some ⟨C.X, 0, none⟩), .slice (some ⟨W.heap.size, 0, none⟩) 1 1] (W.alloc (.cells #[.int .i64 T.kind, .string ⟨T.name.toArray⟩] 52)) fun e w' => Dp C W (pushD [T] x) e w' := by
  have f1 : Below W.heap.size W (W.alloc (.cells #[.int .i64 T.kind, .string ⟨T.name.toArray⟩] 52)) := bA (Below.refl _ _) _
  exact (w11push_any C x _ (k.below f1) (some ⟨W.heap.size, 0, none⟩) 1 1 [T] (ls_one (cs := tyc) (sz := 2) W _ _ T rfl) (fun e => by cases e) (fun t ht => by rw [List.mem_singleton.1 ht]; exact hT) (by omega)).mono fun e w' h => h.pre (KeepsW.below f1)
set_option maxHeartbeats 800000 in
theorem w11pushArray_any (C : Wcx) (x : Wst) (W : World) (k : WK C x W) (hC : Cok C) (hs : x.st.length + x.ha.length ≤ 100000000) :
    Calls Tryz.prog 106 #[.pointer (some ⟨C.X, 0, none⟩)] W fun e w' => Dp C W (pushArrayD x) e w' := by
  have hn := k.ok.to_
  have HPr := hide (yPrint_any W x.to_.kind ⟨x.to_.name.toArray⟩ x.to_.name ⟨rfl⟩ hn)
  rw [show (⟨x.to_.kind, x.to_.name⟩ : Ty) = x.to_ from rfl] at HPr
  obtain ⟨_, _, _, _, c0, c1⟩ := k.cel
  have hl := prn_len70 x.to_
  have HD : Hid (pushArrayD x = if (parP (91 :: (prnP x.to_).1)).2 = 0 then pushD [(parP (91 :: (prnP x.to_).1)).1] x else none) := rfl
  generalize prnP x.to_ = Pr at *
  obtain ⟨s, er⟩ := Pr
  simp only at hl HD
  have add : ∀ W, (Op.stringOp .add ⟨#[91]⟩ ⟨s.toArray⟩).run Tryz.prog W = .ok (.string ⟨(91 :: s).toArray⟩) W := fun W => by
    rw [run_string_add_sum (P := Tryz.prog) W _ _ (by show 1 + s.length ≤ _; omega), join91]
  have HPa : Hid (∀ W', Calls Tryz.prog 60 #[.string ⟨(91 :: s).toArray⟩] W' fun e w' => e = .returned (.tuple #[tyV (parP (91 :: s)).1, .int .i64 (parP (91 :: s)).2]) ∧ Below W'.heap.size W' w') := fun W' => yParse_any W' _ (91 :: s) ⟨rfl⟩ (by simp only [List.length_cons]; omega)
  have hpl := par_len (91 :: s)
  generalize parP (91 :: s) = Pa at *
  generalize (91 :: s).toArray = S1 at *
  obtain ⟨T, ep⟩ := Pa
  unfold tyV at HPa
  simp only at hpl HD HPa HPr
  have HPu : Hid (∀ W', Below W.heap.size W W' → Calls Tryz.prog 117 #[.pointer (some ⟨C.X, 0, none⟩), .slice (some ⟨W'.heap.size, 0, none⟩) 1 1] (W'.alloc (.cells #[.int .i64 T.kind, .string ⟨T.name.toArray⟩] 52)) fun e w' => Dp C W (pushD [T] x) e w') := fun W' f => (push_box C x W' T (by unfold nmOk; omega) (k.below f) hs).mono fun e w' h => h.pre (KeepsW.below f)
  have HK := hide k
  clear k hn hl hpl
  go_enter Tryz.func106, Tryz.ntmps106
  go_wp2_with fail
  refine (unhide HPr).mono ?_
  rintro e w1 ⟨rfl, f1⟩
  have HPa1 := hide (unhide HPa w1)
  have F1 := hide f1
  clear f1 HPr HPa
  go_wp2_with fail
  refine (unhide HPa1).mono ?_
  rintro e w2 ⟨rfl, f2⟩
  have F2 := hide (bA ((unhide F1).trans (f2.mono (unhide F1).size)) (.cells #[.int .i64 T.kind, .string ⟨T.name.toArray⟩] 52))
  clear f2 F1 HPa1
  by_cases h0 : ep = 0
  · subst h0
    rw [if_pos rfl] at HD
    have HPu2 := hide (unhide HPu _ (unhide F2))
    clear HPu
    have hz : (w2.alloc (.cells #[.int .i64 T.kind, .string ⟨T.name.toArray⟩] 52)).heap.size = w2.heap.size + 1 := by simp
    rw [hz] at HPu2
    clear hz
    go_wp2_with fail
    refine (unhide HPu2).mono ?_
    intro e w3 h3
    obtain ⟨b', rfl⟩ := h3.ret
    have H3 := hide h3
    clear h3 HPu2
    go_wp2
    go_ret
    rw [unhide HD]
    exact unhide H3
  · have b0 : (ep == 0) = false := by simpa using h0
    rw [if_neg h0] at HD
    go_wp2
    go_ret
    rw [unhide HD]
    exact ⟨rfl, ⟨_, (unhide HK).below (unhide F2)⟩, KeepsW.below (unhide F2)⟩
set_option maxHeartbeats 2000000 in
theorem w11pushElement_any (C : Wcx) (x : Wst) (W : World) (k : WK C x W) (hC : Cok C) (h0 : x.ha ≠ []) (hs : x.st.length + x.ha.length ≤ 100000000) :
    Calls Tryz.prog 86 #[.pointer (some ⟨C.X, 0, none⟩)] W fun e w' => Dp C W (pushElementD x) e w' := by
  obtain ⟨n, hn1⟩ : ∃ n, x.ha.length = n + 1 := ⟨x.ha.length - 1, by have := List.length_pos_iff.2 h0; omega⟩
  obtain ⟨T, hT, hT0, _, hTm⟩ := last_of hn1
  have e1 : pushElementD x = pushD [elemOf T] x := by unfold pushElementD; rw [hT]
  rw [e1]
  have hel := elem_len70 T
  have HN := hide (fun W' (f : Below W.heap.size W W') => (w11pushNull_any C x W' (k.below f) hC hs).mono fun e w' h => h.pre (KeepsW.below (C := C) f))
  have HPe : Hid (∀ W', Calls Tryz.prog 114 #[tyV T] W' fun e w' => e = .returned (.tuple #[tyV (elemP T).1, .int .i64 (elemP T).2]) ∧ Below W'.heap.size W' w') := fun W' => yElem_any W' T.kind _ T.name ⟨rfl⟩ (k.ok.ha T hTm)
  have HPu := hide (fun W' (f : Below W.heap.size W W') => (push_box C x W' (elemP T).1 (by unfold nmOk; omega) (k.below f) hs).mono fun e w' h => h.pre (KeepsW.below (C := C) f))
  have HEl : Hid (elemOf T = if (elemP T).2 = 0 then (elemP T).1 else tyN) := rfl
  obtain ⟨ok, l, s, ⟨ha, hn, hc⟩, a, k⟩ := k
  have e3 := (WK.len k).2.2.1
  simp only at e3
  obtain ⟨b, o, hta, q0, q1, hlt⟩ := k.handAt hT0
  simp only at hta hlt
  subst hta
  obtain rfl : hn = n + 1 := by omega
  obtain ⟨_, _, _, _, _, c11, _⟩ := k.cells
  simp only at c11
  generalize elemP T = E at *
  obtain ⟨⟨ek, es⟩, ee⟩ := E
  unfold tyV at HPe
  simp only at HPe HPu HEl hel
  have HA : Hid (∀ W', Below W.heap.size W W' → Calls Tryz.prog 114 #[.agg #[.int .i64 T.kind, .string ⟨T.name.toArray⟩]] W' fun e w' => e = .returned (.tuple #[.agg #[.int .i64 ek, .string ⟨es.toArray⟩], .int .i64 ee]) ∧ Below W.heap.size W w') := fun W' f => (unhide HPe W').mono fun e w' h => ⟨h.1, f.trans (h.2.mono f.size)⟩
  have HB : Hid (∀ W', Below W.heap.size W W' → W'.heap[W.heap.size]? = some (.cells #[.int .i64 0, .string ⟨#[]⟩] 52 (0, 0)) → Calls Tryz.prog 114 #[.agg #[.int .i64 T.kind, .string ⟨T.name.toArray⟩]] W' fun e w' => e = .returned (.tuple #[.agg #[.int .i64 ek, .string ⟨es.toArray⟩], .int .i64 ee]) ∧ Below W.heap.size W w' ∧ w'.heap[W.heap.size]? = some (.cells #[.int .i64 0, .string ⟨#[]⟩] 52 (0, 0))) := fun W' f hb => (unhide HPe W').mono fun e w' h => ⟨h.1, f.trans (h.2.mono f.size), (h.2.block _ (lt_of_heap hb)).trans hb⟩
  have hlt1 : (n : Int) < ((n + 1 : Nat) : Int) := by omega
  have e4 : ((n : Int) + 1 - 1) = n := by omega
  have hnb : n ≤ 100000000 := by omega
  have hwr : IntKind.i64.wrap (n : Int) = n := by rw [IntKind.wrap_i64]; omega
  have hn0 : (0 : Int) ≤ (n : Int) := by omega
  have hn2 : (n : Int) < (n : Int) + 1 := by omega
  have hn3 : (n : Int).toNat = n := by omega
  have al : ∀ {p : Addr} {v : Value} (Z : Obj), W.cell? p = some v → (W.alloc Z).cell? p = some v := fun {p v} Z h => ((bA (Below.refl _ _) Z : Below W.heap.size W _).cell (World.block_lt_of_cell? W _ h)).trans h
  have q0' := fun Z => al Z q0
  have q1' := fun Z => al Z q1
  have c11' := fun Z => al Z c11
  have nb : ¬ b = W.heap.size := by have := World.block_lt_of_cell? W _ q0; simp only at this; omega
  have nX : ¬ C.X = W.heap.size := by have := World.block_lt_of_cell? W _ c11; simp only at this; omega
  clear k e1 hT hT0 h0 hn1 e3 hTm ok hs HPe hel
  clear al
  go_enter Tryz.func86, Tryz.ntmps86
  go_wp2_with fail
  go_cut [3, 4] from 5 (fun v3 v4 wr => ∃ r, v3 = .pointer (some ⟨r, 0, none⟩) ∧ v4 = .int .i64 ee ∧ Below W.heap.size W wr ∧ wr.heap[r]? = some (.cells #[.int .i64 ek, .string ⟨es.toArray⟩] 52 (0, 0)))
  case first =>
    go_region_with
      (first
      | (go_at_call 114; refine Calls.mono (unhide HB _ (by repeat (first | exact Below.refl _ _ | refine Below.drew ?_ | refine bA ?_ _)) (by exact heap_alloc_last _ _)) ?_; rintro e w2 ⟨rfl, f2, b2⟩; have z0 : w2.cell? ⟨W.heap.size, 0, none⟩ = some (.int .i64 0) := bx_cell b2 0 _ rfl; have z1 : w2.cell? ⟨W.heap.size, 1, none⟩ = some (.string ⟨#[]⟩) := bx_cell b2 1 _ rfl; have z2 : ∀ q, w2.frozen? ⟨W.heap.size, q, none⟩ = false := fun q => bx_thaw b2 q; have HB2 := hide b2; have F2 := hide f2; clear b2 f2)
      | (go_at_call 114; refine Calls.mono (unhide HA _ (by repeat (first | exact Below.refl _ _ | refine Below.drew ?_ | refine bA ?_ _))) ?_; rintro e w2 ⟨rfl, f2⟩; have F2 := hide f2; clear f2))
    all_goals
      go_wp2
      go_meet
      case rel =>
        first
        | exact ⟨w2.heap.size, rfl, rfl, bA (unhide F2) _, heap_alloc_last _ _⟩
        | exact ⟨W.heap.size, rfl, rfl, ty_bel _ _ (unhide F2) (Nat.le_refl _), ty_set _ _ (unhide HB2)⟩
  case rest =>
    obtain ⟨r, rfl, rfl, fc, bc⟩ := hcut
    have F := hide fc
    have d0 := bx_cell bc 0 _ rfl
    have d1 := bx_cell bc 1 _ rfl
    have HN1 := hide (unhide HN wc fc)
    have HP1 := hide (unhide HPu wc fc)
    clear fc bc HN HPu HA HB
    by_cases h0 : ee = 0
    · subst h0
      rw [if_pos rfl] at HEl
      go_wp2_with fail
      refine (unhide HP1).mono ?_
      intro e w3 h3
      obtain ⟨b', rfl⟩ := h3.ret
      have H3 := hide h3
      clear h3 HP1
      go_wp2
      go_ret
      rw [unhide HEl]
      exact unhide H3
    · have b0 : (ee == 0) = false := by simpa using h0
      have b1 : (ee != 0) = true := by simpa using h0
      rw [if_neg h0] at HEl
      go_wp2_with fail
      refine (unhide HN1).mono ?_
      intro e w3 h3
      obtain ⟨b', rfl⟩ := h3.ret
      have H3 := hide h3
      clear h3 HN1
      go_wp2
      go_ret
      rw [unhide HEl]
      exact unhide H3
end Go.Proofs.YthenefjoidckkaaGreatDoor
