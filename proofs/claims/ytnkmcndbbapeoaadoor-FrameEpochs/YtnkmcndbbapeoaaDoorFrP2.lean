/- The program's own Size and First. -/
import Derived.Test.YtnkmcndbbapeoaaDoorFrP1
namespace Go.Proofs.YtnkmcndbbapeoaaDoor
open Go.RowKit
set_option linter.unusedVariables false

set_option maxHeartbeats 800000 in
theorem fSize_any (w : World) (r : Rec) :
    Calls Tryd.prog 13 #[recV r] w fun e w' => e = .returned (.int .i64 ((writeL r).length : Int)) ∧ Below w.heap.size w w' := by
  have hb : Below w.heap.size w (w.alloc (.cells #[.int .i64 r.epoch, .string ⟨r.data.toArray⟩] 24)) := (Below.refl _ _).alloc (Nat.le_refl _) _
  have H1 := hide (refusal_any (w.alloc (.cells #[.int .i64 r.epoch, .string ⟨r.data.toArray⟩] 24)) r)
  have hl := heap_alloc_last w (.cells #[.int .i64 r.epoch, .string ⟨r.data.toArray⟩] 24)
  have HL := hide hl
  have FB := hide hb
  clear hl hb
  by_cases h0 : writeE r = 0
  · have hwl : ((writeL r).length : Int) = (r.data.length : Int) + 8 + 4 := by rw [writeL_ok h0, rec_len]; omega
    have hd := (writeE_ok.1 h0).2.2
    rw [h0] at H1
    rw [hwl]
    have e1 : (8 : Int) + (r.data.length : Int) = (r.data.length : Int) + 8 := by omega
    unfold recV at H1 ⊢
    have hsz : ((⟨r.data.toArray⟩ : ByteArray)).size = r.data.length := by simp [ByteArray.size]
    generalize (⟨r.data.toArray⟩ : ByteArray) = st at *
    generalize r.epoch = ep at *
    go_enter Tryd.func13, Tryd.ntmps13
    go_wp2_with fail
    refine (unhide H1).mono ?_
    rintro e w1 ⟨rfl, f1⟩
    have hW := (f1.block _ (lt_of_heap (unhide HL))).trans (unhide HL)
    have c1 : w1.cell? ⟨w.heap.size, 1, none⟩ = some (.string st) := by rw [cell_of_row _ _ _ _ _ _ hW]; rfl
    have F1 := hide ((unhide FB).trans (f1.mono (unhide FB).size))
    clear f1 hW H1
    go_wp2
    go_ret
    refine ⟨ret_int ?_, unhide F1⟩
    omega
  · have hwl : (writeL r).length = 0 := by unfold writeL; rw [if_neg h0]; rfl
    rw [hwl]
    unfold recV at H1 ⊢
    generalize (⟨r.data.toArray⟩ : ByteArray) = st at *
    generalize r.epoch = ep at *
    generalize writeE r = we at *
    go_enter Tryd.func13, Tryd.ntmps13
    go_wp2_with fail
    refine (unhide H1).mono ?_
    rintro e w1 ⟨rfl, f1⟩
    have F1 := hide ((unhide FB).trans (f1.mono (unhide FB).size))
    clear f1 H1
    go_wp2
    go_ret
    exact ⟨rfl, unhide F1⟩

set_option maxHeartbeats 800000 in
theorem fFirst_short (w : World) (a : Option Addr) (n cap : Nat) (h8 : n < 8) :
    Calls Tryd.prog 17 #[.slice a n cap] w fun e w' => e = .returned (.tuple #[recV rec0, .int .i64 0, .int .i64 7]) ∧ Below w.heap.size w w' := by
  have g1 : decide ((n : Int) < 8) = true := by simp; omega
  have hl := heap_alloc_last w (.cells #[.int .i64 0, .string ⟨#[]⟩] 24)
  have fb : Below w.heap.size w (w.alloc (.cells #[.int .i64 0, .string ⟨#[]⟩] 24)) := (Below.refl _ _).alloc (Nat.le_refl _) _
  have HL := hide hl
  have FB := hide fb
  clear hl fb
  go_enter Tryd.func17, Tryd.ntmps17
  go_wp2
  refine bodyPost_ret (rec_results Tryd.results17 _ w.heap.size (.int .i64 0) (.string ⟨#[]⟩) ?_ ?_ rfl rfl _ rfl) rfl ⟨rfl, ?_⟩
  · rw [cell_of_row _ _ _ _ _ _ (unhide HL)]; rfl
  · rw [cell_of_row _ _ _ _ _ _ (unhide HL)]; rfl
  · exact unhide FB

set_option maxHeartbeats 1600000 in
theorem fFirst_at (w : World) (b o n cap : Nat) (l : List UInt8) (hT : Tab w) (hn : l.length = n) (h8 : 8 ≤ n) (hc : n ≤ cap) (hcap : cap ≤ 9223372036854775807) (hs : n ≤ 1000000) (h : BytesAt w (some ⟨b, o, none⟩) l) :
    Calls Tryd.prog 17 #[.slice (some ⟨b, o, none⟩) n cap] w fun e w' => e = .returned (.tuple #[recV (firstQ l), .int .i64 (firstN l : Int), .int .i64 (firstE l)]) ∧ Below w.heap.size w w' := by
  have g1 : decide ((n : Int) < 8) = false := by simp; omega
  have g10 : (4 : Int) ≤ (cap : Int) := by omega
  have g11 : ¬ cap = 0 := by omega
  have hl := heap_alloc_last w (.cells #[.int .i64 0, .string ⟨#[]⟩] 24)
  have fb : Below w.heap.size w (w.alloc (.cells #[.int .i64 0, .string ⟨#[]⟩] 24)) := (Below.refl _ _).alloc (Nat.le_refl _) _
  have h1' := merged_at (w.alloc (.cells #[.int .i64 0, .string ⟨#[]⟩] 24)) b o cap (l.take 4) (by rw [List.length_take]; omega) (bytes_take (h.below fb) 4)
  rw [num_take l 4 (Nat.le_refl _)] at h1'
  have H1 := hide h1'
  have hnl := num_le l
  have hnl' : num l < 4294967296 := hnl
  have HL := hide hl
  have FB := hide fb
  have hE : firstE l = if 4096 < num l then 30 else if n < num l + 12 then 7 else if rightL (l.take (num l + 12)) = true then 0 else 30 := by
    unfold firstE
    rw [hn, if_neg (by omega)]
  have HB := hide h
  have HT := hide hT
  clear hl fb hnl h h1' hT
  by_cases h1 : 4096 < num l
  · have e1 : firstE l = 30 := by rw [hE, if_pos h1]
    have e2 : firstQ l = rec0 := by unfold firstQ; rw [if_neg (by rw [e1]; decide)]
    have e3 : firstN l = 0 := by unfold firstN; rw [if_neg (by rw [e1]; decide)]
    rw [e1, e2, e3]
    have g2 : decide ((4096 : Int) < (num l : Int)) = true := by simp; omega
    clear hE e1 e2 e3
    generalize num l = m at *
    go_enter Tryd.func17, Tryd.ntmps17
    go_wp2_with fail
    refine (unhide H1).mono ?_
    rintro e w1 ⟨rfl, rfl⟩
    go_wp2
    refine bodyPost_ret (rec_results Tryd.results17 _ w.heap.size (.int .i64 0) (.string ⟨#[]⟩) ?_ ?_ rfl rfl _ rfl) rfl ⟨rfl, ?_⟩
    · rw [cell_of_row _ _ _ _ _ _ (unhide HL)]; rfl
    · rw [cell_of_row _ _ _ _ _ _ (unhide HL)]; rfl
    · exact unhide FB
  · have g2 : decide ((4096 : Int) < (num l : Int)) = false := by simp; omega
    obtain ⟨K, hK⟩ : ∃ K, K = 8 + num l := ⟨_, rfl⟩
    have hK1 : (8 : Int) + (num l : Int) = (K : Int) := by omega
    obtain ⟨M, hM⟩ : ∃ M, M = num l + 12 := ⟨_, rfl⟩
    have hM1 : (K : Int) + 4 = (M : Int) := by omega
    by_cases h2 : n < num l + 12
    · have e1 : firstE l = 7 := by rw [hE, if_neg h1, if_pos h2]
      have e2 : firstQ l = rec0 := by unfold firstQ; rw [if_neg (by rw [e1]; decide)]
      have e3 : firstN l = 0 := by unfold firstN; rw [if_neg (by rw [e1]; decide)]
      rw [e1, e2, e3]
      have g3 : decide ((n : Int) < (M : Int)) = true := by simp; omega
      clear hE e1 e2 e3
      generalize num l = m at *
      clear hK hM
      go_enter Tryd.func17, Tryd.ntmps17
      go_wp2_with fail
      refine (unhide H1).mono ?_
      rintro e w1 ⟨rfl, rfl⟩
      go_wp2
      refine bodyPost_ret (rec_results Tryd.results17 _ w.heap.size (.int .i64 0) (.string ⟨#[]⟩) ?_ ?_ rfl rfl _ rfl) rfl ⟨rfl, ?_⟩
      · rw [cell_of_row _ _ _ _ _ _ (unhide HL)]; rfl
      · rw [cell_of_row _ _ _ _ _ _ (unhide HL)]; rfl
      · exact unhide FB
    · have g3 : decide ((n : Int) < (M : Int)) = false := by simp; omega
      have g4 : (M : Int) ≤ (cap : Int) := by omega
      have H2 : Hid (∀ W, Below w.heap.size w W → Calls Tryd.prog 31 #[.slice (some ⟨b, o, none⟩) M cap] W fun e w' => e = .returned (.bool (rightL (l.take M))) ∧ Below W.heap.size W w') := fun W f =>
        sRight_any W _ M cap (l.take M) ((unhide HT).below f) (by omega) hcap (by omega) ⟨by simp; omega, .inr ⟨b, o, rfl, bytes_take ((unhide HB).below f) _⟩⟩
      rw [← hM] at hE
      have H2' := hide (unhide H2 _ (unhide FB))
      cases hr : rightL (l.take M) with
      | false =>
        have e1 : firstE l = 30 := by rw [hE, if_neg h1, if_neg (by omega), if_neg (by rw [hr]; decide)]
        have e2 : firstQ l = rec0 := by unfold firstQ; rw [if_neg (by rw [e1]; decide)]
        have e3 : firstN l = 0 := by unfold firstN; rw [if_neg (by rw [e1]; decide)]
        rw [e1, e2, e3]
        rw [hr] at H2'
        clear hE e1 e2 e3 hM hr hK H2
        generalize num l = m at *
        go_enter Tryd.func17, Tryd.ntmps17
        go_wp2_with fail
        refine (unhide H1).mono ?_
        rintro e w1 ⟨rfl, rfl⟩
        go_wp2_with fail
        refine (unhide H2').mono ?_
        rintro e w2 ⟨rfl, f2⟩
        have hW2 : w2.heap[w.heap.size]? = some (.cells #[.int .i64 0, .string ⟨#[]⟩] 24) := (f2.block _ (lt_of_heap (unhide HL))).trans (unhide HL)
        have F2 : Hid (Below w.heap.size w w2) := (unhide FB).trans (f2.mono (unhide FB).size)
        have hc0 : w2.cell? ⟨w.heap.size, 0, none⟩ = some (.int .i64 0) := by rw [cell_of_row _ _ _ _ _ _ hW2]; rfl
        have hc1 : w2.cell? ⟨w.heap.size, 1, none⟩ = some (.string ⟨#[]⟩) := by rw [cell_of_row _ _ _ _ _ _ hW2]; rfl
        have hf0 : w2.frozen? ⟨w.heap.size, 0, none⟩ = false := frozen_of_row _ _ _ _ _ hW2
        have hf1 : w2.frozen? ⟨w.heap.size, 1, none⟩ = false := frozen_of_row _ _ _ _ _ hW2
        have HW2 := hide hW2
        clear f2 hW2 H1 H2'
        go_wp2
        refine bodyPost_ret (rec_results Tryd.results17 _ w.heap.size (.int .i64 0) (.string ⟨#[]⟩) ?_ ?_ rfl rfl _ rfl) rfl ⟨rfl, ?_⟩
        · exact (rec_set _ _ (unhide HW2)).1
        · exact (rec_set _ _ (unhide HW2)).2
        · exact rec_below _ _ (unhide F2) (Nat.le_refl _)
      | true =>
        have e1 : firstE l = 0 := by rw [hE, if_neg h1, if_neg (by omega), if_pos hr]
        have e2 : firstQ l = firstR l := by unfold firstQ; rw [if_pos e1]
        have e3 : firstN l = M := by unfold firstN; rw [if_pos e1, hM]
        rw [e1, e2, e3]
        rw [hr] at H2'
        have hR : recV (firstR l) = .agg #[.int .i64 (num (l.drop 4) : Int), .string ⟨((l.drop 8).take (num l)).toArray⟩] := rfl
        rw [hR]
        have hK2 : IntKind.i64.wrap (K : Int) = (K : Int) := by rw [IntKind.wrap_i64]; omega
        have hK3 : K - 8 = num l := by omega
        have hK4 : (8 : Int) ≤ (K : Int) := by omega
        have hK5 : (K : Int) ≤ (cap : Int) := by omega
        have hM2 : IntKind.i64.wrap (M : Int) = (M : Int) := by rw [IntKind.wrap_i64]; omega
        have g6 : ¬ cap = 4 := by omega
        have g7 : ¬ cap = 8 := by omega
        have g8 : (8 : Int) ≤ (cap : Int) := by omega
        have HCV : Hid (∀ W, Below w.heap.size w W → (convert 25 9 (.slice (some ⟨b, o + 8, none⟩) (num l) (cap - 8))).run Tryd.prog W = .ok (.string ⟨((l.drop 8).take (num l)).toArray⟩) W) := fun W f => conv_piece W b o (cap - 8) l 8 (num l) (by omega) ((unhide HB).below f)
        have H3 : Hid (∀ W, Below w.heap.size w W → Calls Tryd.prog 30 #[.slice (some ⟨b, o + 4, none⟩) 4 (cap - 4)] W fun e w' => e = .returned (.int .i64 (num (l.drop 4) : Int)) ∧ w' = W) := fun W f => by
          have := merged_at W b (o + 4) (cap - 4) ((l.drop 4).take 4) (by rw [List.length_take, List.length_drop]; omega) (bytes_take (bytes_drop ((unhide HB).below f) 4) 4)
          rw [num_take _ 4 (Nat.le_refl _)] at this
          exact this
        clear hE e1 e2 e3 hM hr hR hK H2
        generalize hs : (⟨((l.drop 8).take (num l)).toArray⟩ : ByteArray) = st at *
        clear hs
        generalize num (l.drop 4) = ep at *
        generalize num l = m at *
        go_enter Tryd.func17, Tryd.ntmps17
        go_wp2_with fail
        refine (unhide H1).mono ?_
        rintro e w1 ⟨rfl, rfl⟩
        go_wp2_with fail
        refine (unhide H2').mono ?_
        rintro e w2 ⟨rfl, f2⟩
        have hW2 : w2.heap[w.heap.size]? = some (.cells #[.int .i64 0, .string ⟨#[]⟩] 24) := (f2.block _ (lt_of_heap (unhide HL))).trans (unhide HL)
        have f2' : Below w.heap.size w w2 := (unhide FB).trans (f2.mono (unhide FB).size)
        have F2 := hide f2'
        have hc0 : w2.cell? ⟨w.heap.size, 0, none⟩ = some (.int .i64 0) := by rw [cell_of_row _ _ _ _ _ _ hW2]; rfl
        have hc1 : w2.cell? ⟨w.heap.size, 1, none⟩ = some (.string ⟨#[]⟩) := by rw [cell_of_row _ _ _ _ _ _ hW2]; rfl
        have hf0 : w2.frozen? ⟨w.heap.size, 0, none⟩ = false := frozen_of_row _ _ _ _ _ hW2
        have hf1 : w2.frozen? ⟨w.heap.size, 1, none⟩ = false := frozen_of_row _ _ _ _ _ hW2
        have v1 := unhide HCV w2 f2'
        have v2 := unhide HCV w2.drew f2'.drew
        have v3 := fun (k : Nat) => unhide HCV (w2.drewN k) (below_drewN f2' k)
        have v4 := fun (k : Nat) => unhide HCV (w2.drewN k).drew (below_drewN f2' k).drew
        have HW2 := hide hW2
        clear f2 f2' hW2 H1 H2'
        go_wp2_with fail
        go_region_held (fun _ => True) (trivial)
          (first
            | (go_at_call 30; refine (unhide H3 _ (by repeat (first | exact unhide F2 | refine Below.drew ?_))).mono ?_; rintro e w3 ⟨rfl, rfl⟩))
        all_goals clear v1 v2 v3 v4 hc0 hc1 hf0 hf1
        all_goals go_wp2
        all_goals refine bodyPost_ret (rec_results Tryd.results17 _ w.heap.size (.int .i64 (ep : Int)) (.string st) ?_ ?_ rfl rfl _ rfl) rfl ⟨rfl, ?_⟩
        all_goals first
          | exact (rec_set _ _ (unhide HW2)).1
          | exact (rec_set _ _ (unhide HW2)).2
          | exact (rec_set _ _ (W := w2.drew) (unhide HW2)).1
          | exact (rec_set _ _ (W := w2.drew) (unhide HW2)).2
          | exact rec_below _ _ (unhide F2) (Nat.le_refl _)
          | exact rec_below _ _ (unhide F2).drew (Nat.le_refl _)

theorem fFirst_any (w : World) (a : Option Addr) (n cap : Nat) (l : List UInt8) (hT : Tab w) (hc : n ≤ cap) (hcap : cap ≤ 9223372036854775807) (hs : n ≤ 1000000) (h : Bs w a n l) :
    Calls Tryd.prog 17 #[.slice a n cap] w fun e w' => e = .returned (.tuple #[recV (firstQ l), .int .i64 (firstN l : Int), .int .i64 (firstE l)]) ∧ Below w.heap.size w w' := by
  have hn := h.1
  by_cases h8 : n < 8
  · have e1 : firstE l = 7 := by unfold firstE; rw [if_pos (by omega)]
    have e2 : firstQ l = rec0 := by unfold firstQ; rw [if_neg (by rw [e1]; decide)]
    have e3 : firstN l = 0 := by unfold firstN; rw [if_neg (by rw [e1]; decide)]
    rw [e1, e2, e3]
    exact fFirst_short w a n cap h8
  · rcases h.2 with h0 | ⟨b, o, rfl, hb⟩
    · omega
    · exact fFirst_at w b o n cap l hT hn (by omega) hc hcap hs hb

end Go.Proofs.YtnkmcndbbapeoaaDoor
