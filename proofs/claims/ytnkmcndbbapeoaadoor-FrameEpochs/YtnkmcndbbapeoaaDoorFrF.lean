/- The contract of the document's own First. -/
import Derived.Test.YtnkmcndbbapeoaaDoorFrW
import Derived.Laws.ResultCell
namespace Go.Proofs.YtnkmcndbbapeoaaDoor
open Go.RowKit
set_option linter.unusedVariables false

def rec0 : Rec := ⟨0, []⟩
theorem results_cell_two {fn : Func} {p u v : Tmp} {ty : TypeId} (h : fn.results = #[.cell p ty, .tmp u, .tmp v]) (tmps : Array Value) (P : Program) (w : World) :
    (results fn tmps).run P w =
      ((asAddr (tmps.getD p undef)).run P w).andThen fun a w₁ => ((loadVar ty a).run P w₁).andThen fun x w₂ => .ok (.tuple #[x, tmps.getD u undef, tmps.getD v undef]) w₂ := by
  simp only [results, h]
  simp [Sem.run_bind, Result.andThen]
theorem rec_results {fn : Func} (h : fn.results = #[.cell 2 24, .tmp 3, .tmp 4]) (w : World) (A : Nat) (c0 c1 : Value) (h0 : w.cell? ⟨A, 0, none⟩ = some c0) (h1 : w.cell? ⟨A, 1, none⟩ = some c1) (o0 : c0.oneCell' = true) (o1 : c1.oneCell' = true) (tmps : Array Value) (hp : tmps.getD 2 undef = .pointer (some ⟨A, 0, none⟩)) :
    (results fn tmps).run Tryd.prog w = .ok (.tuple #[.agg #[c0, c1], tmps.getD 3 undef, tmps.getD 4 undef]) w := by
  rw [results_cell_two h, hp]
  go_simp

set_option maxHeartbeats 800000 in
theorem zFirst_short (w : World) (a : Option Addr) (n cap : Nat) (h8 : n < 8) :
    Calls Tryd.prog 18 #[.slice a n cap] w fun e w' => e = .returned (.tuple #[recV rec0, .int .i64 0, .int .i64 7]) ∧ Below w.heap.size w w' := by
  have g1 : decide ((n : Int) < 8) = true := by simp; omega
  have hl := heap_alloc_last w (.cells #[.int .i64 0, .string ⟨#[]⟩] 24)
  have fb : Below w.heap.size w (w.alloc (.cells #[.int .i64 0, .string ⟨#[]⟩] 24)) := (Below.refl _ _).alloc (Nat.le_refl _) _
  have HL := hide hl
  have FB := hide fb
  clear hl fb
  go_enter Tryd.func18, Tryd.ntmps18
  go_wp2
  refine bodyPost_ret (rec_results Tryd.results18 _ w.heap.size (.int .i64 0) (.string ⟨#[]⟩) (by rw [cell_of_row _ _ _ _ _ _ (unhide HL)]; rfl) (by rw [cell_of_row _ _ _ _ _ _ (unhide HL)]; rfl) rfl rfl _ rfl) rfl ⟨rfl, unhide FB⟩

theorem rec_set {W : World} {A : Nat} {a0 a1 : Value} (c0 c1 : Value) (h : W.heap[A]? = some (.cells #[a0, a1] 24 (0, 0))) :
    ((W.setCell ⟨A, 0, none⟩ c0).setCell ⟨A, 1, none⟩ c1).cell? ⟨A, 0, none⟩ = some c0 ∧ ((W.setCell ⟨A, 0, none⟩ c0).setCell ⟨A, 1, none⟩ c1).cell? ⟨A, 1, none⟩ = some c1 := by
  have h1 := heap_setCell_same W A 0 _ _ c0 h
  have h2 := heap_setCell_same _ A 1 _ _ c1 h1
  exact ⟨by rw [cell_of_row _ _ _ _ _ _ h2]; rfl, by rw [cell_of_row _ _ _ _ _ _ h2]; rfl⟩
theorem rec_below {B A : Nat} {w W : World} (c0 c1 : Value) (h : Below B w W) (hA : B ≤ A) : Below B w ((W.setCell ⟨A, 0, none⟩ c0).setCell ⟨A, 1, none⟩ c1) := (h.setCell (p := ⟨A, 0, none⟩) hA _).setCell (p := ⟨A, 1, none⟩) hA _
theorem bytes_drop {W : World} {b o : Nat} {l : List UInt8} (h : BytesAt W (some ⟨b, o, none⟩) l) (k : Nat) : BytesAt W (some ⟨b, o + k, none⟩) (l.drop k) :=
  ⟨(fun e => by cases e), fun ad e i u hu => by
    injection e with e
    subst e
    have hu' : (bv l)[k + i]? = some u := by
      simp only [bv, List.map_drop, List.getElem?_drop] at hu ⊢
      exact hu
    have := h.2 _ rfl (k + i) u hu'
    rw [Addr.add_mid] at this ⊢
    rw [Nat.add_assoc]
    exact this⟩
theorem conv_piece (W : World) (b o c : Nat) (l : List UInt8) (k m : Nat) (hm : k + m ≤ l.length) (h : BytesAt W (some ⟨b, o, none⟩) l) :
    (convert 25 9 (.slice (some ⟨b, o + k, none⟩) m c)).run Tryd.prog W = .ok (.string ⟨((l.drop k).take m).toArray⟩) W := by
  have hl : ((l.drop k).take m).length = m := by rw [List.length_take, List.length_drop]; omega
  have := conv_bytes W (some ⟨b, o + k, none⟩) ((l.drop k).take m) c (bytes_take (bytes_drop h k) m)
  rw [hl] at this
  exact this
def firstQ (l : List UInt8) : Rec := if firstE l = 0 then firstR l else rec0
def firstN (l : List UInt8) : Nat := if firstE l = 0 then num l + 12 else 0

set_option maxHeartbeats 1600000 in
theorem zFirst_at (w : World) (b o n cap : Nat) (l : List UInt8) (hn : l.length = n) (h8 : 8 ≤ n) (hc : n ≤ cap) (hcap : cap ≤ 9223372036854775807) (hs : n ≤ 1000000) (h : BytesAt w (some ⟨b, o, none⟩) l) :
    Calls Tryd.prog 18 #[.slice (some ⟨b, o, none⟩) n cap] w fun e w' => e = .returned (.tuple #[recV (firstQ l), .int .i64 (firstN l : Int), .int .i64 (firstE l)]) ∧ Below w.heap.size w w' := by
  have g1 : decide ((n : Int) < 8) = false := by simp; omega
  have hl := heap_alloc_last w (.cells #[.int .i64 0, .string ⟨#[]⟩] 24)
  have fb : Below w.heap.size w (w.alloc (.cells #[.int .i64 0, .string ⟨#[]⟩] 24)) := (Below.refl _ _).alloc (Nat.le_refl _) _
  have H1 := hide (znumber_at (w.alloc (.cells #[.int .i64 0, .string ⟨#[]⟩] 24)) b o n cap l hn (by omega) (h.below fb))
  have hnl := num_le l
  have hnl' : num l < 4294967296 := hnl
  have HL := hide hl
  have FB := hide fb
  have hE : firstE l = if 4096 < num l then 30 else if n < num l + 12 then 7 else if rightL (l.take (num l + 12)) = true then 0 else 30 := by
    unfold firstE
    rw [hn, if_neg (by omega)]
  have HB := hide h
  clear hl fb hnl h
  by_cases h1 : 4096 < num l
  · have e1 : firstE l = 30 := by rw [hE, if_pos h1]
    have e2 : firstQ l = rec0 := by unfold firstQ; rw [if_neg (by rw [e1]; decide)]
    have e3 : firstN l = 0 := by unfold firstN; rw [if_neg (by rw [e1]; decide)]
    rw [e1, e2, e3]
    have g2 : decide ((4096 : Int) < (num l : Int)) = true := by simp; omega
    clear hE e1 e2 e3
    generalize num l = m at *
    go_enter Tryd.func18, Tryd.ntmps18
    go_wp2_with fail
    refine (unhide H1).mono ?_
    rintro e w1 ⟨rfl, j, rfl⟩
    go_wp2
    refine bodyPost_ret (rec_results Tryd.results18 _ w.heap.size (.int .i64 0) (.string ⟨#[]⟩) ?_ ?_ rfl rfl _ rfl) rfl ⟨rfl, ?_⟩
    · exact (rec_set _ _ (W := (w.alloc (.cells #[.int .i64 0, .string ⟨#[]⟩] 24)).drewN j) (unhide HL)).1
    · exact (rec_set _ _ (W := (w.alloc (.cells #[.int .i64 0, .string ⟨#[]⟩] 24)).drewN j) (unhide HL)).2
    · exact rec_below _ _ (below_drewN (unhide FB) j) (Nat.le_refl _)
  · have g2 : decide ((4096 : Int) < (num l : Int)) = false := by simp; omega
    by_cases h2 : n < num l + 12
    · have e1 : firstE l = 7 := by rw [hE, if_neg h1, if_pos h2]
      have e2 : firstQ l = rec0 := by unfold firstQ; rw [if_neg (by rw [e1]; decide)]
      have e3 : firstN l = 0 := by unfold firstN; rw [if_neg (by rw [e1]; decide)]
      rw [e1, e2, e3]
      have g3 : decide ((n : Int) < (num l : Int) + 12) = true := by simp; omega
      clear hE e1 e2 e3
      generalize num l = m at *
      go_enter Tryd.func18, Tryd.ntmps18
      go_wp2_with fail
      refine (unhide H1).mono ?_
      rintro e w1 ⟨rfl, j, rfl⟩
      go_wp2
      refine bodyPost_ret (rec_results Tryd.results18 _ w.heap.size (.int .i64 0) (.string ⟨#[]⟩) ?_ ?_ rfl rfl _ rfl) rfl ⟨rfl, ?_⟩
      · exact (rec_set _ _ (W := (w.alloc (.cells #[.int .i64 0, .string ⟨#[]⟩] 24)).drewN j) (unhide HL)).1
      · exact (rec_set _ _ (W := (w.alloc (.cells #[.int .i64 0, .string ⟨#[]⟩] 24)).drewN j) (unhide HL)).2
      · exact rec_below _ _ (below_drewN (unhide FB) j) (Nat.le_refl _)
    · have g3 : decide ((n : Int) < (num l : Int) + 12) = false := by simp; omega
      obtain ⟨M, hM⟩ : ∃ M, M = num l + 12 := ⟨_, rfl⟩
      have hM1 : (num l : Int) + 12 = (M : Int) := by omega
      have g4 : (M : Int) ≤ (cap : Int) := by omega
      have g5 : ¬ cap = 0 := by omega
      have H2 : Hid (∀ W, Below w.heap.size w W → Calls Tryd.prog 33 #[.slice (some ⟨b, o, none⟩) M cap] W fun e w' => e = .returned (.bool (rightL (l.take M))) ∧ Below W.heap.size W w') := fun W f =>
        qRight_any W _ M cap (l.take M) (by omega) hcap (by omega) ⟨by simp; omega, .inr ⟨b, o, rfl, bytes_take ((unhide HB).below f) _⟩⟩
      rw [← hM] at hE
      cases hr : rightL (l.take M) with
      | false =>
        have e1 : firstE l = 30 := by rw [hE, if_neg h1, if_neg (by omega), if_neg (by rw [hr]; decide)]
        have e2 : firstQ l = rec0 := by unfold firstQ; rw [if_neg (by rw [e1]; decide)]
        have e3 : firstN l = 0 := by unfold firstN; rw [if_neg (by rw [e1]; decide)]
        rw [e1, e2, e3]
        rw [hr] at H2
        clear hE e1 e2 e3 hM hr
        generalize num l = m at *
        go_enter Tryd.func18, Tryd.ntmps18
        go_wp2_with fail
        refine (unhide H1).mono ?_
        rintro e w1 ⟨rfl, j, rfl⟩
        have H2' := hide (unhide H2 _ (below_drewN (unhide FB) j))
        go_wp2_with fail
        refine (unhide H2').mono ?_
        rintro e w2 ⟨rfl, f2⟩
        have hW2 : w2.heap[w.heap.size]? = some (.cells #[.int .i64 0, .string ⟨#[]⟩] 24) := (f2.block _ (lt_of_heap (unhide HL))).trans (unhide HL)
        have F2 : Hid (Below w.heap.size w w2) := (below_drewN (unhide FB) j).trans (f2.mono (unhide FB).size)
        have hc0 : w2.cell? ⟨w.heap.size, 0, none⟩ = some (.int .i64 0) := by rw [cell_of_row _ _ _ _ _ _ hW2]; rfl
        have hc1 : w2.cell? ⟨w.heap.size, 1, none⟩ = some (.string ⟨#[]⟩) := by rw [cell_of_row _ _ _ _ _ _ hW2]; rfl
        have hf0 : w2.frozen? ⟨w.heap.size, 0, none⟩ = false := frozen_of_row _ _ _ _ _ hW2
        have hf1 : w2.frozen? ⟨w.heap.size, 1, none⟩ = false := frozen_of_row _ _ _ _ _ hW2
        have HW2 := hide hW2
        clear f2 hW2 H1 H2 H2'
        go_wp2
        refine bodyPost_ret (rec_results Tryd.results18 _ w.heap.size (.int .i64 0) (.string ⟨#[]⟩) ?_ ?_ rfl rfl _ rfl) rfl ⟨rfl, ?_⟩
        · exact (rec_set _ _ (unhide HW2)).1
        · exact (rec_set _ _ (unhide HW2)).2
        · exact rec_below _ _ (unhide F2) (Nat.le_refl _)
      | true =>
        have e1 : firstE l = 0 := by rw [hE, if_neg h1, if_neg (by omega), if_pos hr]
        have e2 : firstQ l = firstR l := by unfold firstQ; rw [if_pos e1]
        have e3 : firstN l = M := by unfold firstN; rw [if_pos e1, hM]
        rw [e1, e2, e3]
        rw [hr] at H2
        have hR : recV (firstR l) = .agg #[.int .i64 (num (l.drop 4) : Int), .string ⟨((l.drop 8).take (num l)).toArray⟩] := rfl
        rw [hR]
        obtain ⟨K, hK⟩ : ∃ K, K = 8 + num l := ⟨_, rfl⟩
        have hK1 : (8 : Int) + (num l : Int) = (K : Int) := by omega
        have hK2 : IntKind.i64.wrap (K : Int) = (K : Int) := by rw [IntKind.wrap_i64]; omega
        have hK3 : K - 8 = num l := by omega
        have hK4 : (8 : Int) ≤ (K : Int) := by omega
        have hK5 : (K : Int) ≤ (cap : Int) := by omega
        have hM2 : IntKind.i64.wrap (M : Int) = (M : Int) := by rw [IntKind.wrap_i64]; omega
        have g6 : ¬ cap = 4 := by omega
        have g7 : ¬ cap = 8 := by omega
        have g8 : (4 : Int) ≤ (n : Int) := by omega
        have g9 : (n : Int) ≤ (cap : Int) := by omega
        have HCV : Hid (∀ W, Below w.heap.size w W → (convert 25 9 (.slice (some ⟨b, o + 8, none⟩) (num l) (cap - 8))).run Tryd.prog W = .ok (.string ⟨((l.drop 8).take (num l)).toArray⟩) W) := fun W f => conv_piece W b o (cap - 8) l 8 (num l) (by omega) ((unhide HB).below f)
        have H3 : Hid (∀ W, Below w.heap.size w W → Calls Tryd.prog 32 #[.slice (some ⟨b, o + 4, none⟩) (n - 4) (cap - 4)] W fun e w' => e = .returned (.int .i64 (num (l.drop 4) : Int)) ∧ ∃ j, w' = W.drewN j) := fun W f =>
          znumber_at W b (o + 4) (n - 4) (cap - 4) (l.drop 4) (by rw [List.length_drop, hn]) (by omega) (bytes_drop ((unhide HB).below f) 4)
        clear hE e1 e2 e3 hM hr hR hK
        generalize hs : (⟨((l.drop 8).take (num l)).toArray⟩ : ByteArray) = st at *
        clear hs
        generalize num (l.drop 4) = ep at *
        generalize num l = m at *
        go_enter Tryd.func18, Tryd.ntmps18
        go_wp2_with fail
        refine (unhide H1).mono ?_
        rintro e w1 ⟨rfl, j, rfl⟩
        have H2' := hide (unhide H2 _ (below_drewN (unhide FB) j))
        go_wp2_with fail
        refine (unhide H2').mono ?_
        rintro e w2 ⟨rfl, f2⟩
        have hW2 : w2.heap[w.heap.size]? = some (.cells #[.int .i64 0, .string ⟨#[]⟩] 24) := (f2.block _ (lt_of_heap (unhide HL))).trans (unhide HL)
        have f2' : Below w.heap.size w w2 := (below_drewN (unhide FB) j).trans (f2.mono (unhide FB).size)
        have F2 := hide f2'
        have hc0 : w2.cell? ⟨w.heap.size, 0, none⟩ = some (.int .i64 0) := by rw [cell_of_row _ _ _ _ _ _ hW2]; rfl
        have hc1 : w2.cell? ⟨w.heap.size, 1, none⟩ = some (.string ⟨#[]⟩) := by rw [cell_of_row _ _ _ _ _ _ hW2]; rfl
        have hf0 : w2.frozen? ⟨w.heap.size, 0, none⟩ = false := frozen_of_row _ _ _ _ _ hW2
        have hf1 : w2.frozen? ⟨w.heap.size, 1, none⟩ = false := frozen_of_row _ _ _ _ _ hW2
        have v1 := unhide HCV w2 f2'
        have v2 := unhide HCV w2.drew f2'.drew
        have v3 := fun (k : Nat) => unhide HCV (w2.drewN k) (below_drewN f2' k)
        have v4 := fun (k : Nat) => unhide HCV (w2.drewN k).drew (below_drewN f2' k).drew
        have HW2 := hide hW2
        clear f2 f2' hW2 H1 H2 H2'
        go_wp2_with fail
        go_region_held (fun _ => True) (trivial)
          (first
            | (go_at_call 32; refine (unhide H3 _ (by repeat (first | exact unhide F2 | refine Below.drew ?_))).mono ?_; rintro e w3 ⟨rfl, j3, rfl⟩))
        all_goals clear v1 v2 v3 v4 hc0 hc1 hf0 hf1
        all_goals go_wp2
        all_goals refine bodyPost_ret (rec_results Tryd.results18 _ w.heap.size (.int .i64 (ep : Int)) (.string st) ?_ ?_ rfl rfl _ rfl) rfl ⟨rfl, ?_⟩
        all_goals first
          | exact (rec_set _ _ (W := w2.drewN (1 + j3)) (unhide HW2)).1
          | exact (rec_set _ _ (W := w2.drewN (1 + j3)) (unhide HW2)).2
          | exact rec_below _ _ (below_drewN (unhide F2) _) (Nat.le_refl _)

theorem zFirst_any (w : World) (a : Option Addr) (n cap : Nat) (l : List UInt8) (hc : n ≤ cap) (hcap : cap ≤ 9223372036854775807) (hs : n ≤ 1000000) (h : Bs w a n l) :
    Calls Tryd.prog 18 #[.slice a n cap] w fun e w' => e = .returned (.tuple #[recV (firstQ l), .int .i64 (firstN l : Int), .int .i64 (firstE l)]) ∧ Below w.heap.size w w' := by
  have hn := h.1
  by_cases h8 : n < 8
  · have e1 : firstE l = 7 := by unfold firstE; rw [if_pos (by omega)]
    have e2 : firstQ l = rec0 := by unfold firstQ; rw [if_neg (by rw [e1]; decide)]
    have e3 : firstN l = 0 := by unfold firstN; rw [if_neg (by rw [e1]; decide)]
    rw [e1, e2, e3]
    exact zFirst_short w a n cap h8
  · rcases h.2 with h0 | ⟨b, o, rfl, hb⟩
    · omega
    · exact zFirst_at w b o n cap l hn (by omega) hc hcap hs hb

end Go.Proofs.YtnkmcndbbapeoaaDoor
