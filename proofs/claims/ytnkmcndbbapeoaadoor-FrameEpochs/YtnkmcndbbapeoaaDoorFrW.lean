/- The contract of the document's own Write. -/
import Derived.Test.YtnkmcndbbapeoaaDoorFrR
import Derived.Lib.AppendStr
import Derived.Deep.RegionHeldLaw
import Derived.Deep.CutBlock
namespace Go.Proofs.YtnkmcndbbapeoaaDoor
open Go.RowKit
set_option linter.unusedVariables false

abbrev recV (r : Rec) : Value := .agg #[.int .i64 r.epoch, .string ⟨r.data.toArray⟩]

theorem zfour_own (wb W : World) (n : Nat) (hn : n < W32) (f : Below wb.heap.size wb W) :
    Calls Tryd.prog 28 #[.int .i64 (n : Int)] W fun e w' => ∃ q, e = .returned (.slice (some ⟨q, 0, none⟩) 4 4) ∧ w'.ownsRow wb.heap.size 5 1 (.slice (some ⟨q, 0, none⟩) 4 4) 4 (bv (be4 n)) ∧ Below wb.heap.size wb w' ∧ Below W.heap.size W w' := by
  refine (zfour_any W n hn).mono ?_
  rintro e w' ⟨rfl, rfl⟩
  have b : Below W.heap.size W (W.alloc (.cells (bv (be4 n)).toArray 5)) := (Below.refl _ _).alloc (Nat.le_refl _) _
  refine ⟨W.heap.size, rfl, ?_, f.trans (b.mono f.size), b⟩
  exact ⟨by simp [bv, be4], .inr ⟨W.heap.size, 4, _, rfl, f.size, heap_alloc_last W _, Nat.le_refl _, by unfold maxLen; omega, by simp [bv, be4], by simp [bv, be4]⟩⟩

set_option maxHeartbeats 600000 in
theorem zWrite_ok (w : World) (r : Rec) (h : recOk r) :
    Calls Tryd.prog 12 #[recV r] w fun e w' => ∃ v, e = .returned (.tuple #[v, .int .i64 0]) ∧ w'.ownsRow w.heap.size 5 1 v (r.data.length + 12) (bv (recL r)) ∧ Below w.heap.size w w' := by
  obtain ⟨ep, hep⟩ : ∃ ep : Nat, r.epoch = ep := ⟨r.epoch.toNat, by have := h.1; omega⟩
  have he := h.2.1
  have hl := h.2.2
  have hbody : bodyL r = be4 r.data.length ++ (be4 ep ++ r.data) := by unfold bodyL; rw [hep]; rfl
  have hrec : recL r = sealL (bodyL r) := rfl
  unfold recV
  rw [hrec, hbody, hep]
  rw [hep] at he
  generalize r.data = d at *
  clear hep hbody hrec h
  have hd : ((⟨d.toArray⟩ : ByteArray)).size = d.length := by simp [ByteArray.size]
  have g1 : decide ((ep : Int) < 0) = false := by simp
  have g2 : decide ((4294967295 : Int) < (ep : Int)) = false := by simp; omega
  have g3 : decide ((4096 : Int) < (d.length : Int)) = false := by simp; omega
  obtain ⟨i0, hi, hz0, hz1, hz2⟩ := info_parts infoB
  go_enter Tryd.func12, Tryd.ntmps12
  go_upto_region 5 with fail
  have hA := heap_alloc_last w (.cells #[.int .i64 (ep : Int), .string ⟨d.toArray⟩] 24)
  generalize hwb : w.alloc (.cells #[.int .i64 (ep : Int), .string ⟨d.toArray⟩] 24) = wb at *
  have hwbs : wb.heap.size = w.heap.size + 1 := by rw [← hwb]; simp
  have fb : Below w.heap.size w wb := by rw [← hwb]; exact (Below.refl _ _).alloc (Nat.le_refl _) _
  have cells : ∀ W, Below wb.heap.size wb W → W.cell? ⟨w.heap.size, 0, none⟩ = some (.int .i64 (ep : Int)) ∧ W.cell? ⟨w.heap.size, 1, none⟩ = some (.string ⟨d.toArray⟩) := fun W f => by
    have hW := (f.block w.heap.size (by omega)).trans hA
    exact ⟨by rw [cell_of_row _ _ _ _ _ _ hW]; rfl, by rw [cell_of_row _ _ _ _ _ _ hW]; rfl⟩
  have k1 := (cells wb (Below.refl _ _)).1
  have k2 := (cells wb (Below.refl _ _)).2
  have HC := hide cells
  have FB := hide fb
  have H1 := hide (fun (W : World) (f : Below wb.heap.size wb W) => zfour_own wb W d.length (by show _ < 4294967296; omega) f)
  have H2 := hide (fun (W : World) (f : Below wb.heap.size wb W) => zfour_own wb W ep (by show _ < 4294967296; omega) f)
  have one := bv_one (be4 ep)
  have mx : (4 : Nat) + 4 ≤ maxLen := by unfold maxLen; omega
  generalize hAe : w.heap.size = A at *
  have HAE := hide hAe
  clear hAe
  clear cells fb hA hwb
  go_region_held_law (fun W => W.cell? ⟨A, 0, none⟩ = some (.int .i64 (ep : Int)) ∧ W.cell? ⟨A, 1, none⟩ = some (.string ⟨d.toArray⟩)) (go_keep)
    (first
      | (have ox := o34; clear ox; refine step_append_lies _ rfl (.tmp 20) (.tmp 23) 25 rfl wb.heap.size 5 i0 (.int .u8 0) 1 1 Tryd.underlying25 hi hz0 hz1 hz2 rfl (by decide) _ 4 (bv (be4 d.length)) rfl (by exact own_below o34 (by repeat (first | exact Below.refl _ _ | refine Below.drew ?_))) ⟨q4, 0, none⟩ 4 4 (bv (be4 ep)) rfl rfl (by exact o4.cells (g := q4) rfl) one (by omega) mx (by omega) (by exact f4.size) _ rfl ?_; intro g cap w5 o5 g5 _ _; have k51 := (unhide HC w5 (show Below wb.heap.size wb w5 from Below.grown (by repeat (first | exact f4 | refine Below.drew ?_)) g5 (by exact f4.size) (fun x hx => (o3.lt x hx).1))).1; have k52 := (unhide HC w5 (show Below wb.heap.size wb w5 from Below.grown (by repeat (first | exact f4 | refine Below.drew ?_)) g5 (by exact f4.size) (fun x hx => (o3.lt x hx).1))).2)
      | (have fx := f3; clear fx; go_at_call 28; refine (unhide H2 _ (by repeat (first | exact f3 | refine Below.drew ?_))).mono ?_; rintro e w4 ⟨q4, rfl, o4, f4, b4⟩; have o34 := own_below o3 (show Below w3.heap.size w3 w4 by first | exact b4 | exact (Below.drew (Below.refl _ _)).trans b4 | exact (Below.drew (Below.drew (Below.refl _ _))).trans b4); have k41 := (unhide HC w4 f4).1; have k42 := (unhide HC w4 f4).2)
      | (go_at_call 28; refine (unhide H1 _ (by repeat (first | exact Below.refl _ _ | refine Below.drew ?_))).mono ?_; rintro e w3 ⟨q3, rfl, o3, f3, b3⟩; have k31 := (unhide HC w3 f3).1; have k32 := (unhide HC w3 f3).2))
  have f5 : Below wb.heap.size wb w5 := Below.grown (by repeat (first | exact f4 | refine Below.drew ?_)) g5 (by exact f4.size) (fun x hx => (o3.lt x hx).1)
  have hlt5 := o5.lt
  have F5 := hide f5
  clear o3 o4 o34 b3 b4 f3 f4 g5 f5 H1 H2 k31 k32 k41 k42 one mx
  go_simp
  go_wp2_with (at_builtin; refine Lib.wpList_append_own_string _ rfl (.tmp 25) (.tmp 27) 25 9 rfl wb.heap.size 5 i0 Tryd.underlying25 Tryd.underlying9 hi hz0 hz1 hz2 _ 8 (bv (be4 d.length) ++ bv (be4 ep)) rfl o5 ⟨d.toArray⟩ rfl ?c3 ?c4 ?c5 ?_)
  case c3 => rw [hd]; unfold maxLen; omega
  case c4 => rw [hd]; omega
  case c5 => exact (unhide F5).size
  intro v6 w6 o6 g6 _
  have f6 : Below wb.heap.size wb w6 := (unhide F5).grown g6 (unhide F5).size (fun x hx => by
    have := (hlt5 x hx).1
    exact this)
  have eb : bv (be4 d.length) ++ (bv (be4 ep) ++ Lib.strCells ⟨d.toArray⟩) = bv (be4 d.length ++ (be4 ep ++ d)) := by
    have : Lib.strCells ⟨d.toArray⟩ = bv d := by simp [Lib.strCells, bv]
    rw [this, bv_append, bv_append]
  rw [eb] at o6
  obtain ⟨g7, c7, rfl, _, _⟩ := o6.form (by omega)
  have hb : Bs w6 (some ⟨g7, 0, none⟩) (8 + d.length) (be4 d.length ++ (be4 ep ++ d)) := bs_of_own (by simp [be4_len]; omega) o6
  have H7 := hide (qSeal_some w6 ⟨g7, 0, none⟩ (8 + d.length) c7 _ (by omega) hb)
  have f6w : Below w.heap.size w w6 := by rw [unhide HAE]; exact (unhide FB).trans (f6.mono (by rw [hwbs]; omega))
  have F6 := hide f6w
  clear o6 g6 f6 eb hb f6w hlt5 o5 F5 FB
  go_wp2_with fail
  refine (unhide H7).mono ?_
  rintro e w8 ⟨v8, rfl, o8, f8⟩
  have O8 := hide o8
  have F8 := hide ((unhide F6).trans (f8.mono (unhide F6).size))
  have S6 : Hid (w.heap.size ≤ w6.heap.size) := (unhide F6).size
  clear o8 f8 H7 F6
  go_wp2
  go_ret2
  refine ⟨v8, rfl, ?_, unhide F8⟩
  have o := unhide O8
  rw [show 8 + d.length + 4 = d.length + 12 by omega] at o
  exact ⟨o.1, o.2.elim .inl (fun ⟨g, cap, cur, hv, hg, r⟩ => .inr ⟨g, cap, cur, hv, Nat.le_trans (unhide S6) hg, r⟩)⟩

def writeE (r : Rec) : Int := if r.epoch < 0 ∨ 4294967295 < r.epoch then 2 else if 4096 < r.data.length then 3 else 0
def writeL (r : Rec) : List UInt8 := if writeE r = 0 then recL r else []
theorem writeE_ok {r : Rec} : writeE r = 0 ↔ recOk r := by
  unfold writeE recOk
  constructor
  · intro h
    split at h
    · exact absurd h (by decide)
    · split at h
      · exact absurd h (by decide)
      · omega
  · rintro ⟨h1, h2, h3⟩
    rw [if_neg (by omega), if_neg (by omega)]
set_option maxHeartbeats 800000 in
theorem zWrite_bad (w : World) (r : Rec) (h : ¬ writeE r = 0) :
    Calls Tryd.prog 12 #[recV r] w fun e w' => e = .returned (.tuple #[.slice none 0 0, .int .i64 (writeE r)]) ∧ Below w.heap.size w w' := by
  have fb : Below w.heap.size w (w.alloc (.cells #[.int .i64 r.epoch, .string ⟨r.data.toArray⟩] 24)) := (Below.refl _ _).alloc (Nat.le_refl _) _
  have FB := hide fb
  clear fb
  unfold recV
  by_cases h1 : r.epoch < 0
  · rw [show writeE r = 2 by unfold writeE; rw [if_pos (.inl h1)]]
    have g1 : decide (r.epoch < 0) = true := by simpa using h1
    go_enter Tryd.func12, Tryd.ntmps12
    go_wp2
    go_ret2
    exact ⟨rfl, unhide FB⟩
  · have g1 : decide (r.epoch < 0) = false := by simpa using h1
    by_cases h2 : 4294967295 < r.epoch
    · rw [show writeE r = 2 by unfold writeE; rw [if_pos (.inr h2)]]
      have g2 : decide (4294967295 < r.epoch) = true := by simpa using h2
      go_enter Tryd.func12, Tryd.ntmps12
      go_wp2
      go_ret2
      exact ⟨rfl, unhide FB⟩
    · have g2 : decide (4294967295 < r.epoch) = false := by simpa using h2
      have h3 : 4096 < r.data.length := by
        unfold writeE at h
        rw [if_neg (by omega)] at h
        split at h
        · assumption
        · exact absurd rfl h
      rw [show writeE r = 3 by unfold writeE; rw [if_neg (by omega), if_pos h3]]
      have g3 : decide ((4096 : Int) < (r.data.length : Int)) = true := by simp; omega
      go_enter Tryd.func12, Tryd.ntmps12
      go_wp2
      go_ret2
      exact ⟨rfl, unhide FB⟩
theorem zWrite_any (w : World) (r : Rec) :
    Calls Tryd.prog 12 #[recV r] w fun e w' => ∃ v, e = .returned (.tuple #[v, .int .i64 (writeE r)]) ∧ w'.ownsRow w.heap.size 5 1 v (writeL r).length (bv (writeL r)) ∧ Below w.heap.size w w' := by
  by_cases h : writeE r = 0
  · have hl : (writeL r).length = r.data.length + 12 := by unfold writeL; rw [if_pos h, rec_len]
    rw [hl]
    unfold writeL
    rw [if_pos h, h]
    exact zWrite_ok w r (writeE_ok.1 h)
  · refine (zWrite_bad w r h).mono ?_
    rintro e w' ⟨rfl, f⟩
    refine ⟨_, rfl, ?_, f⟩
    unfold writeL
    rw [if_neg h]
    exact World.ownsRow_nil _ _ _ _

end Go.Proofs.YtnkmcndbbapeoaaDoor
