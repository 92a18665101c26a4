/- The program's own Write. -/
import Derived.Test.YtnkmcndbbapeoaaDoorFrP2
namespace Go.Proofs.YtnkmcndbbapeoaaDoor
open Go.RowKit
set_option linter.unusedVariables false


/-- A string's bytes, in a place of their own. -/
theorem str_bytes (l : List UInt8) : ∃ (cc : World → Nat) (cw : World → World), (∀ W, (convert 9 25 (.string ⟨l.toArray⟩)).run Tryd.prog W = .ok (.slice (some ⟨W.heap.size, 0, none⟩) l.length (cc W)) (cw W)) ∧
    (∀ W, BytesAt (cw W) (some ⟨W.heap.size, 0, none⟩) l) ∧ (∀ W, Below W.heap.size W (cw W)) := by
  have hsz : ((⟨l.toArray⟩ : ByteArray)).size = l.length := by simp [ByteArray.size]
  refine ⟨fun W => grownCap W l.length 0 5, fun W => W.drew.alloc (.cells (bytesRow ⟨l.toArray⟩ (grownCap W l.length 0 5)) 5 ((bytesRow ⟨l.toArray⟩ (grownCap W l.length 0 5)).size, (bytesRow ⟨l.toArray⟩ (grownCap W l.length 0 5)).size + 1)), fun W => ?_, fun W => ?_, fun W => ?_⟩
  · have := run_bytes_of_string (P := Tryd.prog) W 9 25 5 ⟨l.toArray⟩ Tryd.underlying9 Tryd.underlying25 Tryd.underlying5
    rw [hsz] at this
    exact this
  · refine ⟨(fun e => by cases e), fun ad e j u hu => ?_⟩
    injection e with e
    subst e
    have hj := (List.getElem?_eq_some_iff.1 hu).1
    rw [bv_length] at hj
    rw [Addr.add_mid, Nat.zero_add]
    have h1 := World.cell?_alloc_mark W.drew (bytesRow ⟨l.toArray⟩ (grownCap W l.length 0 5)) 5 ((bytesRow ⟨l.toArray⟩ (grownCap W l.length 0 5)).size, (bytesRow ⟨l.toArray⟩ (grownCap W l.length 0 5)).size + 1) j
    refine h1.trans ?_
    rw [bytesRow_at _ _ j (by simpa using hj), ← hu]
    simp [bv, hj]
  · exact (Below.refl _ W).drew.alloc (Nat.le_refl _) _

theorem fsplit_at (W : World) (n : Nat) (hn : n < W32) :
    Calls Tryd.prog 26 #[.int .i64 (n : Int)] W fun e w' => ∃ q, e = .returned (.slice (some ⟨q, 0, none⟩) 4 4) ∧ BytesAt w' (some ⟨q, 0, none⟩) (be4 n) ∧ Below W.heap.size W w' := by
  refine (fsplit_any W n hn).mono ?_
  rintro e w' ⟨rfl, rfl⟩
  exact ⟨W.heap.size, rfl, bytes_of_block (heap_alloc_last W _), (Below.refl _ _).alloc (Nat.le_refl _) _⟩

theorem joined3 (w1 V : World) (N : Nat) (ad1 ad2 ad3 : Addr) (c1 c2 c3 n3 : Nat) (l1 l2 l3 : List UInt8) (hl1 : l1.length = 4) (hl2 : l2.length = 4) (hl3 : l3.length = n3) (hm : n3 ≤ 4096)
    (hN : V.heap[N]? = some (.cells #[.slice (some ad1) 4 c1, .slice (some ad2) 4 c2, .slice (some ad3) n3 c3] 25)) (h1 : BytesAt V (some ad1) l1) (h2 : BytesAt V (some ad2) l2) (h3 : BytesAt V (some ad3) l3) (hB : Below w1.heap.size w1 V) :
    Calls Tryd.prog 24 #[.slice (some ⟨N, 0, none⟩) 3 3] V fun e w' => ∃ g c, e = .returned (.slice (some ⟨g, 0, none⟩) (n3 + 8) c) ∧ w'.ownsRow w1.heap.size 5 1 (.slice (some ⟨g, 0, none⟩) (n3 + 8) c) (n3 + 8) (bv (l1 ++ (l2 ++ l3))) ∧ Below w1.heap.size w1 w' := by
  have hp : PartsS V N 0 [l1, l2, l3] := fun j l hj => by
    match j, hj with
    | 0, hj =>
      cases hj
      exact ⟨by omega, ad1, c1, by rw [cell_of_row _ _ _ _ _ _ hN, hl1]; rfl, h1⟩
    | 1, hj =>
      cases hj
      exact ⟨by omega, ad2, c2, by rw [cell_of_row _ _ _ _ _ _ hN, hl2]; rfl, h2⟩
    | 2, hj =>
      cases hj
      exact ⟨by omega, ad3, c3, by rw [cell_of_row _ _ _ _ _ _ hN, hl3]; rfl, h3⟩
  refine (joined_at V N 0 3 3 [l1, l2, l3] rfl (by omega) hp).mono ?_
  rintro e w' ⟨v, rfl, o, f⟩
  have hf : [l1, l2, l3].flatten = l1 ++ (l2 ++ l3) := by simp
  have hfl : [l1, l2, l3].flatten.length = n3 + 8 := by rw [hf]; simp; omega
  rw [hfl, hf] at o
  obtain ⟨g, c, rfl, _, _⟩ := o.form (by omega)
  exact ⟨g, c, rfl, own_base o hB.size, bT f hB⟩

set_option maxHeartbeats 1600000 in
theorem fWrite_ok (w : World) (r : Rec) (hT : Tab w) (h : recOk r) :
    Calls Tryd.prog 11 #[recV r] w fun e w' => ∃ v, e = .returned (.tuple #[v, .int .i64 0]) ∧ w'.ownsRow w.heap.size 5 1 v (r.data.length + 12) (bv (recL r)) ∧ Below w.heap.size w w' := by
  obtain ⟨ep, hep⟩ : ∃ ep : Nat, r.epoch = ep := ⟨r.epoch.toNat, by have := h.1; omega⟩
  have he := h.2.1
  have hl := h.2.2
  have hbody : bodyL r = be4 r.data.length ++ (be4 ep ++ r.data) := by unfold bodyL; rw [hep]; rfl
  have hrec : recL r = sealL (bodyL r) := rfl
  have H1 := hide (refusal_any (w.alloc (.cells #[.int .i64 r.epoch, .string ⟨r.data.toArray⟩] 24)) r)
  rw [writeE_ok.2 h] at H1
  unfold recV at H1 ⊢
  rw [hrec, hbody, hep]
  rw [hep] at he H1
  generalize r.data = d at *
  clear hep hbody hrec h
  have hd : ((⟨d.toArray⟩ : ByteArray)).size = d.length := by simp [ByteArray.size]
  have hA := heap_alloc_last w (.cells #[.int .i64 (ep : Int), .string ⟨d.toArray⟩] 24)
  have fb : Below w.heap.size w (w.alloc (.cells #[.int .i64 (ep : Int), .string ⟨d.toArray⟩] 24)) := (Below.refl _ _).alloc (Nat.le_refl _) _
  have HA := hide hA
  have FB := hide fb
  have HT := hide hT
  clear hA fb hT
  go_enter Tryd.func11, Tryd.ntmps11
  go_wp2_with fail
  refine (unhide H1).mono ?_
  rintro e w1 ⟨rfl, f1⟩
  have hA1 := (f1.block _ (lt_of_heap (unhide HA))).trans (unhide HA)
  have F1 := hide ((unhide FB).trans (f1.mono (unhide FB).size))
  have cells : ∀ W, Below w1.heap.size w1 W → W.cell? ⟨w.heap.size, 0, none⟩ = some (.int .i64 (ep : Int)) ∧ W.cell? ⟨w.heap.size, 1, none⟩ = some (.string ⟨d.toArray⟩) := fun W f => by
    have hW := (f.block w.heap.size (lt_of_heap hA1)).trans hA1
    exact ⟨by rw [cell_of_row _ _ _ _ _ _ hW]; rfl, by rw [cell_of_row _ _ _ _ _ _ hW]; rfl⟩
  have HC := hide cells
  have k1 := (cells w1 (Below.refl _ _)).1
  have k2 := (cells w1 (Below.refl _ _)).2
  clear cells f1 hA1 H1
  obtain ⟨cc, cw, kc, hcw, hcb⟩ := str_bytes d
  have HCW := hide hcw
  have HCB := hide hcb
  have S1 := hide (fun (W : World) => fsplit_at W d.length (by show _ < 4294967296; omega))
  have S2 := hide (fun (W : World) => fsplit_at W ep (by show _ < 4294967296; omega))
  clear hcw hcb
  go_upto_region 4 with fail
  go_region_held_law (fun W => W.cell? ⟨w.heap.size, 0, none⟩ = some (.int .i64 (ep : Int)) ∧ W.cell? ⟨w.heap.size, 1, none⟩ = some (.string ⟨d.toArray⟩)) (exact unhide HC _ (by repeat (first | exact f6 | exact Below.refl _ _ | refine Below.drew ?_ | refine bA ?_ _ | refine bT (unhide HCB _) ?_ | refine bT b4 ?_ | refine bT b3 ?_)))
    (first
      | (have ox := b4; clear ox; go_at_call 24; refine (joined3 w1 _ _ _ _ _ _ _ _ _ (be4 d.length) (be4 ep) d rfl rfl rfl hl (by exact heap_alloc_last _ _) (p3.below (by repeat (first | exact Below.refl _ _ | refine Below.drew ?_ | refine bA ?_ _ | refine bT (unhide HCB _) ?_ | refine bT b4 ?_ | refine bT b3 ?_))) (p4.below (by repeat (first | exact Below.refl _ _ | refine Below.drew ?_ | refine bA ?_ _ | refine bT (unhide HCB _) ?_ | refine bT b4 ?_ | refine bT b3 ?_))) (by first | exact (unhide HCW w4).below (by repeat (first | exact Below.refl _ _ | refine Below.drew ?_ | refine bA ?_ _ | refine bT (unhide HCB _) ?_ | refine bT b4 ?_ | refine bT b3 ?_)) | exact (unhide HCW w3).below (by repeat (first | exact Below.refl _ _ | refine Below.drew ?_ | refine bA ?_ _ | refine bT (unhide HCB _) ?_ | refine bT b4 ?_ | refine bT b3 ?_)) | exact (unhide HCW w1.drew).below (by repeat (first | exact Below.refl _ _ | refine Below.drew ?_ | refine bA ?_ _ | refine bT (unhide HCB _) ?_ | refine bT b4 ?_ | refine bT b3 ?_))) (by repeat (first | exact Below.refl _ _ | refine Below.drew ?_ | refine bA ?_ _ | refine bT (unhide HCB _) ?_ | refine bT b4 ?_ | refine bT b3 ?_))).mono ?_; rintro e w6 ⟨g6, c6, rfl, o6, f6⟩)
      | (have fx := b3; clear fx; go_at_call 26; refine (unhide S2 _).mono ?_; rintro e w4 ⟨q4, rfl, p4, b4⟩)
      | (go_at_call 26; refine (unhide S1 _).mono ?_; rintro e w3 ⟨q3, rfl, p3, b3⟩))
  all_goals
    have H7 := hide (sSeal_any w6 (some ⟨g6, 0, none⟩) (d.length + 8) c6 (be4 d.length ++ (be4 ep ++ d)) ((unhide HT).below (bT f6 (unhide F1))) (by omega) (fun e => by cases e) (bs_of_own (by simp [be4_len]; omega) o6))
    have F6 := hide (bT f6 (unhide F1))
    clear o6 f6 b3 b4 p3 p4 kc HCW HCB S1 S2 HC k1 k2
    go_simp
    go_wp2_with fail
    refine (unhide H7).mono ?_
    rintro e w8 ⟨v8, rfl, o8, f8⟩
    have O8 := hide (own_base o8 (unhide F6).size)
    have F8 := hide (bT f8 (unhide F6))
    clear o8 f8 H7 F6
    go_wp2
    go_ret2
    exact ⟨v8, rfl, unhide O8, unhide F8⟩

set_option maxHeartbeats 800000 in
theorem fWrite_bad (w : World) (r : Rec) (h : ¬ writeE r = 0) :
    Calls Tryd.prog 11 #[recV r] w fun e w' => e = .returned (.tuple #[.slice none 0 0, .int .i64 (writeE r)]) ∧ Below w.heap.size w w' := by
  have hb : Below w.heap.size w (w.alloc (.cells #[.int .i64 r.epoch, .string ⟨r.data.toArray⟩] 24)) := (Below.refl _ _).alloc (Nat.le_refl _) _
  have H1 := hide (refusal_any (w.alloc (.cells #[.int .i64 r.epoch, .string ⟨r.data.toArray⟩] 24)) r)
  have FB := hide hb
  clear hb
  unfold recV at H1 ⊢
  generalize (⟨r.data.toArray⟩ : ByteArray) = st at *
  generalize r.epoch = ep at *
  generalize writeE r = we at *
  go_enter Tryd.func11, Tryd.ntmps11
  go_wp2_with fail
  refine (unhide H1).mono ?_
  rintro e w1 ⟨rfl, f1⟩
  have F1 := hide (bT f1 (unhide FB))
  clear f1 H1
  go_wp2
  go_ret2
  exact ⟨rfl, unhide F1⟩

theorem fWrite_any (w : World) (r : Rec) (hT : Tab w) :
    Calls Tryd.prog 11 #[recV r] w fun e w' => ∃ v, e = .returned (.tuple #[v, .int .i64 (writeE r)]) ∧ w'.ownsRow w.heap.size 5 1 v (writeL r).length (bv (writeL r)) ∧ Below w.heap.size w w' := by
  by_cases h : writeE r = 0
  · have hl : (writeL r).length = r.data.length + 12 := by unfold writeL; rw [if_pos h, rec_len]
    rw [hl]
    unfold writeL
    rw [if_pos h, h]
    exact fWrite_ok w r hT (writeE_ok.1 h)
  · refine (fWrite_bad w r h).mono ?_
    rintro e w' ⟨rfl, f⟩
    refine ⟨_, rfl, ?_, f⟩
    unfold writeL
    rw [if_neg h]
    exact World.ownsRow_nil _ _ _ _

end Go.Proofs.YtnkmcndbbapeoaaDoor
