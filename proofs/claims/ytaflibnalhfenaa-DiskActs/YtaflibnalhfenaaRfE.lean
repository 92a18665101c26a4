/- The contracts of the document's own Fetch. -/
import Derived.Test.YtaflibnalhfenaaRfD
import Derived.Laws.IdiomStrings
namespace Go.Proofs.Ytaflibnalhfenaa
open Go.RowKit
set_option linter.unusedVariables false

theorem RIs.dcells {w : World} {B p : Nat} {v : Value} {vals : List Value} {D : Dk} (h : RIs w B p v vals (rof D)) :
    w.cell? ⟨p, 0, none⟩ = some v ∧ w.cell? ⟨p, 1, none⟩ = some (.int .i64 D.moves) ∧ w.cell? ⟨p, 2, none⟩ = some (.int .i64 D.trip) ∧ w.cell? ⟨p, 3, none⟩ = some (.bool D.dark) ∧ ∀ j, w.frozen? ⟨p, j, none⟩ = false := h.cells

set_option maxRecDepth 100000 in
set_option maxHeartbeats 400000 in
theorem rFetch_out (w : World) (B p : Nat) (v : Value) (vals : List Value) (D : Dk) (h : RIs w B p v vals (rof D)) (at_ : Int) (hat : ¬ (0 ≤ at_ ∧ at_ < D.secs.length)) (g gc : Nat) (hv : v = .slice (some ⟨g, 0, none⟩) D.secs.length gc) :
    Calls Try.prog 22 #[.pointer (some ⟨p, 0, none⟩), .int .i64 at_] w fun e w' => e = .returned (.tuple #[.slice none 0 0, .int .i64 2]) ∧ w' = w := by
  subst hv
  have c0 := h.cells.1
  clear h
  by_cases h0 : at_ < 0
  · have hd : decide (at_ < 0) = true := by simpa using h0
    go_enter Try.func22, Try.ntmps22
    go_wp2
    go_ret2
    exact ⟨rfl, rfl⟩
  · have hd : decide (at_ < 0) = false := by simpa using h0
    have hd2 : decide ((D.secs.length : Int) ≤ at_) = true := by simp; omega
    go_enter Try.func22, Try.ntmps22
    go_wp2
    go_ret2
    exact ⟨rfl, rfl⟩

set_option maxRecDepth 100000 in
set_option maxHeartbeats 400000 in
theorem rFetch_dark (w : World) (B p : Nat) (v : Value) (vals : List Value) (D : Dk) (h : RIs w B p v vals (rof D)) (at_ : Int) (hat : 0 ≤ at_ ∧ at_ < D.secs.length) (hdk : D.dark = true) (g gc : Nat) (hv : v = .slice (some ⟨g, 0, none⟩) D.secs.length gc) :
    Calls Try.prog 22 #[.pointer (some ⟨p, 0, none⟩), .int .i64 at_] w fun e w' => e = .returned (.tuple #[.slice none 0 0, .int .i64 10]) ∧ w' = w := by
  subst hv
  obtain ⟨c0, -, -, c3, -⟩ := h.dcells
  rw [hdk] at c3
  clear h
  have hd : decide (at_ < 0) = false := by simp; omega
  have hd2 : decide ((D.secs.length : Int) ≤ at_) = false := by simp; omega
  go_enter Try.func22, Try.ntmps22
  go_wp2
  go_ret2
  exact ⟨rfl, rfl⟩

theorem bytesRow_bv (x : List UInt8) (cap j : Nat) (u : Value) (hu : (bv x)[j]? = some u) : (bytesRow ⟨x.toArray⟩ cap)[j]? = some u := by
  have hj : j < x.length := by have := (List.getElem?_eq_some_iff.1 hu).1; rwa [bv_length] at this
  rw [bytesRow_at ⟨x.toArray⟩ cap j (by simpa using hj)]
  simp only [bv, List.getElem?_map, List.getElem?_eq_getElem hj, Option.map_some] at hu
  rw [← hu]
  simp

set_option maxRecDepth 100000 in
set_option maxHeartbeats 400000 in
theorem rFetch_ok (w : World) (B p : Nat) (v : Value) (vals : List Value) (D : Dk) (h : RIs w B p v vals (rof D)) (i : Nat) (s : Sec) (hi : D.secs[i]? = some s) (hdk : D.dark = false) (hl : s.last.length = 256) :
    Calls Try.prog 22 #[.pointer (some ⟨p, 0, none⟩), .int .i64 i] w fun e w' => ∃ q c, e = .returned (.tuple #[.slice (some ⟨q, 0, none⟩) 256 c, .int .i64 0]) ∧ BytesAt w' (some ⟨q, 0, none⟩) s.last ∧ Below w.heap.size w w' := by
  obtain ⟨g, gc, _, _, rfl, _⟩ := h.mem i s hi
  obtain ⟨c0, -, -, c3, -⟩ := h.dcells
  rw [hdk] at c3
  have hil := (List.getElem?_eq_some_iff.1 hi).1
  have hd2 : decide ((D.secs.length : Int) ≤ i) = false := by simp; omega
  have HL := hide (rlast_any w B p _ vals D h i s hi)
  have hcv := run_bytes_of_string (P := Try.prog) w.drew 9 37 5 ⟨s.last.toArray⟩ Try.underlying9 Try.underlying37 Try.underlying5
  have hsz : (⟨s.last.toArray⟩ : ByteArray).size = 256 := by simp [ByteArray.size, hl]
  rw [hsz] at hcv
  have hB : Hid (∀ C (f : Nat × Nat), (∀ j u, (bv s.last)[j]? = some u → C[j]? = some u) → BytesAt (w.drew.drew.alloc (.cells C 5 f)) (some ⟨w.heap.size, 0, none⟩) s.last) := fun C f hC => by
    refine ⟨(fun e => by cases e), fun ad e j u hu => ?_⟩
    injection e with e
    subst e
    rw [Addr.add_mid, Nat.zero_add]
    exact (World.cell?_alloc_mark w.drew.drew C _ f j).trans (hC j u hu)
  have HR := hide (fun cap j u hu => bytesRow_bv s.last cap j u hu)
  clear h hi
  go_enter Try.func22, Try.ntmps22
  go_wp2_with fail
  refine (unhide HL).mono ?_
  rintro e w1 ⟨rfl, rfl⟩
  go_wp2
  go_ret2
  exact ⟨_, _, rfl, unhide hB _ _ (unhide HR _), (((Below.refl _ _).drew.drew).alloc (Nat.le_refl _) _)⟩

end Go.Proofs.Ytaflibnalhfenaa
