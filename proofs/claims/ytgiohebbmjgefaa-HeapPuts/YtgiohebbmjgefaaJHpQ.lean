/- Layer 15: objects that came in, opened. -/
import Derived.Test.YtgiohebbmjgefaaJHpA
import Derived.Test.YtgiohebbmjgefaaJH2

namespace Go.Proofs.Ytgiohebbmjgefaa
open Go.ChangeShapes Go.WideShapes Go.ChangeAt Go.RowKit
set_option linter.unusedVariables false
set_option maxRecDepth 100000

theorem vl_cells {H : Type} {enc : TypeId × Value → H} {w : World} {base : Nat} (n : Nat) (cs : List Value) (x : DataW H × List MemPlace)
    (h : DataW.trod enc Try.prog w base (fun _ => true) true n 33 cs = some x) (hw : ∀ m ∈ x.1.weights Try.prog 33, m ≤ reachBytes) :
    ∃ y : Vl, cs = vlc y ∧ True := by
  have hl : cs.length = 2 := st_len Try.underlying33 (by kernel_rfl) h
  obtain ⟨_, y0, g0, w0⟩ := st_field Try.underlying33 h hw (i := 0) rfl
  obtain ⟨v0, c0, f0⟩ := int_leaf (o := 0) g0
  obtain ⟨_, y1, g1, w1⟩ := st_field Try.underlying33 h hw (i := 1) rfl
  obtain ⟨v1, c1, f1⟩ := int_leaf (o := 1) g1
  refine ⟨⟨v0, v1⟩, ?_, trivial⟩
  apply List.ext_getElem?
  intro i
  match i with
  | 0 => rw [c0]; rfl
  | 1 => rw [c1]; rfl
  | k + 2 => rw [List.getElem?_eq_none (by omega)]; rfl
theorem ob_cells {H : Type} {enc : TypeId × Value → H} {w : World} {base : Nat} (n : Nat) (cs : List Value) (x : DataW H × List MemPlace)
    (h : DataW.trod enc Try.prog w base (fun _ => true) true n 29 cs = some x) (hw : ∀ m ∈ x.1.weights Try.prog 29, m ≤ reachBytes) :
    ∃ y : ObR, cs = obc y ∧ WsIn w y.s y.ws := by
  have hl : cs.length = 2 := st_len Try.underlying29 (by kernel_rfl) h
  obtain ⟨_, y0, g0, w0⟩ := st_field Try.underlying29 h hw (i := 0) rfl
  obtain ⟨v0, c0, f0⟩ := str_leaf (o := 0) g0 w0
  obtain ⟨_, y1, g1, w1⟩ := st_field Try.underlying29 h hw (i := 1) rfl
  obtain ⟨v1, c1, t1⟩ := sl_leaf (o := 1) Try.underlying27 (by kernel_rfl) g1
  obtain ⟨l1, h1⟩ := lin_open (size := 2) (by_ := 16) Try.underlying27 (by kernel_rfl) (by kernel_rfl) (by decide) (fun _ => rfl) (fun _ => ⟨_, rfl⟩) vl_cells t1 w1
  refine ⟨⟨v0, v1, l1⟩, ?_, h1⟩
  apply List.ext_getElem?
  intro i
  match i with
  | 0 => rw [c0]; rfl
  | 1 => rw [c1]; rfl
  | k + 2 => rw [List.getElem?_eq_none (by omega)]; rfl
theorem objs_arg {H : Type} {enc : TypeId × Value → H} {w : World} {base : Nat} {a : Option Addr} {len cap : Nat} {d : DataW H} {p : List MemPlace} (h : DataW.Trod enc Try.prog w base (fun _ => true) true 22 (.slice a len cap) d p) (hw : ∀ m ∈ d.weights Try.prog 22, m ≤ reachBytes) : ∃ l, HIn w ⟨a, len, cap⟩ l :=
  lin_open (size := 2) (by_ := 40) Try.underlying22 (by kernel_rfl) (by kernel_rfl) (by decide) (fun _ => rfl) (fun _ => ⟨_, rfl⟩) ob_cells (s := ⟨a, len, cap⟩) h hw
theorem obj_arg {H : Type} {enc : TypeId × Value → H} {W : World} {base b2 : Nat} {v : Value} {d : DataW H} {p : List MemPlace} (hv : Value.okWide Try.prog W .any b2 29 v)
    (h : DataW.Trod enc Try.prog W base (fun _ => true) true 29 v d p) (hw : ∀ m ∈ d.weights Try.prog 29, m ≤ reachBytes) : ∃ r : ObR, v = .agg #[.string ⟨r.ty.toArray⟩, r.s.v] ∧ WsIn W r.s r.ws := by
  obtain ⟨fuel, hf⟩ := h
  simp only [Value.okWide, Try.underlying29] at hv
  obtain ⟨cs, rfl, _⟩ := hv
  obtain ⟨r, hcs, hfit⟩ := ob_cells _ _ _ hf hw
  refine ⟨r, ?_, hfit⟩
  congr 1
  apply Array.toList_inj.1
  simpa [Value.cells, obc] using hcs
theorem val_arg {H : Type} {enc : TypeId × Value → H} {W : World} {base b2 : Nat} {v : Value} {d : DataW H} {p : List MemPlace} (hv : Value.okWide Try.prog W .any b2 33 v)
    (h : DataW.Trod enc Try.prog W base (fun _ => true) true 33 v d p) (hw : ∀ m ∈ d.weights Try.prog 33, m ≤ reachBytes) : ∃ r : Vl, v = .agg #[.int .i64 r.kind, .int .i64 r.n] ∧ True := by
  obtain ⟨fuel, hf⟩ := h
  simp only [Value.okWide, Try.underlying33] at hv
  obtain ⟨cs, rfl, _⟩ := hv
  obtain ⟨r, hcs, _⟩ := vl_cells _ _ _ hf hw
  refine ⟨r, ?_, trivial⟩
  congr 1
  apply Array.toList_inj.1
  simpa [Value.cells, vlc] using hcs
theorem str15_arg {H : Type} {enc : TypeId × Value → H} {W : World} {base b2 : Nat} {v : Value} {d : DataW H} {p : List MemPlace} (hv : Value.okWide Try.prog W .any b2 9 v)
    (h : DataW.Trod enc Try.prog W base (fun _ => true) true 9 v d p) (hw : ∀ m ∈ d.weights Try.prog 9, m ≤ reachBytes) : ∃ s : List UInt8, v = .string ⟨s.toArray⟩ ∧ True := by
  obtain ⟨s, rfl, rfl, _, _⟩ := Go.ChangeMaps.open_string Try.underlying9 hv h
  exact ⟨s.data.toList, rfl, trivial⟩
end Go.Proofs.Ytgiohebbmjgefaa
