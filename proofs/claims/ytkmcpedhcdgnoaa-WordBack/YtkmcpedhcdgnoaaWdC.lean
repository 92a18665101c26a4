/- Bytes, numbers and acts of stage 6's laws that came in, opened. -/
import Derived.Test.YtkmcpedhcdgnoaaArC
import Derived.Test.YtkmcpedhcdgnoaaWdReads
import Derived.SizedLaws
namespace Go.Proofs.Ytkmcpedhcdgnoaa
open Go.ChangeShapes Go.WideShapes Go.ChangeAt Go.RowKit
set_option linter.unusedVariables false

theorem cells1I : Try.prog.cellsOf 3 = 1 := by kernel_rfl
theorem bytes8I : Try.prog.bytesOf 3 = 8 := by kernel_rfl
theorem cells1Is : Try.prog.cellsOf 30 = 1 := by kernel_rfl
theorem cells1Bs : Try.prog.cellsOf 22 = 1 := by kernel_rfl
theorem cells6A : Try.prog.cellsOf 32 = 6 := by kernel_rfl
theorem int_cells {H : Type} {enc : TypeId × Value → H} {w : World} {base : Nat} (n : Nat) (cs : List Value) (x : DataW H × List MemPlace)
    (h : DataW.trod enc Try.prog w base (fun _ => true) true n 3 cs = some x) (hw : ∀ m ∈ x.1.weights Try.prog 3, m ≤ reachBytes) : ∃ y : Int, cs = [.int .i64 y] ∧ (-9223372036854775808 ≤ y ∧ y ≤ 9223372036854775807) := by
  obtain ⟨z, e, _, hz⟩ := DataW.trod_int Try.underlying3 h
  exact ⟨z, e, bounds_i64 hz⟩
theorem nums6 {H : Type} {enc : TypeId × Value → H} {w : World} {base : Nat} {a : Option Addr} {len cap : Nat} {d : DataW H} {p : List MemPlace}
    (h : DataW.Trod enc Try.prog w base (fun _ => true) true 30 (.slice a len cap) d p) (hw : ∀ m ∈ d.weights Try.prog 30, m ≤ reachBytes) :
    ∃ zs : List Int, Nums w a len zs ∧ (∀ z ∈ zs, -9223372036854775808 ≤ z ∧ z ≤ 9223372036854775807) ∧ 8 * len ≤ 140737488351232 ∧ (a = none → len = 0 ∧ cap = 0) := by
  obtain ⟨l, h1, h2, h3, h4, h7, h5, h6⟩ := open_list Try.underlying30 cells1I (by omega) (val := fun (y : Int) => [Value.int .i64 y]) (ok := fun y => -9223372036854775808 ≤ y ∧ y ≤ 9223372036854775807) (fun _ => rfl) (fun y => ⟨_, rfl⟩) int_cells h hw
  rw [bytes8I] at h4
  unfold reachBytes at h4
  refine ⟨l, ⟨h1, h6.elim .inl fun ⟨b, o, e, _, hc⟩ => .inr ⟨b, o, e, fun j z hz => ?_⟩⟩, h5, by omega, h7⟩
  have := hc j z hz 0 _ rfl
  rw [Nat.mul_one, Nat.add_zero] at this
  exact this
theorem slice_form {H : Type} {enc : TypeId × Value → H} {w : World} {base n : Nat} {T e : TypeId} (hT : Try.prog.underlying T = some (.slice e)) {cs : List Value} {x : DataW H × List MemPlace}
    (h : DataW.trod enc Try.prog w base (fun _ => true) true n T cs = some x) : ∃ a len cap, cs = [.slice a len cap] ∧ DataW.Trod enc Try.prog w base (fun _ => true) true T (.slice a len cap) x.1 x.2 := by
  have key : ∀ a len cap, cs = [.slice a len cap] → DataW.Trod enc Try.prog w base (fun _ => true) true T (.slice a len cap) x.1 x.2 := fun a len cap e => ⟨n, by subst e; simpa [Value.cells] using h⟩
  rcases Go.Deep.open_slice hT h with ⟨hcs, _⟩ | ⟨ad, len', cap', m, n', D, Pl, hcs, _⟩
  · exact ⟨none, 0, 0, hcs, key _ _ _ hcs⟩
  · exact ⟨some ad, len', cap', hcs, key _ _ _ hcs⟩
theorem wact_cells {H : Type} {enc : TypeId × Value → H} {w : World} {base : Nat} (n : Nat) (cs : List Value) (x : DataW H × List MemPlace)
    (h : DataW.trod enc Try.prog w base (fun _ => true) true n 32 cs = some x) (hw : ∀ m ∈ x.1.weights Try.prog 32, m ≤ reachBytes) :
    ∃ y : WAct, cs = y.cells.toList ∧ WOk w y := by
  obtain ⟨xs, m, _, rfl, hl, hlen, hf⟩ := DataW.trod_struct Try.underlying32 h
  have f0 := hf 0 { name := "Do", type := 3, offset := 0, embedded := false, tag := "", pkgPath := "", byteOffset := 0 } rfl
  have f1 := hf 1 { name := "K", type := 3, offset := 1, embedded := false, tag := "", pkgPath := "", byteOffset := 8 } rfl
  have f2 := hf 2 { name := "N", type := 3, offset := 2, embedded := false, tag := "", pkgPath := "", byteOffset := 16 } rfl
  have f3 := hf 3 { name := "M", type := 3, offset := 3, embedded := false, tag := "", pkgPath := "", byteOffset := 24 } rfl
  have f4 := hf 4 { name := "L", type := 30, offset := 4, embedded := false, tag := "", pkgPath := "", byteOffset := 32 } rfl
  have f5 := hf 5 { name := "B", type := 22, offset := 5, embedded := false, tag := "", pkgPath := "", byteOffset := 56 } rfl
  simp only [cells1I, cells1Is, cells1Bs] at f0 f1 f2 f3 f4 f5
  have l6 : xs.length = 6 := hlen
  rw [cells6A] at hl
  rw [List.getElem?_eq_getElem (by omega)] at f0 f1 f2 f3 f4 f5
  have w4 : ∀ m ∈ xs[4].1.weights Try.prog 30, m ≤ reachBytes := fun m hm => hw m (by
    simp only [DataW.weights, Try.underlying32]
    exact DataW.weights_mem_each (j := 4) (t := 30) (d := xs[4].1) rfl (by rw [List.getElem?_map, List.getElem?_eq_getElem (by omega)]; rfl) m hm)
  have w5 : ∀ m ∈ xs[5].1.weights Try.prog 22, m ≤ reachBytes := fun m hm => hw m (by
    simp only [DataW.weights, Try.underlying32]
    exact DataW.weights_mem_each (j := 5) (t := 22) (d := xs[5].1) rfl (by rw [List.getElem?_map, List.getElem?_eq_getElem (by omega)]; rfl) m hm)
  obtain ⟨n0, e0, _, _⟩ := DataW.trod_int Try.underlying3 f0
  obtain ⟨n1, e1, _, b1⟩ := DataW.trod_int Try.underlying3 f1
  obtain ⟨n2, e2, _, b2⟩ := DataW.trod_int Try.underlying3 f2
  obtain ⟨n3, e3, _, b3⟩ := DataW.trod_int Try.underlying3 f3
  obtain ⟨a4, len4, cap4, e4, t4⟩ := slice_form Try.underlying30 f4
  obtain ⟨a5, len5, cap5, e5, t5⟩ := slice_form Try.underlying22 f5
  obtain ⟨zs, hz1, hz2, _, hz3⟩ := nums6 t4 w4
  obtain ⟨bs, hb1, _⟩ := arg6 t5 w5
  have hzl := hz1.1
  have hbl := hb1.len
  subst hzl
  subst hbl
  refine ⟨⟨n0, n1, n2, n3, zs, a4, cap4, bs, a5, cap5⟩, ?_, ⟨bounds_i64 b1, bounds_i64 b2, bounds_i64 b3, hz1, hz3, hz2, hb1⟩⟩
  have c0 := take_one e0
  have c1 := take_one e1
  have c2 := take_one e2
  have c3 := take_one e3
  have c4 := take_one e4
  have c5 := take_one e5
  unfold WAct.cells
  apply List.ext_getElem?
  intro i
  match i with
  | 0 => rw [c0]; rfl
  | 1 => rw [c1]; rfl
  | 2 => rw [c2]; rfl
  | 3 => rw [c3]; rfl
  | 4 => rw [c4]; rfl
  | 5 => rw [c5]; rfl
  | k + 6 => rw [List.getElem?_eq_none (by omega)]; rfl
theorem wact_arg {H : Type} {enc : TypeId × Value → H} {W : World} {base b2 : Nat} {v : Value} {d : DataW H} {p : List MemPlace} (hv : Value.okWide Try.prog W .any b2 32 v)
    (h : DataW.Trod enc Try.prog W base (fun _ => true) true 32 v d p) (hw : ∀ m ∈ d.weights Try.prog 32, m ≤ reachBytes) : ∃ y : WAct, v = .agg y.cells ∧ WOk W y := by
  obtain ⟨fuel, hf⟩ := h
  simp only [Value.okWide, Try.underlying32] at hv
  obtain ⟨cs, rfl, _⟩ := hv
  obtain ⟨y, hcs, hok⟩ := wact_cells _ _ _ hf hw
  refine ⟨y, ?_, hok⟩
  congr 1
  apply Array.toList_inj.1
  simpa [Value.cells] using hcs
theorem wacts_arg {H : Type} {enc : TypeId × Value → H} {w : World} {base : Nat} {a : Option Addr} {len cap : Nat} {d : DataW H} {p : List MemPlace}
    (h : DataW.Trod enc Try.prog w base (fun _ => true) true 23 (.slice a len cap) d p) (hw : ∀ m ∈ d.weights Try.prog 23, m ≤ reachBytes) :
    ∃ l : List WAct, l.length = len ∧ len ≤ 9223372036854775807 ∧ (len = 0 ∨ ∃ b o, a = some ⟨b, o, none⟩ ∧ b < w.heap.size ∧ ∀ (j : Nat) (x : WAct), l[j]? = some x → FullW w b (o + j * 6) x ∧ WOk w x) := by
  obtain ⟨l, h1, h2, h3, h4, _, h5, h6⟩ := open_list Try.underlying23 cells6A (by omega) (val := fun (y : WAct) => y.cells.toList) (ok := fun y => WOk w y) (fun _ => rfl) (fun y => ⟨_, rfl⟩) wact_cells h hw
  refine ⟨l, h1, by omega, ?_⟩
  rcases h6 with h6 | ⟨b, o, e, hb, hc⟩
  · exact .inl h6
  · refine .inr ⟨b, o, e, hb, fun j y hj => ⟨⟨?_, hc j y hj 1 _ rfl, hc j y hj 2 _ rfl, hc j y hj 3 _ rfl, hc j y hj 4 _ rfl, hc j y hj 5 _ rfl⟩, h5 y (List.mem_of_getElem? hj)⟩⟩
    have := hc j y hj 0 _ rfl
    rw [Nat.add_zero] at this
    exact this

end Go.Proofs.Ytkmcpedhcdgnoaa
