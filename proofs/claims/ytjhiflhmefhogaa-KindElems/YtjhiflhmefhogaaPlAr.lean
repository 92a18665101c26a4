/- Entries and constants that came in, opened for the walks. -/
import Derived.Test.YtjhiflhmefhogaaPlK
import Derived.Test.YtjhiflhmefhogaaArB
import Derived.SizedLaws
namespace Go.Proofs.Ytjhiflhmefhogaa
open Go.ChangeShapes Go.WideShapes Go.ChangeAt Go.RowKit
set_option linter.unusedVariables false
set_option maxRecDepth 100000

theorem cellsS7 : Try.prog.cellsOf 9 = 1 := by kernel_rfl
theorem cellsE7 : Try.prog.cellsOf 98 = 5 := by kernel_rfl
theorem bytesE7 : Try.prog.bytesOf 98 = 48 := by kernel_rfl
def EntOk (x : Ent) : Prop := x.text.length ≤ 140737488355328 ∧ EntFit x
theorem str_len {H : Type} {s : ByteArray} (hm : s.data.toList.length ≤ reachBytes) : s.data.toList.length ≤ 140737488355328 := by
  unfold reachBytes at hm
  omega
theorem ent_cells {H : Type} {enc : TypeId × Value → H} {w : World} {base : Nat} {n : Nat} {cs : List Value} {x : DataW H × List MemPlace}
    (h : DataW.trod enc Try.prog w base (fun _ => true) true n 98 cs = some x) (hw : ∀ m ∈ x.1.weights Try.prog 98, m ≤ reachBytes) :
    ∃ y : Ent, cs = ec y ∧ EntOk y := by
  obtain ⟨xs, m, _, rfl, hl, hlen, hf⟩ := DataW.trod_struct Try.underlying98 h
  have f0 := hf 0 { name := "Tag", type := 3, offset := 0, embedded := false, tag := "", pkgPath := "", byteOffset := 0 } rfl
  have f1 := hf 1 { name := "Text", type := 9, offset := 1, embedded := false, tag := "", pkgPath := "", byteOffset := 8 } rfl
  have f2 := hf 2 { name := "N", type := 3, offset := 2, embedded := false, tag := "", pkgPath := "", byteOffset := 24 } rfl
  have f3 := hf 3 { name := "A", type := 3, offset := 3, embedded := false, tag := "", pkgPath := "", byteOffset := 32 } rfl
  have f4 := hf 4 { name := "B", type := 3, offset := 4, embedded := false, tag := "", pkgPath := "", byteOffset := 40 } rfl
  simp only [cellsI, cellsS7] at f0 f1 f2 f3 f4
  have l5 : xs.length = 5 := hlen
  rw [cellsE7] at hl
  rw [List.getElem?_eq_getElem (by omega)] at f0 f1 f2 f3 f4
  obtain ⟨n0, e0, _, w0⟩ := DataW.trod_int Try.underlying3 f0
  obtain ⟨s, e1, hx1, hs⟩ := DataW.trod_string Try.underlying9 f1
  obtain ⟨n2, e2, _, w2⟩ := DataW.trod_int Try.underlying3 f2
  obtain ⟨n3, e3, _, w3⟩ := DataW.trod_int Try.underlying3 f3
  obtain ⟨n4, e4, _, w4⟩ := DataW.trod_int Try.underlying3 f4
  refine ⟨⟨n0, s.data.toList, n2, n3, n4⟩, ?_, ?_, bounds_i64 w0, bounds_i64 w2, bounds_i64 w3, bounds_i64 w4⟩
  · have c0 := take_one e0
    have c1 := take_one e1
    have c2 := take_one e2
    have c3 := take_one e3
    have c4 := take_one e4
    apply List.ext_getElem?
    intro i
    match i with
    | 0 => rw [c0]; rfl
    | 1 => rw [c1]; rfl
    | 2 => rw [c2]; rfl
    | 3 => rw [c3]; rfl
    | 4 => rw [c4]; rfl
    | k + 5 => rw [List.getElem?_eq_none (by omega)]; rfl
  · have hm := hw s.data.toList.length (by
      simp only [DataW.weights, Try.underlying98]
      refine DataW.weights_mem_each (j := 1) (t := 9) (d := xs[1].1) rfl ?_ _ ?_
      · rw [List.getElem?_map, List.getElem?_eq_getElem (by omega)]; rfl
      · rw [hx1]
        simp [DataW.weights])
    exact str_len (H := H) hm
theorem ents_arg {H : Type} {enc : TypeId × Value → H} {w : World} {base : Nat} {a : Option Addr} {len cap : Nat} {d : DataW H} {p : List MemPlace}
    (h : DataW.Trod enc Try.prog w base (fun _ => true) true 48 (.slice a len cap) d p) (hw : ∀ m ∈ d.weights Try.prog 48, m ≤ reachBytes) :
    ∃ l : List Ent, EIn w a len cap l := by
  obtain ⟨l, h1, h2, h3, h4, h5, h6, h7⟩ := open_list Try.underlying48 cellsE7 (by decide) (ok := EntOk) (val := ec) ec_len (fun y => ⟨_, rfl⟩) (fun n cs x hx hwx => ent_cells hx hwx) h hw
  rw [bytesE7] at h4
  unfold reachBytes at h4
  refine ⟨l, ⟨⟨h1, ?_⟩, h2, h3, h5⟩, h4, fun y hy => (h6 y hy).1, fun y hy => (h6 y hy).2⟩
  rcases h7 with h0 | ⟨b, o, e, _, hc⟩
  · exact .inl h0
  · refine .inr ⟨b, o, e, fun ad ead j u hu => ?_⟩
    injection ead with ead
    subst ead
    rw [Addr.add_mid]
    have hj := (List.getElem?_eq_some_iff.1 hu).1
    rw [ev_len] at hj
    obtain ⟨y, hy⟩ : ∃ y, l[j / 5]? = some y := ⟨_, List.getElem?_eq_getElem (by omega)⟩
    have hg := ev_get hy (j % 5) (by omega)
    rw [show 5 * (j / 5) + j % 5 = j by omega, hu] at hg
    have := hc (j / 5) y hy (j % 5) u hg.symm
    rw [show o + j / 5 * 5 + j % 5 = o + j by omega] at this
    exact this
end Go.Proofs.Ytjhiflhmefhogaa
