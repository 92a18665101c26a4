/- Records that came in, opened for the walks. -/
import Derived.Test.YtnkmcndbbapeoaaDoorArA
import Derived.Test.YtnkmcndbbapeoaaDoorSmC1
import Derived.Test.YtnkmcndbbapeoaaDoorFrWrites
import Derived.SizedLaws
import Derived.Deep.Slices
namespace Go.Proofs.YtnkmcndbbapeoaaDoor
open Go.ChangeShapes Go.WideShapes Go.ChangeAt Go.RowKit
set_option linter.unusedVariables false

theorem cellsR : Tryd.prog.cellsOf 24 = 2 := by kernel_rfl
theorem cellsS : Tryd.prog.cellsOf 9 = 1 := by kernel_rfl
theorem bytesR : Tryd.prog.bytesOf 24 = 24 := by kernel_rfl
theorem rec_cells {H : Type} {enc : TypeId × Value → H} {w : World} {base : Nat} {n : Nat} {cs : List Value} {x : DataW H × List MemPlace}
    (h : DataW.trod enc Tryd.prog w base (fun _ => true) true n 24 cs = some x) (hw : ∀ m ∈ x.1.weights Tryd.prog 24, m ≤ reachBytes) :
    ∃ r : Rec, cs = [.int .i64 r.epoch, .string ⟨r.data.toArray⟩] ∧ recFit r := by
  obtain ⟨xs, m, _, rfl, hl, hlen, hf⟩ := DataW.trod_struct Tryd.underlying24 h
  have f0 := hf 0 { name := "Epoch", type := 3, offset := 0, embedded := false, tag := "", pkgPath := "", byteOffset := 0 } rfl
  have f1 := hf 1 { name := "Data", type := 9, offset := 1, embedded := false, tag := "", pkgPath := "", byteOffset := 8 } rfl
  simp only [cellsI, cellsS] at f0 f1
  have l2 : xs.length = 2 := hlen
  rw [cellsR] at hl
  rw [List.getElem?_eq_getElem (by omega)] at f0 f1
  obtain ⟨n0, e0, _, w0⟩ := DataW.trod_int Tryd.underlying3 f0
  obtain ⟨s, e1, hx1, hs⟩ := DataW.trod_string Tryd.underlying9 f1
  have b0 := bounds_i64 w0
  refine ⟨⟨n0, s.data.toList⟩, ?_, b0.1, b0.2, ?_⟩
  · have c0 := take_one e0
    have c1 := take_one e1
    apply List.ext_getElem?
    intro i
    match i with
    | 0 => rw [c0]; rfl
    | 1 => rw [c1]; rfl
    | k + 2 => rw [List.getElem?_eq_none (by omega)]; rfl
  · have hm := hw s.data.toList.length (by
      simp only [DataW.weights, Tryd.underlying24]
      refine DataW.weights_mem_each (j := 1) (t := 9) (d := xs[1].1) rfl ?_ _ ?_
      · rw [List.getElem?_map, List.getElem?_eq_getElem (by omega)]; rfl
      · rw [hx1]
        simp [DataW.weights])
    unfold reachBytes at hm
    show s.data.toList.length ≤ _
    omega

theorem recs_of_cells {w : World} {b o : Nat} {rs : List Rec} (h : ∀ k r, rs[k]? = some r → w.cell? ⟨b, o + k * 2, none⟩ = some (.int .i64 r.epoch) ∧ w.cell? ⟨b, o + k * 2 + 1, none⟩ = some (.string ⟨r.data.toArray⟩)) : RecsAt w (some ⟨b, o, none⟩) rs := by
  intro ad e j u hu
  injection e with e
  subst e
  rw [Addr.add_mid]
  have hj := (List.getElem?_eq_some_iff.1 hu).1
  rw [rv_len] at hj
  obtain ⟨r, hr⟩ : ∃ r, rs[j / 2]? = some r := ⟨_, List.getElem?_eq_getElem (by omega)⟩
  obtain ⟨g0, g1⟩ := rv_get hr
  obtain ⟨c0, c1⟩ := h _ r hr
  rcases Nat.mod_two_eq_zero_or_one j with h0 | h0
  · rw [show 2 * (j / 2) = j by omega] at g0
    rw [show o + j / 2 * 2 = o + j by omega] at c0
    rw [c0, ← g0, hu]
  · rw [show 2 * (j / 2) + 1 = j by omega] at g1
    rw [show o + j / 2 * 2 + 1 = o + j by omega] at c1
    rw [c1, ← g1, hu]

theorem recs_arg {H : Type} {enc : TypeId × Value → H} {w : World} {base : Nat} {a : Option Addr} {len cap : Nat} {d : DataW H} {p : List MemPlace}
    (h : DataW.Trod enc Tryd.prog w base (fun _ => true) true 22 (.slice a len cap) d p) (hw : ∀ m ∈ d.weights Tryd.prog 22, m ≤ reachBytes) :
    ∃ rs : List Rec, RArg w a len cap rs := by
  obtain ⟨fuel, h⟩ := h
  rcases Go.Deep.open_slice Tryd.underlying22 (by simpa [Value.cells] using h) with ⟨hcs, _⟩ | ⟨ad, len', cap', m, n, D, Pl, hcs, _, hl, hm, hmm, hx, hel⟩
  · simp at hcs
    obtain ⟨rfl, rfl, rfl⟩ := hcs
    exact ⟨[], ⟨⟨rfl, .inl rfl⟩, by omega, by omega, by omega, fun _ => ⟨rfl, rfl⟩, fun r hr => by cases hr⟩⟩
  · simp at hcs
    obtain ⟨rfl, rfl, rfl⟩ := hcs
    unfold maxLen at hm
    have hlm : len ≤ m := by rw [hmm]; split <;> omega
    injection hx with hx _
    by_cases h0 : len = 0
    · subst h0
      exact ⟨[], ⟨⟨rfl, .inl rfl⟩, by omega, by omega, by omega, (fun e => by cases e), fun r hr => by cases hr⟩⟩
    have hwi : ∀ i, i < len → ∀ k ∈ (D i).weights Tryd.prog 24, k ≤ reachBytes := by
      intro i hi k hk
      refine hw k ?_
      rw [hx]
      simp only [DataW.weights, Tryd.underlying22]
      refine List.mem_cons_of_mem _ (List.mem_append_left _ (weightsAll_mem hk ?_))
      exact List.mem_map.2 ⟨i, List.mem_range.2 hi, rfl⟩
    have hmost : len ≤ 5864062014806 := by
      have := hw ((((List.range len).map D).length + ((List.range (m - len)).map fun j => D (len + j)).length) * Tryd.prog.bytesOf 24) (by
        rw [hx]
        simp [DataW.weights, Tryd.underlying22])
      rw [bytesR] at this
      simp only [List.length_map, List.length_range] at this
      unfold reachBytes at this
      omega
    have hE : ∀ i, i < len → ∃ r : Rec, (w.cell? (ad.add (i * 2)) = some (.int .i64 r.epoch) ∧ w.cell? ((ad.add (i * 2)).add 1) = some (.string ⟨r.data.toArray⟩)) ∧ recFit r := by
      intro i hi
      obtain ⟨cs', h1, h2⟩ := hel i (by omega)
      rw [cellsR] at h1
      obtain ⟨r, hcs, hfit⟩ := rec_cells h2 (hwi i hi)
      have hc := World.cells?_some h1
      have g0 := hc.2.2 0 (by omega)
      have g1 := hc.2.2 1 (by omega)
      rw [hcs] at g0 g1
      exact ⟨r, ⟨by simpa [Addr.add] using g0, g1⟩, hfit⟩
    have hsp : ad = ⟨ad.block, ad.off, none⟩ := by
      obtain ⟨r, ⟨g0, _⟩, _⟩ := hE 0 (by omega)
      exact spot_none (w := w) (a := ad) (by simpa [Addr.add] using g0)
    let F : ∀ i, i < len → Rec := fun i hi => Classical.choose (hE i hi)
    have hF : ∀ i (hi : i < len), (w.cell? (ad.add (i * 2)) = some (.int .i64 (F i hi).epoch) ∧ w.cell? ((ad.add (i * 2)).add 1) = some (.string ⟨(F i hi).data.toArray⟩)) ∧ recFit (F i hi) := fun i hi => Classical.choose_spec (hE i hi)
    have hget : ∀ (j : Nat) (z : Rec), (List.ofFn (fun i : Fin len => F i.1 i.2))[j]? = some z → ∃ hj : j < len, z = F j hj := by
      intro j z hz
      have hj : j < len := by have := (List.getElem?_eq_some_iff.1 hz).1; simpa using this
      refine ⟨hj, ?_⟩
      obtain ⟨_, e⟩ := List.getElem?_eq_some_iff.1 hz
      rw [← e]; simp
    refine ⟨List.ofFn (fun i : Fin len => F i.1 i.2), ⟨⟨by simp, .inr ⟨ad.block, ad.off, by rw [← hsp], recs_of_cells ?_⟩⟩, hl, hmost, by omega, (fun e => by cases e), ?_⟩⟩
    · intro j z hz
      obtain ⟨hj, rfl⟩ := hget j z hz
      have := (hF j hj).1
      rw [hsp, Addr.add_mid, Addr.add_mid] at this
      exact this
    · intro z hz
      obtain ⟨j, hj, e⟩ := List.getElem_of_mem hz
      obtain ⟨hj', rfl⟩ := hget j z (by rw [List.getElem?_eq_getElem hj, e])
      exact (hF j hj').2

theorem rec_arg {H : Type} {enc : TypeId × Value → H} {W : World} {base b2 : Nat} {v : Value} {d : DataW H} {p : List MemPlace} (hv : Value.okWide Tryd.prog W .any b2 24 v)
    (h : DataW.Trod enc Tryd.prog W base (fun _ => true) true 24 v d p) (hw : ∀ m ∈ d.weights Tryd.prog 24, m ≤ reachBytes) : ∃ r : Rec, v = recV r ∧ recFit r := by
  obtain ⟨fuel, hf⟩ := h
  simp only [Value.okWide, Tryd.underlying24] at hv
  obtain ⟨cs, rfl, _⟩ := hv
  obtain ⟨r, hcs, hfit⟩ := rec_cells hf hw
  refine ⟨r, ?_, hfit⟩
  unfold recV
  congr 1
  apply Array.toList_inj.1
  simpa [Value.cells] using hcs

end Go.Proofs.YtnkmcndbbapeoaaDoor
