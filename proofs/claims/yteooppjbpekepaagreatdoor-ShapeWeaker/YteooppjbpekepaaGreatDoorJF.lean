/- Joined: PlK ArA ArB PlAr. -/
import Derived.Test.YteooppjbpekepaaGreatDoorJB
import Derived.Test.YteooppjbpekepaaGreatDoorJA
import Derived.ProofKit
import Derived.OpenShut
import Derived.SizedLaws
import Derived.Deep.Slices

/- What the walks of stage 7's laws ask of the program's pool; works7. -/
namespace Go.Proofs.YteooppjbpekepaaGreatDoor
open Go.RowKit
set_option linter.unusedVariables false

/-- Entries as they may come in. -/
structure EIn (w : World) (a : Option Addr) (n c : Nat) (l : List Ent) : Prop where
  arg : EArg w a n c l
  small : n * 48 ≤ 140737488351232
  fit : EntsFit7 l
theorem EIn.below {w w' : World} {a : Option Addr} {n c : Nat} {l : List Ent} (h : EIn w a n c l) (f : Below w.heap.size w w') : EIn w' a n c l := ⟨h.arg.below f, h.small, h.fit⟩
theorem EIn.own {w : World} {base n c : Nat} {a : Option Addr} {l : List Ent} (h : w.ownsRow base 136 5 (.slice a n c) n (ev l)) (hs : n * 48 ≤ 140737488351232) (hf : EntsFit7 l) : EIn w a n c l := ⟨earg_of_own h, hs, hf⟩

def cEx : Cst := ⟨10, 0, [97], [98], [40, 41, 86]⟩
theorem cEx_fit : CstFit cEx := by
  refine ⟨?_, ?_, ?_, ?_, ?_⟩ <;> decide
theorem putEx : putK [ent0] cEx = ([ent0, eUtf [97], ⟨7, [], 0, 1, 0⟩, eUtf [98], eUtf [40, 41, 86], ⟨12, [], 0, 3, 4⟩, ⟨10, [], 0, 2, 5⟩], 6, 0) := by decide +kernel
theorem constEx : constP [ent0, eUtf [97], ⟨7, [], 0, 1, 0⟩, eUtf [98], eUtf [40, 41, 86], ⟨12, [], 0, 3, 4⟩, ⟨10, [], 0, 2, 5⟩] 6 = (cEx, 0) := by decide +kernel

end Go.Proofs.YteooppjbpekepaaGreatDoor

/- What opening arguments needs, whatever the law. -/
namespace Go.Proofs.YteooppjbpekepaaGreatDoor
open Go.ChangeShapes Go.WideShapes Go.ChangeAt Go.RowKit
set_option linter.unusedVariables false

theorem ownKn : ownKnob Tryz.prog.godebug = none := by kernel_rfl

theorem laidOut : laidOutB Tryz.prog = true := by kernel_rfl

theorem spot_none {w : World} {a : Addr} {v : Value} (h : w.cell? a = some v) : a = ⟨a.block, a.off, none⟩ := by
  cases hs : a.spot with
  | none => cases a; simp at hs; subst hs; rfl
  | some s =>
    unfold World.cell? at h
    rw [hs] at h
    split at h <;> simp at h

theorem cellsI : Tryz.prog.cellsOf 3 = 1 := by kernel_rfl

theorem take_one {l : List Value} {j : Nat} {v : Value} (h : (l.drop j).take 1 = [v]) : l[j]? = some v := by
  have h2 : ((l.drop j).take 1)[0]? = some v := by rw [h]; rfl
  simpa [List.getElem?_take] using h2

theorem weightsAll_mem {H : Type} {P : Program} {e : TypeId} {d : DataW H} {n : Nat} (hn : n ∈ d.weights P e) : ∀ {l : List (DataW H)}, d ∈ l → n ∈ DataW.weightsAll P e l
  | d0 :: r, hd => by
    simp only [DataW.weightsAll, List.mem_append]
    rcases List.mem_cons.1 hd with h | h
    · subst h; exact .inl hn
    · exact .inr (weightsAll_mem hn h)

end Go.Proofs.YteooppjbpekepaaGreatDoor

/- A slice that came in, opened, whatever its members are. -/
namespace Go.Proofs.YteooppjbpekepaaGreatDoor
open Go.ChangeShapes Go.WideShapes Go.ChangeAt Go.RowKit
set_option linter.unusedVariables false

theorem open_list {α : Type} {H : Type} {enc : TypeId × Value → H} {w : World} {base : Nat} {T e : TypeId} {size : Nat} (hT : Tryz.prog.underlying T = some (.slice e)) (hsz : Tryz.prog.cellsOf e = size) (hpos : 0 < size) {ok : α → Prop} {val : α → List Value} (hval : ∀ y, (val y).length = size) (hone : ∀ y, ∃ v, (val y)[0]? = some v)
    (hop : ∀ (n : Nat) (cs : List Value) (x : DataW H × List MemPlace), DataW.trod enc Tryz.prog w base (fun _ => true) true n e cs = some x → (∀ m ∈ x.1.weights Tryz.prog e, m ≤ reachBytes) → ∃ y, cs = val y ∧ ok y)
    {a : Option Addr} {len cap : Nat} {d : DataW H} {p : List MemPlace} (h : DataW.Trod enc Tryz.prog w base (fun _ => true) true T (.slice a len cap) d p) (hw : ∀ m ∈ d.weights Tryz.prog T, m ≤ reachBytes) :
    ∃ l : List α, l.length = len ∧ len ≤ cap ∧ cap ≤ 9223372036854775807 ∧ len * Tryz.prog.bytesOf e ≤ reachBytes ∧ (a = none → len = 0 ∧ cap = 0) ∧ (∀ y ∈ l, ok y) ∧
      (len = 0 ∨ ∃ b o, a = some ⟨b, o, none⟩ ∧ b < w.heap.size ∧ ∀ (j : Nat) (y : α), l[j]? = some y → ∀ (i : Nat) (v : Value), (val y)[i]? = some v → w.cell? ⟨b, o + j * size + i, none⟩ = some v) := by
  obtain ⟨fuel, h⟩ := h
  rcases Go.Deep.open_slice hT (by simpa [Value.cells] using h) with ⟨hcs, _⟩ | ⟨ad, len', cap', m, n, D, Pl, hcs, _, hl, hm, hmm, hx, hel⟩
  · simp at hcs
    obtain ⟨rfl, rfl, rfl⟩ := hcs
    exact ⟨[], rfl, by omega, by omega, by simp, fun _ => ⟨rfl, rfl⟩, (fun y hy => by cases hy), .inl rfl⟩
  · simp at hcs
    obtain ⟨rfl, rfl, rfl⟩ := hcs
    unfold maxLen at hm
    have hlm : len ≤ m := by rw [hmm]; split <;> omega
    injection hx with hx _
    have hby : len * Tryz.prog.bytesOf e ≤ reachBytes := by
      have := hw ((((List.range len).map D).length + ((List.range (m - len)).map fun j => D (len + j)).length) * Tryz.prog.bytesOf e) (by
        rw [hx]
        simp [DataW.weights, hT])
      simp only [List.length_map, List.length_range] at this
      exact Nat.le_trans (Nat.mul_le_mul_right _ (by omega)) this
    by_cases h0 : len = 0
    · subst h0
      exact ⟨[], rfl, by omega, by omega, hby, (fun e => by cases e), (fun y hy => by cases hy), .inl rfl⟩
    have hwi : ∀ i, i < len → ∀ k ∈ (D i).weights Tryz.prog e, k ≤ reachBytes := by
      intro i hi k hk
      refine hw k ?_
      rw [hx]
      simp only [DataW.weights, hT]
      refine List.mem_cons_of_mem _ (List.mem_append_left _ (weightsAll_mem hk ?_))
      exact List.mem_map.2 ⟨i, List.mem_range.2 hi, rfl⟩
    have hE : ∀ i, i < len → ∃ y : α, (∀ (j : Nat) (v : Value), (val y)[j]? = some v → w.cell? ((ad.add (i * size)).add j) = some v) ∧ ok y := by
      intro i hi
      obtain ⟨cs', h1, h2⟩ := hel i (by omega)
      rw [hsz] at h1
      obtain ⟨y, hcs, hfit⟩ := hop _ _ _ h2 (hwi i hi)
      have hc := World.cells?_some h1
      refine ⟨y, fun j v hv => ?_, hfit⟩
      have hj := (List.getElem?_eq_some_iff.1 hv).1
      rw [hval] at hj
      have g := hc.2.2 j (by omega)
      rw [hcs, hv] at g
      exact g
    have hsp : ad = ⟨ad.block, ad.off, none⟩ := by
      obtain ⟨y, g, _⟩ := hE 0 (by omega)
      obtain ⟨v, hv⟩ := hone y
      exact spot_none (w := w) (a := ad) (by simpa [Addr.add] using g 0 v hv)
    have hbl : ad.block < w.heap.size := by
      obtain ⟨y, g, _⟩ := hE 0 (by omega)
      obtain ⟨v, hv⟩ := hone y
      exact World.block_lt_of_cell? w ad (by simpa [Addr.add] using g 0 v hv)
    let F : ∀ i, i < len → α := fun i hi => Classical.choose (hE i hi)
    have hF : ∀ i (hi : i < len), (∀ (j : Nat) (v : Value), (val (F i hi))[j]? = some v → w.cell? ((ad.add (i * size)).add j) = some v) ∧ ok (F i hi) := fun i hi => Classical.choose_spec (hE i hi)
    have hget : ∀ (j : Nat) (z : α), (List.ofFn (fun i : Fin len => F i.1 i.2))[j]? = some z → ∃ hj : j < len, z = F j hj := by
      intro j z hz
      have hj : j < len := by have := (List.getElem?_eq_some_iff.1 hz).1; simpa using this
      refine ⟨hj, ?_⟩
      obtain ⟨_, e⟩ := List.getElem?_eq_some_iff.1 hz
      rw [← e]; simp
    refine ⟨List.ofFn (fun i : Fin len => F i.1 i.2), by simp, hl, by omega, hby, (fun e => by cases e), ?_, .inr ⟨ad.block, ad.off, by rw [← hsp], hbl, ?_⟩⟩
    · intro z hz
      obtain ⟨j, hj, e⟩ := List.getElem_of_mem hz
      obtain ⟨hj', rfl⟩ := hget j z (by rw [List.getElem?_eq_getElem hj, e])
      exact (hF j hj').2
    · intro j z hz i v hv
      obtain ⟨hj, rfl⟩ := hget j z hz
      have := (hF j hj).1 i v hv
      rw [hsp, Addr.add_mid, Addr.add_mid] at this
      exact this

end Go.Proofs.YteooppjbpekepaaGreatDoor

/- Entries and constants that came in, opened for the walks. -/
namespace Go.Proofs.YteooppjbpekepaaGreatDoor
open Go.ChangeShapes Go.WideShapes Go.ChangeAt Go.RowKit
set_option linter.unusedVariables false
set_option maxRecDepth 100000

theorem cellsS7 : Tryz.prog.cellsOf 9 = 1 := by kernel_rfl
theorem cellsE7 : Tryz.prog.cellsOf 136 = 5 := by kernel_rfl
theorem cellsC7 : Tryz.prog.cellsOf 120 = 5 := by kernel_rfl
theorem bytesE7 : Tryz.prog.bytesOf 136 = 48 := by kernel_rfl
def EntOk (x : Ent) : Prop := x.text.length ≤ 140737488355328 ∧ EntFit x
theorem str_len {H : Type} {s : ByteArray} (hm : s.data.toList.length ≤ reachBytes) : s.data.toList.length ≤ 140737488355328 := by
  unfold reachBytes at hm
  omega
theorem ent_cells {H : Type} {enc : TypeId × Value → H} {w : World} {base : Nat} {n : Nat} {cs : List Value} {x : DataW H × List MemPlace}
    (h : DataW.trod enc Tryz.prog w base (fun _ => true) true n 136 cs = some x) (hw : ∀ m ∈ x.1.weights Tryz.prog 136, m ≤ reachBytes) :
    ∃ y : Ent, cs = ec y ∧ EntOk y := by
  obtain ⟨xs, m, _, rfl, hl, hlen, hf⟩ := DataW.trod_struct Tryz.underlying136 h
  have f0 := hf 0 { name := "Tag", type := 3, offset := 0, embedded := false, tag := "", pkgPath := "", byteOffset := 0 } rfl
  have f1 := hf 1 { name := "Text", type := 9, offset := 1, embedded := false, tag := "", pkgPath := "", byteOffset := 8 } rfl
  have f2 := hf 2 { name := "N", type := 3, offset := 2, embedded := false, tag := "", pkgPath := "", byteOffset := 24 } rfl
  have f3 := hf 3 { name := "A", type := 3, offset := 3, embedded := false, tag := "", pkgPath := "", byteOffset := 32 } rfl
  have f4 := hf 4 { name := "B", type := 3, offset := 4, embedded := false, tag := "", pkgPath := "", byteOffset := 40 } rfl
  simp only [cellsI, cellsS7] at f0 f1 f2 f3 f4
  have l5 : xs.length = 5 := hlen
  rw [cellsE7] at hl
  rw [List.getElem?_eq_getElem (by omega)] at f0 f1 f2 f3 f4
  obtain ⟨n0, e0, _, w0⟩ := DataW.trod_int Tryz.underlying3 f0
  obtain ⟨s, e1, hx1, hs⟩ := DataW.trod_string Tryz.underlying9 f1
  obtain ⟨n2, e2, _, w2⟩ := DataW.trod_int Tryz.underlying3 f2
  obtain ⟨n3, e3, _, w3⟩ := DataW.trod_int Tryz.underlying3 f3
  obtain ⟨n4, e4, _, w4⟩ := DataW.trod_int Tryz.underlying3 f4
  refine ⟨⟨n0, s.data.toList, n2, n3, n4⟩, ?_, ?_, bounds_i64 w0, bounds_i64 w2, bounds_i64 w3, bounds_i64 w4⟩
  · have c0 := take_one e0
    have c1 := take_one e1
    have c2 := take_one e2
    have c3 := take_one e3
    have c4 := take_one e4
    apply List.ext_getElem?
    intro i
    match i with
    | 0 => rw [c0]; rfl
    | 1 => rw [c1]; rfl
    | 2 => rw [c2]; rfl
    | 3 => rw [c3]; rfl
    | 4 => rw [c4]; rfl
    | k + 5 => rw [List.getElem?_eq_none (by omega)]; rfl
  · have hm := hw s.data.toList.length (by
      simp only [DataW.weights, Tryz.underlying136]
      refine DataW.weights_mem_each (j := 1) (t := 9) (d := xs[1].1) rfl ?_ _ ?_
      · rw [List.getElem?_map, List.getElem?_eq_getElem (by omega)]; rfl
      · rw [hx1]
        simp [DataW.weights])
    exact str_len (H := H) hm
theorem ents_arg {H : Type} {enc : TypeId × Value → H} {w : World} {base : Nat} {a : Option Addr} {len cap : Nat} {d : DataW H} {p : List MemPlace}
    (h : DataW.Trod enc Tryz.prog w base (fun _ => true) true 34 (.slice a len cap) d p) (hw : ∀ m ∈ d.weights Tryz.prog 34, m ≤ reachBytes) :
    ∃ l : List Ent, EIn w a len cap l := by
  obtain ⟨l, h1, h2, h3, h4, h5, h6, h7⟩ := open_list Tryz.underlying34 cellsE7 (by decide) (ok := EntOk) (val := ec) ec_len (fun y => ⟨_, rfl⟩) (fun n cs x hx hwx => ent_cells hx hwx) h hw
  rw [bytesE7] at h4
  unfold reachBytes at h4
  refine ⟨l, ⟨⟨h1, ?_⟩, h2, h3, h5⟩, h4, fun y hy => (h6 y hy).1, fun y hy => (h6 y hy).2⟩
  rcases h7 with h0 | ⟨b, o, e, _, hc⟩
  · exact .inl h0
  · refine .inr ⟨b, o, e, fun ad ead j u hu => ?_⟩
    injection ead with ead
    subst ead
    rw [Addr.add_mid]
    have hj := (List.getElem?_eq_some_iff.1 hu).1
    rw [ev_len] at hj
    obtain ⟨y, hy⟩ : ∃ y, l[j / 5]? = some y := ⟨_, List.getElem?_eq_getElem (by omega)⟩
    have hg := ev_get hy (j % 5) (by omega)
    rw [show 5 * (j / 5) + j % 5 = j by omega, hu] at hg
    have := hc (j / 5) y hy (j % 5) u hg.symm
    rw [show o + j / 5 * 5 + j % 5 = o + j by omega] at this
    exact this
theorem cst_cells {H : Type} {enc : TypeId × Value → H} {w : World} {base : Nat} {n : Nat} {cs : List Value} {x : DataW H × List MemPlace}
    (h : DataW.trod enc Tryz.prog w base (fun _ => true) true n 120 cs = some x) (hw : ∀ m ∈ x.1.weights Tryz.prog 120, m ≤ reachBytes) :
    ∃ y : Cst, cs = [.int .i64 y.tag, .int .i64 y.n, .string ⟨y.cls.toArray⟩, .string ⟨y.name.toArray⟩, .string ⟨y.type.toArray⟩] ∧ CstFit y := by
  obtain ⟨xs, m, _, rfl, hl, hlen, hf⟩ := DataW.trod_struct Tryz.underlying120 h
  have f0 := hf 0 { name := "Tag", type := 3, offset := 0, embedded := false, tag := "", pkgPath := "", byteOffset := 0 } rfl
  have f1 := hf 1 { name := "N", type := 3, offset := 1, embedded := false, tag := "", pkgPath := "", byteOffset := 8 } rfl
  have f2 := hf 2 { name := "Class", type := 9, offset := 2, embedded := false, tag := "", pkgPath := "", byteOffset := 16 } rfl
  have f3 := hf 3 { name := "Name", type := 9, offset := 3, embedded := false, tag := "", pkgPath := "", byteOffset := 32 } rfl
  have f4 := hf 4 { name := "Type", type := 9, offset := 4, embedded := false, tag := "", pkgPath := "", byteOffset := 48 } rfl
  simp only [cellsI, cellsS7] at f0 f1 f2 f3 f4
  have l5 : xs.length = 5 := hlen
  rw [cellsC7] at hl
  rw [List.getElem?_eq_getElem (by omega)] at f0 f1 f2 f3 f4
  obtain ⟨n0, e0, _, w0⟩ := DataW.trod_int Tryz.underlying3 f0
  obtain ⟨n1, e1, _, w1⟩ := DataW.trod_int Tryz.underlying3 f1
  obtain ⟨s2, e2, hx2, hs2⟩ := DataW.trod_string Tryz.underlying9 f2
  obtain ⟨s3, e3, hx3, hs3⟩ := DataW.trod_string Tryz.underlying9 f3
  obtain ⟨s4, e4, hx4, hs4⟩ := DataW.trod_string Tryz.underlying9 f4
  refine ⟨⟨n0, n1, s2.data.toList, s3.data.toList, s4.data.toList⟩, ?_, bounds_i64 w0, bounds_i64 w1, ?_, ?_, ?_⟩
  · have c0 := take_one e0
    have c1 := take_one e1
    have c2 := take_one e2
    have c3 := take_one e3
    have c4 := take_one e4
    apply List.ext_getElem?
    intro i
    match i with
    | 0 => rw [c0]; rfl
    | 1 => rw [c1]; rfl
    | 2 => rw [c2]; rfl
    | 3 => rw [c3]; rfl
    | 4 => rw [c4]; rfl
    | k + 5 => rw [List.getElem?_eq_none (by omega)]; rfl
  · have hm := hw s2.data.toList.length (by
      simp only [DataW.weights, Tryz.underlying120]
      refine DataW.weights_mem_each (j := 2) (t := 9) (d := xs[2].1) rfl ?_ _ ?_
      · rw [List.getElem?_map, List.getElem?_eq_getElem (by omega)]; rfl
      · rw [hx2]
        simp [DataW.weights])
    exact str_len (H := H) hm
  · have hm := hw s3.data.toList.length (by
      simp only [DataW.weights, Tryz.underlying120]
      refine DataW.weights_mem_each (j := 3) (t := 9) (d := xs[3].1) rfl ?_ _ ?_
      · rw [List.getElem?_map, List.getElem?_eq_getElem (by omega)]; rfl
      · rw [hx3]
        simp [DataW.weights])
    exact str_len (H := H) hm
  · have hm := hw s4.data.toList.length (by
      simp only [DataW.weights, Tryz.underlying120]
      refine DataW.weights_mem_each (j := 4) (t := 9) (d := xs[4].1) rfl ?_ _ ?_
      · rw [List.getElem?_map, List.getElem?_eq_getElem (by omega)]; rfl
      · rw [hx4]
        simp [DataW.weights])
    exact str_len (H := H) hm
theorem cst_arg {H : Type} {enc : TypeId × Value → H} {W : World} {base b2 : Nat} {v : Value} {d : DataW H} {p : List MemPlace} (hv : Value.okWide Tryz.prog W .any b2 120 v)
    (h : DataW.Trod enc Tryz.prog W base (fun _ => true) true 120 v d p) (hw : ∀ m ∈ d.weights Tryz.prog 120, m ≤ reachBytes) : ∃ r : Cst, v = cstV r ∧ CstFit r := by
  obtain ⟨fuel, hf⟩ := h
  simp only [Value.okWide, Tryz.underlying120] at hv
  obtain ⟨cs, rfl, _⟩ := hv
  obtain ⟨r, hcs, hfit⟩ := cst_cells hf hw
  refine ⟨r, ?_, hfit⟩
  unfold cstV
  congr 1
  apply Array.toList_inj.1
  simpa [Value.cells] using hcs

end Go.Proofs.YteooppjbpekepaaGreatDoor
