/- Joined: ArB DkKept SmC1 WlC. -/
import Derived.Test.YtfggahkimconfaaDoorJd
import Derived.Test.YtfggahkimconfaaDoorJi
import Derived.Deep.Slices
import Derived.Test.YtfggahkimconfaaDoorRows
import Derived.ProofKit
import Derived.OpenShut
import Derived.LaidMore
import Derived.Stop.Joined
import Derived.ChangeMaps5

/- A slice that came in, opened, whatever its members are. -/
namespace Go.Proofs.YtfggahkimconfaaDoor
open Go.ChangeShapes Go.WideShapes Go.ChangeAt Go.RowKit
set_option linter.unusedVariables false

theorem open_list {α : Type} {H : Type} {enc : TypeId × Value → H} {w : World} {base : Nat} {T e : TypeId} {size : Nat} (hT : Tryd.prog.underlying T = some (.slice e)) (hsz : Tryd.prog.cellsOf e = size) (hpos : 0 < size) {ok : α → Prop} {val : α → List Value} (hval : ∀ y, (val y).length = size) (hone : ∀ y, ∃ v, (val y)[0]? = some v)
    (hop : ∀ (n : Nat) (cs : List Value) (x : DataW H × List MemPlace), DataW.trod enc Tryd.prog w base (fun _ => true) true n e cs = some x → (∀ m ∈ x.1.weights Tryd.prog e, m ≤ reachBytes) → ∃ y, cs = val y ∧ ok y)
    {a : Option Addr} {len cap : Nat} {d : DataW H} {p : List MemPlace} (h : DataW.Trod enc Tryd.prog w base (fun _ => true) true T (.slice a len cap) d p) (hw : ∀ m ∈ d.weights Tryd.prog T, m ≤ reachBytes) :
    ∃ l : List α, l.length = len ∧ len ≤ cap ∧ cap ≤ 9223372036854775807 ∧ len * Tryd.prog.bytesOf e ≤ reachBytes ∧ (a = none → len = 0 ∧ cap = 0) ∧ (∀ y ∈ l, ok y) ∧
      (len = 0 ∨ ∃ b o, a = some ⟨b, o, none⟩ ∧ b < w.heap.size ∧ ∀ (j : Nat) (y : α), l[j]? = some y → ∀ (i : Nat) (v : Value), (val y)[i]? = some v → w.cell? ⟨b, o + j * size + i, none⟩ = some v) := by
  obtain ⟨fuel, h⟩ := h
  rcases Go.Deep.open_slice hT (by simpa [Value.cells] using h) with ⟨hcs, _⟩ | ⟨ad, len', cap', m, n, D, Pl, hcs, _, hl, hm, hmm, hx, hel⟩
  · simp at hcs
    obtain ⟨rfl, rfl, rfl⟩ := hcs
    exact ⟨[], rfl, by omega, by omega, by simp, fun _ => ⟨rfl, rfl⟩, (fun y hy => by cases hy), .inl rfl⟩
  · simp at hcs
    obtain ⟨rfl, rfl, rfl⟩ := hcs
    unfold maxLen at hm
    have hlm : len ≤ m := by rw [hmm]; split <;> omega
    injection hx with hx _
    have hby : len * Tryd.prog.bytesOf e ≤ reachBytes := by
      have := hw ((((List.range len).map D).length + ((List.range (m - len)).map fun j => D (len + j)).length) * Tryd.prog.bytesOf e) (by
        rw [hx]
        simp [DataW.weights, hT])
      simp only [List.length_map, List.length_range] at this
      exact Nat.le_trans (Nat.mul_le_mul_right _ (by omega)) this
    by_cases h0 : len = 0
    · subst h0
      exact ⟨[], rfl, by omega, by omega, hby, (fun e => by cases e), (fun y hy => by cases hy), .inl rfl⟩
    have hwi : ∀ i, i < len → ∀ k ∈ (D i).weights Tryd.prog e, k ≤ reachBytes := by
      intro i hi k hk
      refine hw k ?_
      rw [hx]
      simp only [DataW.weights, hT]
      refine List.mem_cons_of_mem _ (List.mem_append_left _ (weightsAll_mem hk ?_))
      exact List.mem_map.2 ⟨i, List.mem_range.2 hi, rfl⟩
    have hE : ∀ i, i < len → ∃ y : α, (∀ (j : Nat) (v : Value), (val y)[j]? = some v → w.cell? ((ad.add (i * size)).add j) = some v) ∧ ok y := by
      intro i hi
      obtain ⟨cs', h1, h2⟩ := hel i (by omega)
      rw [hsz] at h1
      obtain ⟨y, hcs, hfit⟩ := hop _ _ _ h2 (hwi i hi)
      have hc := World.cells?_some h1
      refine ⟨y, fun j v hv => ?_, hfit⟩
      have hj := (List.getElem?_eq_some_iff.1 hv).1
      rw [hval] at hj
      have g := hc.2.2 j (by omega)
      rw [hcs, hv] at g
      exact g
    have hsp : ad = ⟨ad.block, ad.off, none⟩ := by
      obtain ⟨y, g, _⟩ := hE 0 (by omega)
      obtain ⟨v, hv⟩ := hone y
      exact spot_none (w := w) (a := ad) (by simpa [Addr.add] using g 0 v hv)
    have hbl : ad.block < w.heap.size := by
      obtain ⟨y, g, _⟩ := hE 0 (by omega)
      obtain ⟨v, hv⟩ := hone y
      exact World.block_lt_of_cell? w ad (by simpa [Addr.add] using g 0 v hv)
    let F : ∀ i, i < len → α := fun i hi => Classical.choose (hE i hi)
    have hF : ∀ i (hi : i < len), (∀ (j : Nat) (v : Value), (val (F i hi))[j]? = some v → w.cell? ((ad.add (i * size)).add j) = some v) ∧ ok (F i hi) := fun i hi => Classical.choose_spec (hE i hi)
    have hget : ∀ (j : Nat) (z : α), (List.ofFn (fun i : Fin len => F i.1 i.2))[j]? = some z → ∃ hj : j < len, z = F j hj := by
      intro j z hz
      have hj : j < len := by have := (List.getElem?_eq_some_iff.1 hz).1; simpa using this
      refine ⟨hj, ?_⟩
      obtain ⟨_, e⟩ := List.getElem?_eq_some_iff.1 hz
      rw [← e]; simp
    refine ⟨List.ofFn (fun i : Fin len => F i.1 i.2), by simp, hl, by omega, hby, (fun e => by cases e), ?_, .inr ⟨ad.block, ad.off, by rw [← hsp], hbl, ?_⟩⟩
    · intro z hz
      obtain ⟨j, hj, e⟩ := List.getElem_of_mem hz
      obtain ⟨hj', rfl⟩ := hget j z (by rw [List.getElem?_eq_getElem hj, e])
      exact (hF j hj').2
    · intro j z hz i v hv
      obtain ⟨hj, rfl⟩ := hget j z hz
      have := (hF j hj).1 i v hv
      rw [hsp, Addr.add_mid, Addr.add_mid] at this
      exact this

end Go.Proofs.YtfggahkimconfaaDoor

/- Kept numbers that came in within something else. -/
namespace Go.Proofs.YtfggahkimconfaaDoor
open Go.ChangeShapes Go.WideShapes Go.ChangeAt Go.RowKit
set_option linter.unusedVariables false

theorem bytes_eight : Tryd.prog.bytesOf 3 = 8 := by kernel_rfl
theorem cellsBo : Tryd.prog.cellsOf 4 = 1 := by kernel_rfl
theorem cellsSl : Tryd.prog.cellsOf 60 = 1 := by kernel_rfl
theorem take_one_any {l : List Value} {j : Nat} (hj : j < l.length) : ∃ v, (l.drop j).take 1 = [v] ∧ l[j]? = some v := by
  refine ⟨l[j], ?_, List.getElem?_eq_getElem hj⟩
  rw [List.drop_eq_getElem_cons hj]
  rfl
/-- The kept numbers of an act. -/
theorem kept_open {H : Type} {enc : TypeId × Value → H} {W : World} {base : Nat} {fuel : Nat} {cs : List Value} {x : DataW H × List MemPlace}
    (h : DataW.trod enc Tryd.prog W base (fun _ => true) true fuel 60 cs = some x) :
    ∃ (a : Option Addr) (cap : Nat) (kept : List Int), cs = [.slice a kept.length cap] ∧ KeptOf W W.heap.size a kept ∧ (a = none → cap = 0) ∧ (kept.length = 0 ∨ ∃ es ss, x.1 = .slice es ss ∧ kept.length ≤ es.length + ss.length) := by
  rcases open_ints Tryd.underlying60 Tryd.underlying3 (by kernel_rfl) h with ⟨hcs, _⟩ | ⟨ad, len, cap, zs, hcs, _, hl, hm, hz, hd, hcell, hwz⟩
  · exact ⟨none, 0, [], hcs, .inl rfl, fun _ => rfl, .inl rfl⟩
  · have hzl : zs.length = cap := by simpa using hz
    by_cases h0 : len = 0
    · subst h0
      exact ⟨some ad, cap, [], hcs, .inl rfl, (fun e => by cases e), .inl rfl⟩
    · have c0 := hcell 0 (by omega)
      have hx : ad = ⟨ad.block, ad.off, none⟩ := spot_none (w := W) (a := ad) (by simpa [Addr.add] using c0)
      have hkl : (zs.take len).length = len := by simp; omega
      refine ⟨some ad, cap, zs.take len, by rw [hkl]; exact hcs, .inr ⟨ad.block, ad.off, by rw [← hx], ?_, ?_, ?_⟩, (fun e => by cases e), .inr ⟨_, _, by rw [hd], by rw [hkl]; simp [lits]; omega⟩⟩
      · exact World.block_lt_of_cell? W ad (by simpa [Addr.add] using c0)
      · exact World.block_lt_of_cell? W ad (by simpa [Addr.add] using c0)
      · intro j hj
        have hj' : j < len := by omega
        have hg : (zs.take len).getD j 0 = zs.getD j 0 := by simp [List.getD_eq_getElem?_getD, hj']
        have hc := hcell j (by omega)
        rw [hx, Addr.add_mid] at hc
        rw [hg]
        have hb := bounds_i64 (hwz (zs.getD j 0) (by rw [List.getD_eq_getElem?_getD, List.getElem?_eq_getElem (by omega)]; exact List.getElem_mem _))
        exact ⟨hc, hb.1, hb.2⟩

end Go.Proofs.YtfggahkimconfaaDoor

/- The program's table as its text lays it (this text names the code's variable), a world that begins so, and bytes that came in. -/
namespace Go.Proofs.YtfggahkimconfaaDoor
open Go.ChangeShapes Go.WideShapes Go.ChangeAt Go.RowKit
set_option linter.unusedVariables false

theorem gTab : Tryd.prog.globalNamed "larch/sum.halves" = some 0 := by kernel_rfl
theorem tTab : (Tryd.prog.globals[0]?).map (·.type) = some 137 := by kernel_rfl
theorem cells32 : Tryd.prog.cellsOf 132 = 1 := by kernel_rfl

def tabL : List Nat := (List.range 16).map (stepN 4)
theorem tab_said : (Rows.laid_larch_sum_halves : DataW Unit) = .agg (tabL.map fun (n : Nat) => .lit (.int .u32 (n : Int))) := rfl
abbrev laid1 : List (String × DataW Unit) := [("larch/sum.halves", Rows.laid_larch_sum_halves)]

theorem tab_of_laid {W : World} (h : laidMetH Tryd.prog laid1 W) : Tab W := by
  have h' : laidMet Tryd.prog laid1 W := h
  obtain ⟨ps, ⟨g, t, cs, fuel, p, q, hg, ht, hvar, hd, _, _⟩, _⟩ := h'
  obtain rfl := Option.some.inj (gTab.symm.trans hg)
  obtain rfl := Option.some.inj (tTab.symm.trans ht)
  rw [tab_said] at hd
  obtain ⟨xs, m, _, hx, _, hl, hel⟩ := DataW.trod_array Tryd.underlying137 hd
  injection hx with hx _
  injection hx with hx
  intro i hi
  have hi2 := hel i hi
  rw [cells32, Nat.mul_one, List.getElem?_eq_getElem (by omega)] at hi2
  obtain ⟨n, e, hd2, _⟩ := DataW.trod_int Tryd.underlying132 hi2
  have hn : (n : Int) = (stepN 4 i : Nat) := by
    have h1 : (xs.map (·.1))[i]? = some (.lit (.int .u32 n)) := by
      rw [List.getElem?_map, List.getElem?_eq_getElem (by omega), hd2]; rfl
    rw [← hx] at h1
    simp [tabL, hi] at h1
    exact h1.symm
  have hc : cs[i]? = some (.int .u32 n) := by
    have : ((cs.toList.drop i).take 1)[0]? = some (.int .u32 n) := by rw [e]; rfl
    simpa [List.getElem?_take] using this
  have := World.var?_cell gTab hvar i
  rw [this, hc, hn]

/-- The door's own heap meets the condition. -/
theorem door_met (os : Os) (args : Array Value) : laidMetH Tryd.prog laid1 ((World.doorLaid Tryd.prog 600 os).forCall (fun _ _ => 0) ⟨#[], args, []⟩).memory :=
  laidMetH_of_parts3 (fuel := 8) (laidMet_of_run' 8 (by kernel_rfl) (by kernel_rfl)) (by kernel_rfl) (by kernel_rfl)

theorem bytes_arg {H : Type} {enc : TypeId × Value → H} {W : World} {base : Nat} {a : Option Addr} {len cap : Nat} {d : DataW H} {p : List MemPlace}
    (h : DataW.Trod enc Tryd.prog W base (fun _ => true) true 39 (.slice a len cap) d p) :
    ∃ l : List UInt8, BytesOf W a len cap l ∧ (a = none → len = 0 ∧ cap = 0) := by
  obtain ⟨fuel, hf⟩ := h
  rcases open_ints Tryd.underlying39 Tryd.underlying5 (by kernel_rfl) hf with ⟨hcs, _⟩ | ⟨x, l, c, zs, hcs, _, hl, hm, hz, hd, hcell, hwz⟩
  · simp [Value.cells] at hcs
    obtain ⟨rfl, rfl, rfl⟩ := hcs
    exact ⟨[], .inl ⟨rfl, by omega, by omega, .inl ⟨rfl, rfl, rfl⟩⟩, fun _ => ⟨rfl, rfl⟩⟩
  · simp [Value.cells] at hcs
    obtain ⟨rfl, rfl, rfl⟩ := hcs
    have hzl : zs.length = cap := by simpa using hz
    unfold maxLen at hm
    by_cases h0 : len = 0
    · subst h0
      exact ⟨[], .inr ⟨rfl, rfl, by omega, _, rfl⟩, (fun e => by cases e)⟩
    · have c0 := hcell 0 (by omega)
      have hx : x = ⟨x.block, x.off, none⟩ := spot_none (w := W) (a := x) (by simpa [Addr.add] using c0)
      refine ⟨(zs.take len).map fun z => UInt8.ofNat z.toNat, .inl ⟨by simp; omega, hl, by omega, .inr ⟨x.block, x.off, by rw [← hx], ⟨(fun e => by cases e), fun ad e j u hu => ?_⟩⟩⟩, (fun e => by cases e)⟩
      injection e with e
      subst e
      have hj : j < len := by
        have := (List.getElem?_eq_some_iff.1 hu).1
        rw [bv_length] at this
        simp at this
        omega
      have hc := hcell j (by omega)
      rw [hx] at hc
      rw [hc]
      have hmem : zs.getD j 0 ∈ zs := by rw [List.getD_eq_getElem?_getD, List.getElem?_eq_getElem (by omega)]; exact List.getElem_mem _
      have hb := bounds_u8 (hwz _ hmem)
      have hg : (bv ((zs.take len).map fun z => UInt8.ofNat z.toNat))[j]? = some (.int .u8 ((UInt8.ofNat (zs.getD j 0).toNat).toNat : Int)) := by
        have h1 : zs[j]? = some (zs.getD j 0) := by rw [List.getD_eq_getElem?_getD, List.getElem?_eq_getElem (by omega)]; rfl
        simp only [bv, List.getElem?_map, List.getElem?_take, if_pos hj, h1, Option.map_some]
      rw [hg] at hu
      rw [← hu]
      congr 2
      rw [UInt8.toNat_ofNat']
      omega

theorem arg_of_bytes {w : World} {a : Option Addr} {n cap : Nat} {l : List UInt8} (h : BytesOf w a n cap l) (hn : a = none → n = 0 ∧ cap = 0) : Arg w a n cap l := by
  rcases h with ⟨hl, h1, h2, ⟨rfl, rfl, rfl⟩ | ⟨b, o, rfl, h⟩⟩ | ⟨hl, rfl, h2, ad, rfl⟩
  · exact ⟨⟨hl, .inl rfl⟩, h1, h2, hn⟩
  · exact ⟨⟨hl, .inr ⟨b, o, rfl, h⟩⟩, h1, h2, hn⟩
  · exact ⟨⟨hl, .inl rfl⟩, by omega, h2, hn⟩

end Go.Proofs.YtfggahkimconfaaDoor

/- Texts and cuts that came in, opened for the walks. -/
namespace Go.Proofs.YtfggahkimconfaaDoor
open Go.ChangeShapes Go.WideShapes Go.ChangeAt Go.RowKit
set_option linter.unusedVariables false

theorem tab_pos {w : World} (h : Tab w) : 1 ≤ w.heap.size := World.block_lt_of_cell? w ⟨0, 0, none⟩ (h 0 (by omega))
theorem cellsS : Tryd.prog.cellsOf 9 = 1 := by kernel_rfl
theorem cellsCut : Tryd.prog.cellsOf 62 = 2 := by kernel_rfl
theorem bytesS : Tryd.prog.bytesOf 9 = 16 := by kernel_rfl
theorem bytesCut : Tryd.prog.bytesOf 62 = 32 := by kernel_rfl
theorem text_cells {H : Type} {enc : TypeId × Value → H} {w : World} {base : Nat} (n : Nat) (cs : List Value) (x : DataW H × List MemPlace)
    (h : DataW.trod enc Tryd.prog w base (fun _ => true) true n 9 cs = some x) (hw : ∀ m ∈ x.1.weights Tryd.prog 9, m ≤ reachBytes) : ∃ y : List UInt8, cs = [str y] ∧ y.length ≤ 140737488355328 := by
  obtain ⟨s, e1, hx1, hs⟩ := DataW.trod_string Tryd.underlying9 h
  refine ⟨s.data.toList, e1, ?_⟩
  have hm := hw s.data.toList.length (by rw [hx1]; simp [DataW.weights])
  unfold reachBytes at hm
  omega
theorem texts_arg {H : Type} {enc : TypeId × Value → H} {w : World} {base : Nat} {a : Option Addr} {len cap : Nat} {d : DataW H} {p : List MemPlace}
    (h : DataW.Trod enc Tryd.prog w base (fun _ => true) true 22 (.slice a len cap) d p) (hw : ∀ m ∈ d.weights Tryd.prog 22, m ≤ reachBytes) :
    ∃ rs : List (List UInt8), Ts w a len rs ∧ len ≤ 140737488355328 ∧ ∀ r ∈ rs, r.length ≤ 140737488355328 := by
  obtain ⟨l, h1, _, _, h4, _, h5, h6⟩ := open_list Tryd.underlying22 cellsS (by omega) (val := fun y => [str y]) (ok := fun y => y.length ≤ 140737488355328) (fun _ => rfl) (fun y => ⟨_, rfl⟩) text_cells h hw
  rw [bytesS] at h4
  unfold reachBytes at h4
  refine ⟨l, ⟨h1, h6.elim .inl fun ⟨b, o, e, _, hc⟩ => .inr ⟨b, o, e, fun j x hx => ?_⟩⟩, by omega, h5⟩
  have := hc j x hx 0 (str x) rfl
  rw [Nat.mul_one, Nat.add_zero] at this
  exact this
set_option maxRecDepth 100000 in
theorem text_arg {H : Type} {enc : TypeId × Value → H} {W : World} {base b2 : Nat} {v : Value} {d : DataW H} {p : List MemPlace} (hv : Value.okWide Tryd.prog W .any b2 9 v)
    (h : DataW.Trod enc Tryd.prog W base (fun _ => true) true 9 v d p) (hw : ∀ m ∈ d.weights Tryd.prog 9, m ≤ reachBytes) : ∃ s : List UInt8, v = str s ∧ s.length ≤ 140737488355328 := by
  obtain ⟨s, rfl, rfl, _, _⟩ := Go.ChangeMaps.open_string Tryd.underlying9 hv h
  have hm := hw s.data.toList.length (by simp [DataW.weights])
  unfold reachBytes at hm
  exact ⟨s.data.toList, rfl, by omega⟩

theorem cut_cells {H : Type} {enc : TypeId × Value → H} {w : World} {base : Nat} (n : Nat) (cs : List Value) (x : DataW H × List MemPlace)
    (h : DataW.trod enc Tryd.prog w base (fun _ => true) true n 62 cs = some x) (hw : ∀ m ∈ x.1.weights Tryd.prog 62, m ≤ reachBytes) :
    ∃ y : (Int × List Int) × (Option Addr × Nat), cs = [.int .i64 y.1.1, .slice y.2.1 y.1.2.length y.2.2] ∧ KeptOf w w.heap.size y.2.1 y.1.2 := by
  obtain ⟨xs, m, _, rfl, hl, hlen, hf⟩ := DataW.trod_struct Tryd.underlying62 h
  have f0 := hf 0 { name := "N", type := 3, offset := 0, embedded := false, tag := "", pkgPath := "", byteOffset := 0 } rfl
  have f1 := hf 1 { name := "Kept", type := 60, offset := 1, embedded := false, tag := "", pkgPath := "", byteOffset := 8 } rfl
  simp only [cellsI, cellsSl] at f0 f1
  have l2 : xs.length = 2 := hlen
  rw [cellsCut] at hl
  rw [List.getElem?_eq_getElem (by omega)] at f0 f1
  obtain ⟨n0, e0, _, w0⟩ := DataW.trod_int Tryd.underlying3 f0
  obtain ⟨ka, kc, kept, e1, hk, _, _⟩ := kept_open f1
  refine ⟨((n0, kept), (ka, kc)), ?_, hk⟩
  have c0 := take_one e0
  have c1 := take_one e1
  apply List.ext_getElem?
  intro i
  match i with
  | 0 => rw [c0]; rfl
  | 1 => rw [c1]; rfl
  | k + 2 => rw [List.getElem?_eq_none (by omega)]; rfl
theorem cuts_arg {H : Type} {enc : TypeId × Value → H} {w : World} {base : Nat} {a : Option Addr} {len cap : Nat} {d : DataW H} {p : List MemPlace}
    (h : DataW.Trod enc Tryd.prog w base (fun _ => true) true 23 (.slice a len cap) d p) (hw : ∀ m ∈ d.weights Tryd.prog 23, m ≤ reachBytes) :
    ∃ cuts : List (Int × List Int), cuts.length = len ∧ len ≤ 140737488355328 ∧ CutsOf w w.heap.size a cuts := by
  obtain ⟨l, h1, _, _, h4, _, h5, h6⟩ := open_list Tryd.underlying23 cellsCut (by omega) (val := fun (y : (Int × List Int) × (Option Addr × Nat)) => [Value.int .i64 y.1.1, .slice y.2.1 y.1.2.length y.2.2]) (ok := fun y => KeptOf w w.heap.size y.2.1 y.1.2) (fun _ => rfl) (fun y => ⟨_, rfl⟩) cut_cells h hw
  rw [bytesCut] at h4
  unfold reachBytes at h4
  refine ⟨l.map (·.1), by rw [List.length_map, h1], by omega, ?_⟩
  rcases h6 with h6 | ⟨b, o, e, hb, hc⟩
  · exact .inl (List.eq_nil_of_length_eq_zero (by rw [List.length_map]; omega))
  · refine .inr ⟨b, o, e, hb, fun j c hj => ?_⟩
    rw [List.getElem?_map] at hj
    obtain ⟨y, hy, rfl⟩ := Option.map_eq_some_iff.1 hj
    have g0 := hc j y hy 0 _ rfl
    have g1 := hc j y hy 1 _ rfl
    rw [Nat.add_zero] at g0
    exact ⟨g0, y.2.1, y.2.2, g1, h5 y (List.mem_of_getElem? hy)⟩

end Go.Proofs.YtfggahkimconfaaDoor
