/- Joined: ArB DkKept SmC1 WpF. -/
import Derived.Test.YtfggahkimconfaaGreatDoorJr
import Derived.Deep.Slices
import Derived.Test.YtfggahkimconfaaGreatDoorRows
import Derived.ProofKit
import Derived.OpenShut
import Derived.LaidMore
import Derived.Stop.Joined
import Derived.ChangeMaps5

/- A slice that came in, opened, whatever its members are. -/
namespace Go.Proofs.YtfggahkimconfaaGreatDoor
open Go.ChangeShapes Go.WideShapes Go.ChangeAt Go.RowKit
set_option linter.unusedVariables false

theorem open_list {α : Type} {H : Type} {enc : TypeId × Value → H} {w : World} {base : Nat} {T e : TypeId} {size : Nat} (hT : Tryz.prog.underlying T = some (.slice e)) (hsz : Tryz.prog.cellsOf e = size) (hpos : 0 < size) {ok : α → Prop} {val : α → List Value} (hval : ∀ y, (val y).length = size) (hone : ∀ y, ∃ v, (val y)[0]? = some v)
    (hop : ∀ (n : Nat) (cs : List Value) (x : DataW H × List MemPlace), DataW.trod enc Tryz.prog w base (fun _ => true) true n e cs = some x → (∀ m ∈ x.1.weights Tryz.prog e, m ≤ reachBytes) → ∃ y, cs = val y ∧ ok y)
    {a : Option Addr} {len cap : Nat} {d : DataW H} {p : List MemPlace} (h : DataW.Trod enc Tryz.prog w base (fun _ => true) true T (.slice a len cap) d p) (hw : ∀ m ∈ d.weights Tryz.prog T, m ≤ reachBytes) :
    ∃ l : List α, l.length = len ∧ len ≤ cap ∧ cap ≤ 9223372036854775807 ∧ len * Tryz.prog.bytesOf e ≤ reachBytes ∧ (a = none → len = 0 ∧ cap = 0) ∧ (∀ y ∈ l, ok y) ∧
      (len = 0 ∨ ∃ b o, a = some ⟨b, o, none⟩ ∧ b < w.heap.size ∧ ∀ (j : Nat) (y : α), l[j]? = some y → ∀ (i : Nat) (v : Value), (val y)[i]? = some v → w.cell? ⟨b, o + j * size + i, none⟩ = some v) := by
  obtain ⟨fuel, h⟩ := h
  rcases Go.Deep.open_slice hT (by simpa [Value.cells] using h) with ⟨hcs, _⟩ | ⟨ad, len', cap', m, n, D, Pl, hcs, _, hl, hm, hmm, hx, hel⟩
  · simp at hcs
    obtain ⟨rfl, rfl, rfl⟩ := hcs
    exact ⟨[], rfl, by omega, by omega, by simp, fun _ => ⟨rfl, rfl⟩, (fun y hy => by cases hy), .inl rfl⟩
  · simp at hcs
    obtain ⟨rfl, rfl, rfl⟩ := hcs
    unfold maxLen at hm
    have hlm : len ≤ m := by rw [hmm]; split <;> omega
    injection hx with hx _
    have hby : len * Tryz.prog.bytesOf e ≤ reachBytes := by
      have := hw ((((List.range len).map D).length + ((List.range (m - len)).map fun j => D (len + j)).length) * Tryz.prog.bytesOf e) (by
        rw [hx]
        simp [DataW.weights, hT])
      simp only [List.length_map, List.length_range] at this
      exact Nat.le_trans (Nat.mul_le_mul_right _ (by omega)) this
    by_cases h0 : len = 0
    · subst h0
      exact ⟨[], rfl, by omega, by omega, hby, (fun e => by cases e), (fun y hy => by cases hy), .inl rfl⟩
    have hwi : ∀ i, i < len → ∀ k ∈ (D i).weights Tryz.prog e, k ≤ reachBytes := by
      intro i hi k hk
      refine hw k ?_
      rw [hx]
      simp only [DataW.weights, hT]
      refine List.mem_cons_of_mem _ (List.mem_append_left _ (weightsAll_mem hk ?_))
      exact List.mem_map.2 ⟨i, List.mem_range.2 hi, rfl⟩
    have hE : ∀ i, i < len → ∃ y : α, (∀ (j : Nat) (v : Value), (val y)[j]? = some v → w.cell? ((ad.add (i * size)).add j) = some v) ∧ ok y := by
      intro i hi
      obtain ⟨cs', h1, h2⟩ := hel i (by omega)
      rw [hsz] at h1
      obtain ⟨y, hcs, hfit⟩ := hop _ _ _ h2 (hwi i hi)
      have hc := World.cells?_some h1
      refine ⟨y, fun j v hv => ?_, hfit⟩
      have hj := (List.getElem?_eq_some_iff.1 hv).1
      rw [hval] at hj
      have g := hc.2.2 j (by omega)
      rw [hcs, hv] at g
      exact g
    have hsp : ad = ⟨ad.block, ad.off, none⟩ := by
      obtain ⟨y, g, _⟩ := hE 0 (by omega)
      obtain ⟨v, hv⟩ := hone y
      exact spot_none (w := w) (a := ad) (by simpa [Addr.add] using g 0 v hv)
    have hbl : ad.block < w.heap.size := by
      obtain ⟨y, g, _⟩ := hE 0 (by omega)
      obtain ⟨v, hv⟩ := hone y
      exact World.block_lt_of_cell? w ad (by simpa [Addr.add] using g 0 v hv)
    let F : ∀ i, i < len → α := fun i hi => Classical.choose (hE i hi)
    have hF : ∀ i (hi : i < len), (∀ (j : Nat) (v : Value), (val (F i hi))[j]? = some v → w.cell? ((ad.add (i * size)).add j) = some v) ∧ ok (F i hi) := fun i hi => Classical.choose_spec (hE i hi)
    have hget : ∀ (j : Nat) (z : α), (List.ofFn (fun i : Fin len => F i.1 i.2))[j]? = some z → ∃ hj : j < len, z = F j hj := by
      intro j z hz
      have hj : j < len := by have := (List.getElem?_eq_some_iff.1 hz).1; simpa using this
      refine ⟨hj, ?_⟩
      obtain ⟨_, e⟩ := List.getElem?_eq_some_iff.1 hz
      rw [← e]; simp
    refine ⟨List.ofFn (fun i : Fin len => F i.1 i.2), by simp, hl, by omega, hby, (fun e => by cases e), ?_, .inr ⟨ad.block, ad.off, by rw [← hsp], hbl, ?_⟩⟩
    · intro z hz
      obtain ⟨j, hj, e⟩ := List.getElem_of_mem hz
      obtain ⟨hj', rfl⟩ := hget j z (by rw [List.getElem?_eq_getElem hj, e])
      exact (hF j hj').2
    · intro j z hz i v hv
      obtain ⟨hj, rfl⟩ := hget j z hz
      have := (hF j hj).1 i v hv
      rw [hsp, Addr.add_mid, Addr.add_mid] at this
      exact this

end Go.Proofs.YtfggahkimconfaaGreatDoor

/- Kept numbers that came in within something else. -/
namespace Go.Proofs.YtfggahkimconfaaGreatDoor
open Go.ChangeShapes Go.WideShapes Go.ChangeAt Go.RowKit
set_option linter.unusedVariables false

theorem bytes_eight : Tryz.prog.bytesOf 3 = 8 := by kernel_rfl
theorem cellsBo : Tryz.prog.cellsOf 4 = 1 := by kernel_rfl
theorem cellsSl : Tryz.prog.cellsOf 39 = 1 := by kernel_rfl
theorem take_one_any {l : List Value} {j : Nat} (hj : j < l.length) : ∃ v, (l.drop j).take 1 = [v] ∧ l[j]? = some v := by
  refine ⟨l[j], ?_, List.getElem?_eq_getElem hj⟩
  rw [List.drop_eq_getElem_cons hj]
  rfl
/-- The kept numbers of an act. -/
theorem kept_open {H : Type} {enc : TypeId × Value → H} {W : World} {base : Nat} {fuel : Nat} {cs : List Value} {x : DataW H × List MemPlace}
    (h : DataW.trod enc Tryz.prog W base (fun _ => true) true fuel 39 cs = some x) :
    ∃ (a : Option Addr) (cap : Nat) (kept : List Int), cs = [.slice a kept.length cap] ∧ KeptOf W W.heap.size a kept ∧ (a = none → cap = 0) ∧ (kept.length = 0 ∨ ∃ es ss, x.1 = .slice es ss ∧ kept.length ≤ es.length + ss.length) := by
  rcases open_ints Tryz.underlying39 Tryz.underlying3 (by kernel_rfl) h with ⟨hcs, _⟩ | ⟨ad, len, cap, zs, hcs, _, hl, hm, hz, hd, hcell, hwz⟩
  · exact ⟨none, 0, [], hcs, .inl rfl, fun _ => rfl, .inl rfl⟩
  · have hzl : zs.length = cap := by simpa using hz
    by_cases h0 : len = 0
    · subst h0
      exact ⟨some ad, cap, [], hcs, .inl rfl, (fun e => by cases e), .inl rfl⟩
    · have c0 := hcell 0 (by omega)
      have hx : ad = ⟨ad.block, ad.off, none⟩ := spot_none (w := W) (a := ad) (by simpa [Addr.add] using c0)
      have hkl : (zs.take len).length = len := by simp; omega
      refine ⟨some ad, cap, zs.take len, by rw [hkl]; exact hcs, .inr ⟨ad.block, ad.off, by rw [← hx], ?_, ?_, ?_⟩, (fun e => by cases e), .inr ⟨_, _, by rw [hd], by rw [hkl]; simp [lits]; omega⟩⟩
      · exact World.block_lt_of_cell? W ad (by simpa [Addr.add] using c0)
      · exact World.block_lt_of_cell? W ad (by simpa [Addr.add] using c0)
      · intro j hj
        have hj' : j < len := by omega
        have hg : (zs.take len).getD j 0 = zs.getD j 0 := by simp [List.getD_eq_getElem?_getD, hj']
        have hc := hcell j (by omega)
        rw [hx, Addr.add_mid] at hc
        rw [hg]
        have hb := bounds_i64 (hwz (zs.getD j 0) (by rw [List.getD_eq_getElem?_getD, List.getElem?_eq_getElem (by omega)]; exact List.getElem_mem _))
        exact ⟨hc, hb.1, hb.2⟩

end Go.Proofs.YtfggahkimconfaaGreatDoor

/- The program's table as its text lays it (this text names the code's variable), a world that begins so, and bytes that came in. -/
namespace Go.Proofs.YtfggahkimconfaaGreatDoor
open Go.ChangeShapes Go.WideShapes Go.ChangeAt Go.RowKit
set_option linter.unusedVariables false

theorem gTab : Tryz.prog.globalNamed "larch/sum.halves" = some 0 := by kernel_rfl
theorem tTab : (Tryz.prog.globals[0]?).map (·.type) = some 150 := by kernel_rfl
theorem cells32 : Tryz.prog.cellsOf 141 = 1 := by kernel_rfl

def tabL : List Nat := (List.range 16).map (stepN 4)
theorem tab_said : (Rows.laid_larch_sum_halves : DataW Unit) = .agg (tabL.map fun (n : Nat) => .lit (.int .u32 (n : Int))) := rfl
abbrev laid1 : List (String × DataW Unit) := [("larch/sum.halves", Rows.laid_larch_sum_halves)]

theorem tab_of_laid {W : World} (h : laidMetH Tryz.prog laid1 W) : Tab W := by
  have h' : laidMet Tryz.prog laid1 W := h
  obtain ⟨ps, ⟨g, t, cs, fuel, p, q, hg, ht, hvar, hd, _, _⟩, _⟩ := h'
  obtain rfl := Option.some.inj (gTab.symm.trans hg)
  obtain rfl := Option.some.inj (tTab.symm.trans ht)
  rw [tab_said] at hd
  obtain ⟨xs, m, _, hx, _, hl, hel⟩ := DataW.trod_array Tryz.underlying150 hd
  injection hx with hx _
  injection hx with hx
  intro i hi
  have hi2 := hel i hi
  rw [cells32, Nat.mul_one, List.getElem?_eq_getElem (by omega)] at hi2
  obtain ⟨n, e, hd2, _⟩ := DataW.trod_int Tryz.underlying141 hi2
  have hn : (n : Int) = (stepN 4 i : Nat) := by
    have h1 : (xs.map (·.1))[i]? = some (.lit (.int .u32 n)) := by
      rw [List.getElem?_map, List.getElem?_eq_getElem (by omega), hd2]; rfl
    rw [← hx] at h1
    simp [tabL, hi] at h1
    exact h1.symm
  have hc : cs[i]? = some (.int .u32 n) := by
    have : ((cs.toList.drop i).take 1)[0]? = some (.int .u32 n) := by rw [e]; rfl
    simpa [List.getElem?_take] using this
  have := World.var?_cell gTab hvar i
  rw [this, hc, hn]

/-- The door's own heap meets the condition. -/
theorem door_met (os : Os) (args : Array Value) : laidMetH Tryz.prog laid1 ((World.doorLaid Tryz.prog 600 os).forCall (fun _ _ => 0) ⟨#[], args, []⟩).memory :=
  laidMetH_of_parts3 (fuel := 8) (laidMet_of_run' 8 (by kernel_rfl) (by kernel_rfl)) (by kernel_rfl) (by kernel_rfl)

theorem bytes_arg {H : Type} {enc : TypeId × Value → H} {W : World} {base : Nat} {a : Option Addr} {len cap : Nat} {d : DataW H} {p : List MemPlace}
    (h : DataW.Trod enc Tryz.prog W base (fun _ => true) true 43 (.slice a len cap) d p) :
    ∃ l : List UInt8, BytesOf W a len cap l ∧ (a = none → len = 0 ∧ cap = 0) := by
  obtain ⟨fuel, hf⟩ := h
  rcases open_ints Tryz.underlying43 Tryz.underlying5 (by kernel_rfl) hf with ⟨hcs, _⟩ | ⟨x, l, c, zs, hcs, _, hl, hm, hz, hd, hcell, hwz⟩
  · simp [Value.cells] at hcs
    obtain ⟨rfl, rfl, rfl⟩ := hcs
    exact ⟨[], .inl ⟨rfl, by omega, by omega, .inl ⟨rfl, rfl, rfl⟩⟩, fun _ => ⟨rfl, rfl⟩⟩
  · simp [Value.cells] at hcs
    obtain ⟨rfl, rfl, rfl⟩ := hcs
    have hzl : zs.length = cap := by simpa using hz
    unfold maxLen at hm
    by_cases h0 : len = 0
    · subst h0
      exact ⟨[], .inr ⟨rfl, rfl, by omega, _, rfl⟩, (fun e => by cases e)⟩
    · have c0 := hcell 0 (by omega)
      have hx : x = ⟨x.block, x.off, none⟩ := spot_none (w := W) (a := x) (by simpa [Addr.add] using c0)
      refine ⟨(zs.take len).map fun z => UInt8.ofNat z.toNat, .inl ⟨by simp; omega, hl, by omega, .inr ⟨x.block, x.off, by rw [← hx], ⟨(fun e => by cases e), fun ad e j u hu => ?_⟩⟩⟩, (fun e => by cases e)⟩
      injection e with e
      subst e
      have hj : j < len := by
        have := (List.getElem?_eq_some_iff.1 hu).1
        rw [bv_length] at this
        simp at this
        omega
      have hc := hcell j (by omega)
      rw [hx] at hc
      rw [hc]
      have hmem : zs.getD j 0 ∈ zs := by rw [List.getD_eq_getElem?_getD, List.getElem?_eq_getElem (by omega)]; exact List.getElem_mem _
      have hb := bounds_u8 (hwz _ hmem)
      have hg : (bv ((zs.take len).map fun z => UInt8.ofNat z.toNat))[j]? = some (.int .u8 ((UInt8.ofNat (zs.getD j 0).toNat).toNat : Int)) := by
        have h1 : zs[j]? = some (zs.getD j 0) := by rw [List.getD_eq_getElem?_getD, List.getElem?_eq_getElem (by omega)]; rfl
        simp only [bv, List.getElem?_map, List.getElem?_take, if_pos hj, h1, Option.map_some]
      rw [hg] at hu
      rw [← hu]
      congr 2
      rw [UInt8.toNat_ofNat']
      omega

theorem arg_of_bytes {w : World} {a : Option Addr} {n cap : Nat} {l : List UInt8} (h : BytesOf w a n cap l) (hn : a = none → n = 0 ∧ cap = 0) : Arg w a n cap l := by
  rcases h with ⟨hl, h1, h2, ⟨rfl, rfl, rfl⟩ | ⟨b, o, rfl, h⟩⟩ | ⟨hl, rfl, h2, ad, rfl⟩
  · exact ⟨⟨hl, .inl rfl⟩, h1, h2, hn⟩
  · exact ⟨⟨hl, .inr ⟨b, o, rfl, h⟩⟩, h1, h2, hn⟩
  · exact ⟨⟨hl, .inl rfl⟩, by omega, h2, hn⟩

end Go.Proofs.YtfggahkimconfaaGreatDoor

/- Acts of WalPlays that came in, opened. -/
namespace Go.Proofs.YtfggahkimconfaaGreatDoor
open Go.ChangeShapes Go.WideShapes Go.ChangeAt Go.RowKit
set_option linter.unusedVariables false

theorem tab_posP {w : World} (h : Tab w) : 1 ≤ w.heap.size := World.block_lt_of_cell? w ⟨0, 0, none⟩ (h 0 (by omega))
theorem cellsSP : Tryz.prog.cellsOf 9 = 1 := by kernel_rfl
theorem cellsBP : Tryz.prog.cellsOf 5 = 1 := by kernel_rfl
theorem cellsActP : Tryz.prog.cellsOf 41 = 6 := by kernel_rfl
theorem bytesActP : Tryz.prog.bytesOf 41 = 72 := by kernel_rfl

theorem pact_cells {H : Type} {enc : TypeId × Value → H} {w : World} {base : Nat} (n : Nat) (cs : List Value) (x : DataW H × List MemPlace)
    (h : DataW.trod enc Tryz.prog w base (fun _ => true) true n 41 cs = some x) (hw : ∀ m ∈ x.1.weights Tryz.prog 41, m ≤ reachBytes) :
    ∃ y : PAct, cs = y.cells.toList ∧ POk w y := by
  obtain ⟨xs, m, _, rfl, hl, hlen, hf⟩ := DataW.trod_struct Tryz.underlying41 h
  have f0 := hf 0 { name := "Do", type := 3, offset := 0, embedded := false, tag := "", pkgPath := "", byteOffset := 0 } rfl
  have f1 := hf 1 { name := "At", type := 3, offset := 1, embedded := false, tag := "", pkgPath := "", byteOffset := 8 } rfl
  have f2 := hf 2 { name := "N", type := 3, offset := 2, embedded := false, tag := "", pkgPath := "", byteOffset := 16 } rfl
  have f3 := hf 3 { name := "Byte", type := 5, offset := 3, embedded := false, tag := "", pkgPath := "", byteOffset := 24 } rfl
  have f4 := hf 4 { name := "Data", type := 9, offset := 4, embedded := false, tag := "", pkgPath := "", byteOffset := 32 } rfl
  have f5 := hf 5 { name := "Kept", type := 39, offset := 5, embedded := false, tag := "", pkgPath := "", byteOffset := 48 } rfl
  simp only [cellsI, cellsBP, cellsSP, cellsSl] at f0 f1 f2 f3 f4 f5
  have l6 : xs.length = 6 := hlen
  rw [cellsActP] at hl
  rw [List.getElem?_eq_getElem (by omega)] at f0 f1 f2 f3 f4 f5
  obtain ⟨n0, e0, _, _⟩ := DataW.trod_int Tryz.underlying3 f0
  obtain ⟨n1, e1, _, _⟩ := DataW.trod_int Tryz.underlying3 f1
  obtain ⟨n2, e2, _, w2⟩ := DataW.trod_int Tryz.underlying3 f2
  obtain ⟨n3, e3, _, w3⟩ := DataW.trod_int Tryz.underlying5 f3
  obtain ⟨s4, e4, _, _⟩ := DataW.trod_string Tryz.underlying9 f4
  obtain ⟨ka, kc, kept, e5, hk, _, _⟩ := kept_open f5
  have b3 := bounds_u8 w3
  have b2 := bounds_i64 w2
  refine ⟨⟨n0, n1, n2, UInt8.ofNat n3.toNat, s4.data.toList, kept, ka, kc⟩, ?_, ⟨b2.2, hk⟩⟩
  have e : ((UInt8.ofNat n3.toNat).toNat : Int) = n3 := by simp; omega
  have c0 := take_one e0
  have c1 := take_one e1
  have c2 := take_one e2
  have c3 := take_one e3
  have c4 := take_one e4
  have c5 := take_one e5
  unfold PAct.cells
  rw [e]
  apply List.ext_getElem?
  intro i
  match i with
  | 0 => rw [c0]; rfl
  | 1 => rw [c1]; rfl
  | 2 => rw [c2]; rfl
  | 3 => rw [c3]; rfl
  | 4 => rw [c4]; rfl
  | 5 => rw [c5]; rfl
  | k + 6 => rw [List.getElem?_eq_none (by omega)]; rfl
theorem pacts_arg {H : Type} {enc : TypeId × Value → H} {w : World} {base : Nat} {a : Option Addr} {len cap : Nat} {d : DataW H} {p : List MemPlace}
    (h : DataW.Trod enc Tryz.prog w base (fun _ => true) true 22 (.slice a len cap) d p) (hw : ∀ m ∈ d.weights Tryz.prog 22, m ≤ reachBytes) :
    ∃ l : List PAct, l.length = len ∧ len ≤ 9223372036854775807 ∧ (len = 0 ∨ ∃ b o, a = some ⟨b, o, none⟩ ∧ b < w.heap.size ∧ ∀ (j : Nat) (x : PAct), l[j]? = some x → FullP w b (o + j * 6) x ∧ POk w x) := by
  obtain ⟨l, h1, h2, h3, h4, _, h5, h6⟩ := open_list Tryz.underlying22 cellsActP (by omega) (val := fun (y : PAct) => y.cells.toList) (ok := fun y => POk w y) (fun _ => rfl) (fun y => ⟨_, rfl⟩) pact_cells h hw
  refine ⟨l, h1, by omega, ?_⟩
  rcases h6 with h6 | ⟨b, o, e, hb, hc⟩
  · exact .inl h6
  · refine .inr ⟨b, o, e, hb, fun j y hj => ⟨⟨?_, hc j y hj 1 _ rfl, hc j y hj 2 _ rfl, hc j y hj 3 _ rfl, hc j y hj 4 _ rfl, hc j y hj 5 _ rfl⟩, h5 y (List.mem_of_getElem? hj)⟩⟩
    have := hc j y hj 0 _ rfl
    rw [Nat.add_zero] at this
    exact this

end Go.Proofs.YtfggahkimconfaaGreatDoor
