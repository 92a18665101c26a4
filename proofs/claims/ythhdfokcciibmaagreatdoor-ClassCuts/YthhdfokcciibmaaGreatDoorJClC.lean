/- The records of a class that came in, opened. -/
import Derived.Test.YthhdfokcciibmaaGreatDoorJClB
import Derived.ChangeMaps5

namespace Go.Proofs.YthhdfokcciibmaaGreatDoor
open Go.ChangeShapes Go.WideShapes Go.ChangeAt Go.RowKit
set_option linter.unusedVariables false
set_option maxRecDepth 100000

theorem st_len {H : Type} {enc : TypeId × Value → H} {w : World} {base n k : Nat} {T : TypeId} {fs : Array Field} {cs : List Value} {x : DataW H × List MemPlace} (hT : Tryz.prog.underlying T = some (.struct fs)) (hk : Tryz.prog.cellsOf T = k)
    (h : DataW.trod enc Tryz.prog w base (fun _ => true) true n T cs = some x) : cs.length = k := by
  obtain ⟨xs, m, _, rfl, hl, hlen, hg⟩ := DataW.trod_struct hT h
  rw [hl, hk]
theorem ty_cells {H : Type} {enc : TypeId × Value → H} {w : World} {base : Nat} (n : Nat) (cs : List Value) (x : DataW H × List MemPlace)
    (h : DataW.trod enc Tryz.prog w base (fun _ => true) true n 143 cs = some x) (hw : ∀ m ∈ x.1.weights Tryz.prog 143, m ≤ reachBytes) :
    ∃ y : Ty, cs = tyc y ∧ TyFit y := by
  have hl : cs.length = 2 := st_len Tryz.underlying143 (by kernel_rfl) h
  obtain ⟨_, y0, g0, w0⟩ := st_field Tryz.underlying143 h hw (i := 0) rfl
  obtain ⟨v0, c0, f0⟩ := int_leaf (o := 0) g0
  obtain ⟨_, y1, g1, w1⟩ := st_field Tryz.underlying143 h hw (i := 1) rfl
  obtain ⟨v1, c1, f1⟩ := str_leaf (o := 1) g1 w1
  refine ⟨⟨v0, v1⟩, ?_, ⟨f0, f1⟩⟩
  apply List.ext_getElem?
  intro i
  match i with
  | 0 => rw [c0]; rfl
  | 1 => rw [c1]; rfl
  | k + 2 => rw [List.getElem?_eq_none (by omega)]; rfl
theorem hd_cells {H : Type} {enc : TypeId × Value → H} {w : World} {base : Nat} (n : Nat) (cs : List Value) (x : DataW H × List MemPlace)
    (h : DataW.trod enc Tryz.prog w base (fun _ => true) true n 93 cs = some x) (hw : ∀ m ∈ x.1.weights Tryz.prog 93, m ≤ reachBytes) :
    ∃ y : Hd, cs = hdc y ∧ HdFit y := by
  have hl : cs.length = 4 := st_len Tryz.underlying93 (by kernel_rfl) h
  obtain ⟨_, y0, g0, w0⟩ := st_field Tryz.underlying93 h hw (i := 0) rfl
  obtain ⟨v0, c0, f0⟩ := int_leaf (o := 0) g0
  obtain ⟨_, y1, g1, w1⟩ := st_field Tryz.underlying93 h hw (i := 1) rfl
  obtain ⟨v1, c1, f1⟩ := int_leaf (o := 1) g1
  obtain ⟨_, y2, g2, w2⟩ := st_field Tryz.underlying93 h hw (i := 2) rfl
  obtain ⟨v2, c2, f2⟩ := int_leaf (o := 2) g2
  obtain ⟨_, y3, g3, w3⟩ := st_field Tryz.underlying93 h hw (i := 3) rfl
  obtain ⟨v3, c3, f3⟩ := int_leaf (o := 3) g3
  refine ⟨⟨v0, v1, v2, v3⟩, ?_, ⟨f0, f1, f2, f3⟩⟩
  apply List.ext_getElem?
  intro i
  match i with
  | 0 => rw [c0]; rfl
  | 1 => rw [c1]; rfl
  | 2 => rw [c2]; rfl
  | 3 => rw [c3]; rfl
  | k + 4 => rw [List.getElem?_eq_none (by omega)]; rfl
theorem fd_cells {H : Type} {enc : TypeId × Value → H} {w : World} {base : Nat} (n : Nat) (cs : List Value) (x : DataW H × List MemPlace)
    (h : DataW.trod enc Tryz.prog w base (fun _ => true) true n 58 cs = some x) (hw : ∀ m ∈ x.1.weights Tryz.prog 58, m ≤ reachBytes) :
    ∃ y : Fd, cs = fdc y ∧ FdFit y := by
  have hl : cs.length = 3 := st_len Tryz.underlying58 (by kernel_rfl) h
  obtain ⟨_, y0, g0, w0⟩ := st_field Tryz.underlying58 h hw (i := 0) rfl
  obtain ⟨v0, c0, f0⟩ := int_leaf (o := 0) g0
  obtain ⟨_, y1, g1, w1⟩ := st_field Tryz.underlying58 h hw (i := 1) rfl
  obtain ⟨v1, c1, f1⟩ := str_leaf (o := 1) g1 w1
  obtain ⟨_, y2, g2, w2⟩ := st_field Tryz.underlying58 h hw (i := 2) rfl
  obtain ⟨v2, c2, f2⟩ := str_leaf (o := 2) g2 w2
  refine ⟨⟨v0, v1, v2⟩, ?_, ⟨f0, f1, f2⟩⟩
  apply List.ext_getElem?
  intro i
  match i with
  | 0 => rw [c0]; rfl
  | 1 => rw [c1]; rfl
  | 2 => rw [c2]; rfl
  | k + 3 => rw [List.getElem?_eq_none (by omega)]; rfl
theorem tys_open {H : Type} {enc : TypeId × Value → H} {w : World} {base : Nat} {s : Sl} {d : DataW H} {p : List MemPlace} (h : DataW.Trod enc Tryz.prog w base (fun _ => true) true 50 s.v d p) (hw : ∀ m ∈ d.weights Tryz.prog 50, m ≤ reachBytes) : ∃ l, TysIn w s l :=
  lin_open (size := 2) Tryz.underlying50 (by kernel_rfl) (by kernel_rfl) (by decide) (fun _ => rfl) (fun _ => ⟨_, rfl⟩) ty_cells h hw
theorem mp_cells {H : Type} {enc : TypeId × Value → H} {w : World} {base : Nat} (n : Nat) (cs : List Value) (x : DataW H × List MemPlace)
    (h : DataW.trod enc Tryz.prog w base (fun _ => true) true n 52 cs = some x) (hw : ∀ m ∈ x.1.weights Tryz.prog 52, m ≤ reachBytes) :
    ∃ y : MpR, cs = mpc y ∧ MpIn w y := by
  have hl : cs.length = 3 := st_len Tryz.underlying52 (by kernel_rfl) h
  obtain ⟨_, y0, g0, w0⟩ := st_field Tryz.underlying52 h hw (i := 0) rfl
  obtain ⟨v0, c0, f0⟩ := int_leaf (o := 0) g0
  obtain ⟨_, y1, g1, w1⟩ := st_field Tryz.underlying52 h hw (i := 1) rfl
  obtain ⟨v1, c1, t1⟩ := sl_leaf (o := 1) Tryz.underlying50 (by kernel_rfl) g1
  obtain ⟨_, y2, g2, w2⟩ := st_field Tryz.underlying52 h hw (i := 2) rfl
  obtain ⟨v2, c2, t2⟩ := sl_leaf (o := 2) Tryz.underlying50 (by kernel_rfl) g2
  obtain ⟨l1, h1⟩ := tys_open t1 w1
  obtain ⟨l2, h2⟩ := tys_open t2 w2
  refine ⟨⟨⟨v0, l1, l2⟩, v1, v2⟩, ?_, ⟨f0, h1, h2⟩⟩
  apply List.ext_getElem?
  intro i
  match i with
  | 0 => rw [c0]; rfl
  | 1 => rw [c1]; rfl
  | 2 => rw [c2]; rfl
  | k + 3 => rw [List.getElem?_eq_none (by omega)]; rfl
theorem cd_cells {H : Type} {enc : TypeId × Value → H} {w : World} {base : Nat} (n : Nat) (cs : List Value) (x : DataW H × List MemPlace)
    (h : DataW.trod enc Tryz.prog w base (fun _ => true) true n 47 cs = some x) (hw : ∀ m ∈ x.1.weights Tryz.prog 47, m ≤ reachBytes) :
    ∃ (st lo : Int) (b hh mm : Sl) (lb : List UInt8) (lh : List Hd) (lm : List MpR), cs[0]? = some (.int .i64 st) ∧ cs[1]? = some (.int .i64 lo) ∧ cs[2]? = some b.v ∧ cs[3]? = some hh.v ∧ cs[4]? = some mm.v ∧ fitI st ∧ fitI lo ∧ Arg w b.a b.n b.c lb ∧ b.n ≤ 140737488351232 ∧ LIn 4 32 hdc HdFit w hh lh ∧ LIn 3 56 mpc (MpIn w) w mm lm := by
  obtain ⟨_, y0, g0, w0⟩ := st_field Tryz.underlying47 h hw (i := 0) rfl
  obtain ⟨v0, c0, f0⟩ := int_leaf (o := 0) g0
  obtain ⟨_, y1, g1, w1⟩ := st_field Tryz.underlying47 h hw (i := 1) rfl
  obtain ⟨v1, c1, f1⟩ := int_leaf (o := 1) g1
  obtain ⟨_, y2, g2, w2⟩ := st_field Tryz.underlying47 h hw (i := 2) rfl
  obtain ⟨v2, c2, t2⟩ := sl_leaf (o := 2) Tryz.underlying29 (by kernel_rfl) g2
  obtain ⟨_, y3, g3, w3⟩ := st_field Tryz.underlying47 h hw (i := 3) rfl
  obtain ⟨v3, c3, t3⟩ := sl_leaf (o := 3) Tryz.underlying44 (by kernel_rfl) g3
  obtain ⟨_, y4, g4, w4⟩ := st_field Tryz.underlying47 h hw (i := 4) rfl
  obtain ⟨v4, c4, t4⟩ := sl_leaf (o := 4) Tryz.underlying45 (by kernel_rfl) g4
  obtain ⟨lb, h2, h2n⟩ := arg6 t2 w2
  obtain ⟨lh, h3⟩ := lin_open (size := 4) Tryz.underlying44 (by kernel_rfl) (by kernel_rfl) (by decide) (fun _ => rfl) (fun _ => ⟨_, rfl⟩) hd_cells t3 w3
  obtain ⟨lm, h4⟩ := lin_open (size := 3) Tryz.underlying45 (by kernel_rfl) (by kernel_rfl) (by decide) (fun _ => rfl) (fun _ => ⟨_, rfl⟩) mp_cells t4 w4
  exact ⟨v0, v1, v2, v3, v4, lb, lh, lm, c0, c1, c2, c3, c4, f0, f1, h2, h2n, h3, h4⟩
theorem md_cells {H : Type} {enc : TypeId × Value → H} {w : World} {base : Nat} (n : Nat) (cs : List Value) (x : DataW H × List MemPlace)
    (h : DataW.trod enc Tryz.prog w base (fun _ => true) true n 49 cs = some x) (hw : ∀ m ∈ x.1.weights Tryz.prog 49, m ≤ reachBytes) :
    ∃ y : MdR, cs = mdc y ∧ MdIn w y := by
  have hl : cs.length = 8 := st_len Tryz.underlying49 (by kernel_rfl) h
  obtain ⟨_, y0, g0, w0⟩ := st_field Tryz.underlying49 h hw (i := 0) rfl
  obtain ⟨v0, c0, f0⟩ := int_leaf (o := 0) g0
  obtain ⟨_, y1, g1, w1⟩ := st_field Tryz.underlying49 h hw (i := 1) rfl
  obtain ⟨v1, c1, f1⟩ := str_leaf (o := 1) g1 w1
  obtain ⟨_, y2, g2, w2⟩ := st_field Tryz.underlying49 h hw (i := 2) rfl
  obtain ⟨v2, c2, f2⟩ := str_leaf (o := 2) g2 w2
  obtain ⟨_, y3, g3, w3⟩ := st_field Tryz.underlying49 h hw (i := 3) rfl
  obtain ⟨st, lo, b, hh, mm, lb, lh, lm, d0, d1, d2, d3, d4, e0, e1, e2, e3, e4, e5⟩ := cd_cells _ _ _ g3 w3
  have hc : Tryz.prog.cellsOf 47 = 5 := by kernel_rfl
  have key : ∀ j, j < 5 → ((cs.drop 3).take (Tryz.prog.cellsOf 47))[j]? = cs[3 + j]? := fun j hj => by
    rw [hc, List.getElem?_take_of_lt hj, List.getElem?_drop]
  have c3 := (key 0 (by decide)).symm.trans d0
  have c4 := (key 1 (by decide)).symm.trans d1
  have c5 := (key 2 (by decide)).symm.trans d2
  have c6 := (key 3 (by decide)).symm.trans d3
  have c7 := (key 4 (by decide)).symm.trans d4
  refine ⟨⟨⟨v0, v1, v2, ⟨st, lo, lb, lh, lm.map MpR.m⟩⟩, b, hh, mm, lm⟩, ?_, ⟨f0, f1, f2, e0, e1, e2, e3, e4, e5, rfl⟩⟩
  apply List.ext_getElem?
  intro i
  match i with
  | 0 => rw [c0]; rfl
  | 1 => rw [c1]; rfl
  | 2 => rw [c2]; rfl
  | 3 => rw [c3]; rfl
  | 4 => rw [c4]; rfl
  | 5 => rw [c5]; rfl
  | 6 => rw [c6]; rfl
  | 7 => rw [c7]; rfl
  | k + 8 => rw [List.getElem?_eq_none (by omega)]; rfl
/-- A class that came in. -/
theorem class_arg {H : Type} {enc : TypeId × Value → H} {W : World} {base b2 : Nat} {v : Value} {d : DataW H} {p : List MemPlace} (hv : Value.okWide Tryz.prog W .any b2 26 v)
    (h0 : DataW.Trod enc Tryz.prog W base (fun _ => true) true 26 v d p) (hw : ∀ m ∈ d.weights Tryz.prog 26, m ≤ reachBytes) : ∃ r : ClR, v = r.v ∧ CIn W r := by
  obtain ⟨fuel, h⟩ := h0
  simp only [Value.okWide, Tryz.underlying26] at hv
  obtain ⟨cs0, rfl, _⟩ := hv
  have hl := st_len Tryz.underlying26 (k := 5) (by kernel_rfl) h
  obtain ⟨_, y0, g0, w0⟩ := st_field Tryz.underlying26 h hw (i := 0) rfl
  obtain ⟨v0, c0, t0⟩ := sl_leaf (o := 0) Tryz.underlying22 (by kernel_rfl) g0
  obtain ⟨_, y1, g1, w1⟩ := st_field Tryz.underlying26 h hw (i := 1) rfl
  obtain ⟨v1, c1, f1⟩ := str_leaf (o := 1) g1 w1
  obtain ⟨_, y2, g2, w2⟩ := st_field Tryz.underlying26 h hw (i := 2) rfl
  obtain ⟨v2, c2, f2⟩ := str_leaf (o := 2) g2 w2
  obtain ⟨_, y3, g3, w3⟩ := st_field Tryz.underlying26 h hw (i := 3) rfl
  obtain ⟨v3, c3, t3⟩ := sl_leaf (o := 3) Tryz.underlying23 (by kernel_rfl) g3
  obtain ⟨_, y4, g4, w4⟩ := st_field Tryz.underlying26 h hw (i := 4) rfl
  obtain ⟨v4, c4, t4⟩ := sl_leaf (o := 4) Tryz.underlying24 (by kernel_rfl) g4
  obtain ⟨l0, h0⟩ := ents_arg t0 w0
  obtain ⟨l3, h3⟩ := lin_open (size := 3) Tryz.underlying23 (by kernel_rfl) (by kernel_rfl) (by decide) (fun _ => rfl) (fun _ => ⟨_, rfl⟩) fd_cells t3 w3
  obtain ⟨l4, h4⟩ := lin_open (size := 8) Tryz.underlying24 (by kernel_rfl) (by kernel_rfl) (by decide) (fun _ => rfl) (fun _ => ⟨_, rfl⟩) md_cells t4 w4
  refine ⟨⟨⟨l0, v1, v2, l3, l4.map MdR.m⟩, v0, v3, v4, l4⟩, ?_, ⟨h0, f1, f2, h3, h4, rfl⟩⟩
  unfold ClR.v
  congr 1
  apply Array.toList_inj.1
  have hcs : (Value.agg cs0).cells.toList = cs0.toList := by simp [Value.cells]
  rw [hcs] at c0 c1 c2 c3 c4 hl
  apply List.ext_getElem?
  intro i
  match i with
  | 0 => rw [c0]; rfl
  | 1 => rw [c1]; rfl
  | 2 => rw [c2]; rfl
  | 3 => rw [c3]; rfl
  | 4 => rw [c4]; rfl
  | k + 5 => rw [List.getElem?_eq_none (by omega)]; rfl
/-- A text that came in. -/
theorem str_arg {H : Type} {enc : TypeId × Value → H} {W : World} {base b2 : Nat} {v : Value} {d : DataW H} {p : List MemPlace} (hv : Value.okWide Tryz.prog W .any b2 9 v)
    (h : DataW.Trod enc Tryz.prog W base (fun _ => true) true 9 v d p) (hw : ∀ m ∈ d.weights Tryz.prog 9, m ≤ reachBytes) : ∃ s : List UInt8, v = .string ⟨s.toArray⟩ ∧ fitS s := by
  obtain ⟨s, rfl, rfl, _, _⟩ := Go.ChangeMaps.open_string Tryz.underlying9 hv h
  have hm := hw s.data.toList.length (by simp [DataW.weights])
  exact ⟨s.data.toList, rfl, str_len (H := H) hm⟩

end Go.Proofs.YthhdfokcciibmaaGreatDoor
