/- Joined: CgM CgNa. -/
import Derived.Test.YteooppjbpekepaaGreatDoorJCgL
import Derived.Test.YteooppjbpekepaaGreatDoorJG2
import Derived.Test.YteooppjbpekepaaGreatDoorRows
import Derived.ProofKit
import Derived.OpenShut
import Derived.LaidMore
import Derived.Stop.Joined
import Derived.ChangeMaps5
import Derived.Deep.Strs

/- The walk of CodeBack. -/
namespace Go.Proofs.YteooppjbpekepaaGreatDoor
open Go.RowKit
set_option linter.unusedVariables false
set_option maxRecDepth 100000

def casesN (rs : List InR) : Nat := (rs.map fun r => r.s.n).sum
theorem casesN_take {rs : List InR} {k : Nat} {r : InR} (h : rs[k]? = some r) : casesN (rs.take (k + 1)) = casesN (rs.take k) + r.s.n := by
  obtain ⟨hk, e⟩ := List.getElem?_eq_some_iff.1 h
  unfold casesN
  rw [List.take_succ_eq_append_getElem hk, e]
  simp
theorem sizes_cases : ∀ rs : List InR, sizesR rs = 16 * rs.length + 8 * casesN rs
  | [] => rfl
  | r :: rs => by
    have := sizes_cases rs
    unfold sizesR casesN at *
    simp only [List.map_cons, List.sum_cons, List.length_cons]
    omega
def light_post (n : Nat) (rs : List InR) (w : World) (e : Ending) (w' : World) : Prop := ∃ b, e = .returned (.bool b) ∧ (b = true → n + casesN rs < 6000) ∧ Below w.heap.size w w'
theorem InArg.below9 {w w' : World} {r : InR} (h : InArg w r) (f : Below w.heap.size w w') : InArg w' r := ⟨h.ls.below f, h.cs, h.op, h.a, h.b⟩
theorem own_form9 {w : World} {B : Nat} {bs : List UInt8} {v : Value} (h : w.ownsRow B 5 1 v bs.length (bv bs)) : ∃ a c, v = .slice a bs.length c := by
  rcases h.2 with ⟨hv, hn⟩ | ⟨g, cap, cur, hv, _⟩
  · exact ⟨none, 0, by rw [hn]; exact hv⟩
  · exact ⟨_, cap, hv⟩
theorem insL_count {bs : List UInt8} {l : List Ins} (h : insL bs bs.length 0 = some l) : l.length ≤ bs.length := by
  have : ∀ (f i : Nat) (l : List Ins), insL bs f i = some l → i ≤ bs.length → i + l.length ≤ bs.length := by
    intro f
    induction f with
    | zero =>
      intro i l h hi
      unfold insL at h
      split at h
      · injection h with h; subst h; simpa using hi
      · cases h
    | succ f ih =>
      intro i l h hi
      unfold insL at h
      split at h
      · injection h with h; subst h; simpa using hi
      · obtain ⟨⟨x, j⟩, h1, h⟩ := Option.bind_eq_some_iff.1 h
        obtain ⟨r, h2, h⟩ := Option.bind_eq_some_iff.1 h
        injection h with h
        subst h
        have hs := insR_some h1
        have := ih j r h2 hs.2.1
        simp
        omega
  have := this _ 0 l h (Nat.zero_le _)
  omega
end Go.Proofs.YteooppjbpekepaaGreatDoor

/- (CgN, what needs only the short forms.) What came in, opened: instructions with their cases; the two tables of the landed code as its text lays them. -/
namespace Go.Proofs.YteooppjbpekepaaGreatDoor
open Go.ChangeShapes Go.WideShapes Go.ChangeAt Go.RowKit
set_option linter.unusedVariables false
set_option maxRecDepth 100000

theorem st_len9 {H : Type} {enc : TypeId × Value → H} {w : World} {base n k : Nat} {T : TypeId} {fs : Array Field} {cs : List Value} {x : DataW H × List MemPlace} (hT : Tryz.prog.underlying T = some (.struct fs)) (hk : Tryz.prog.cellsOf T = k)
    (h : DataW.trod enc Tryz.prog w base (fun _ => true) true n T cs = some x) : cs.length = k := by
  obtain ⟨xs, m, _, rfl, hl, hlen, hg⟩ := DataW.trod_struct hT h
  rw [hl, hk]
theorem ca_cells {H : Type} {enc : TypeId × Value → H} {w : World} {base : Nat} (n : Nat) (cs : List Value) (x : DataW H × List MemPlace)
    (h : DataW.trod enc Tryz.prog w base (fun _ => true) true n 99 cs = some x) (hw : ∀ m ∈ x.1.weights Tryz.prog 99, m ≤ reachBytes) :
    ∃ y : Cas, cs = cac y ∧ Rg y.key ∧ Rg y.to_ := by
  have hl : cs.length = 2 := st_len9 Tryz.underlying99 (by kernel_rfl) h
  obtain ⟨_, y0, g0, w0⟩ := st_field Tryz.underlying99 h hw (i := 0) rfl
  obtain ⟨v0, c0, f0⟩ := int_leaf (o := 0) g0
  obtain ⟨_, y1, g1, w1⟩ := st_field Tryz.underlying99 h hw (i := 1) rfl
  obtain ⟨v1, c1, f1⟩ := int_leaf (o := 1) g1
  refine ⟨⟨v0, v1⟩, ?_, ⟨f0, f1⟩⟩
  apply List.ext_getElem?
  intro i
  match i with
  | 0 => rw [c0]; rfl
  | 1 => rw [c1]; rfl
  | k + 2 => rw [List.getElem?_eq_none (by omega)]; rfl
theorem in_cells {H : Type} {enc : TypeId × Value → H} {w : World} {base : Nat} (n : Nat) (cs : List Value) (x : DataW H × List MemPlace)
    (h : DataW.trod enc Tryz.prog w base (fun _ => true) true n 57 cs = some x) (hw : ∀ m ∈ x.1.weights Tryz.prog 57, m ≤ reachBytes) :
    ∃ y : InR, cs = inc y ∧ InArg w y ∧ y.s.n ≤ 140737488355328 := by
  have hl : cs.length = 5 := st_len9 Tryz.underlying57 (by kernel_rfl) h
  obtain ⟨_, y0, g0, w0⟩ := st_field Tryz.underlying57 h hw (i := 0) rfl
  obtain ⟨v0, c0, f0⟩ := int_leaf (o := 0) g0
  obtain ⟨_, y1, g1, w1⟩ := st_field Tryz.underlying57 h hw (i := 1) rfl
  obtain ⟨v1, c1, f1⟩ := int_leaf (o := 1) g1
  obtain ⟨_, y2, g2, w2⟩ := st_field Tryz.underlying57 h hw (i := 2) rfl
  obtain ⟨v2, c2, f2⟩ := int_leaf (o := 2) g2
  obtain ⟨_, y3, g3, w3⟩ := st_field Tryz.underlying57 h hw (i := 3) rfl
  obtain ⟨v3, c3, f3⟩ := int_leaf (o := 3) g3
  obtain ⟨_, y4, g4, w4⟩ := st_field Tryz.underlying57 h hw (i := 4) rfl
  obtain ⟨v4, c4, t4⟩ := sl_leaf (o := 4) Tryz.underlying55 (by kernel_rfl) g4
  obtain ⟨l, h4⟩ := lin_open (size := 2) (by_ := 16) (ok := fun c : Cas => Rg c.key ∧ Rg c.to_) (val := cac) Tryz.underlying55 (by kernel_rfl) (by kernel_rfl) (by decide) (fun _ => rfl) (fun _ => ⟨_, rfl⟩) (fun n cs x h hw => ca_cells n cs x h hw) t4 w4
  refine ⟨⟨⟨v0, v1, v2, v3, l⟩, v4⟩, ?_, ⟨h4.ls, h4.each, f1, f2, f3⟩, (by have := h4.small; omega : v4.n ≤ 140737488355328)⟩
  apply List.ext_getElem?
  intro i
  match i with
  | 0 => rw [c0]; rfl
  | 1 => rw [c1]; rfl
  | 2 => rw [c2]; rfl
  | 3 => rw [c3]; rfl
  | 4 => rw [c4]; rfl
  | k + 5 => rw [List.getElem?_eq_none (by omega)]; rfl
theorem chunks9 : ∀ (rows : List (List Value)) (cs : List Value) (k : Nat), cs.length = rows.length * k → (∀ (i : Nat) (r : List Value), rows[i]? = some r → (cs.drop (i * k)).take k = r) → cs = rows.flatten
  | [], cs, k, hl, _ => by
    have : cs.length = 0 := by simpa using hl
    exact List.length_eq_zero_iff.1 this
  | r :: rows, cs, k, hl, h => by
    have h0 := h 0 r rfl
    simp only [Nat.zero_mul, List.drop_zero] at h0
    have ih := chunks9 rows (cs.drop k) k (by rw [List.length_drop, hl, List.length_cons, Nat.succ_mul]; omega) (fun i q hq => by
      have := h (i + 1) q (by simpa using hq)
      rw [List.drop_drop]
      rw [Nat.succ_mul, Nat.add_comm] at this
      exact this)
    rw [List.flatten_cons, ← ih, ← h0, List.take_append_drop]
theorem int9 {enc : TypeId × Value → Unit} {w : World} {base m o : Nat} {sp : Nat → Bool} {hd_ : Bool} {T : TypeId} {cs : List Value} {y : DataW Unit × List MemPlace} {a : Int} (hT : Tryz.prog.underlying T = some (.int .i64)) (hc : Tryz.prog.cellsOf T = 1) (h : DataW.trod enc Tryz.prog w base sp hd_ m T ((cs.drop o).take (Tryz.prog.cellsOf T)) = some y) (hy : y.1 = .lit (.int .i64 a)) : cs[o]? = some (.int .i64 a) := by
  rw [hc] at h
  obtain ⟨n0, e0, hd, _⟩ := DataW.trod_int hT h
  rw [hd] at hy
  injection hy with hy
  injection hy with _ hy
  rw [hy] at e0
  exact take_one e0
theorem sf_cells {enc : TypeId × Value → Unit} {w : World} {base n : Nat} {sp : Nat → Bool} {hd_ : Bool} {cs : List Value} {x : DataW Unit × List MemPlace} {a b c d : Int} (h : DataW.trod enc Tryz.prog w base sp hd_ n 101 cs = some x) (hx : x.1 = .agg [.lit (.int .i64 a), .lit (.int .i64 b), .lit (.int .i64 c), .lit (.int .i64 d)]) : cs = [.int .i64 a, .int .i64 b, .int .i64 c, .int .i64 d] := by
  obtain ⟨xs, m, _, rfl, hl, hlen, hf⟩ := DataW.trod_struct Tryz.underlying101 h
  match xs, hlen with
  | [y0, y1, y2, y3], _ =>
    simp only [List.map_cons, List.map_nil] at hx
    injection hx with hx
    injection hx with e0 hx
    injection hx with e1 hx
    injection hx with e2 hx
    injection hx with e3 hx
    have c0 := int9 (o := 0) Tryz.underlying3 (by kernel_rfl) (hf 0 _ rfl) e0
    have c1 := int9 (o := 1) Tryz.underlying3 (by kernel_rfl) (hf 1 _ rfl) e1
    have c2 := int9 (o := 2) Tryz.underlying3 (by kernel_rfl) (hf 2 _ rfl) e2
    have c3 := int9 (o := 3) Tryz.underlying3 (by kernel_rfl) (hf 3 _ rfl) e3
    have hl3 : cs.length = 4 := by rw [hl]; kernel_rfl
    apply List.ext_getElem?
    intro i
    match i with
    | 0 => rw [c0]; rfl
    | 1 => rw [c1]; rfl
    | 2 => rw [c2]; rfl
    | 3 => rw [c3]; rfl
    | k + 4 => rw [List.getElem?_eq_none (by omega)]; rfl
theorem gTab9s : Tryz.prog.globalNamed "larch/code.shortForms" = some 0 := by kernel_rfl
theorem tTab9s : (Tryz.prog.globals[0]?).map (·.type) = some 102 := by kernel_rfl
theorem cells9S : Tryz.prog.cellsOf 101 = 4 := by kernel_rfl
theorem cells9SS : Tryz.prog.cellsOf 102 = 8 * 4 := by kernel_rfl
theorem tab9s_said : (Rows.laid_larch_code_shortForms : DataW Unit) = .agg (shortL.map fun r => .agg [.lit (.int .i64 r.1), .lit (.int .i64 r.2.1), .lit (.int .i64 r.2.2.1), .lit (.int .i64 r.2.2.2)]) := rfl
theorem var_block9 {w : World} {n : String} {g : Nat} {cs : Array Value} (hg : Tryz.prog.globalNamed n = some g) (h : w.var? Tryz.prog n = some cs) : ∃ t fr, w.heap[g]? = some (.cells cs t fr) := by
  simp only [World.var?, hg, Option.bind_some] at h
  split at h
  · rename_i c t fr hb
    cases h
    exact ⟨t, fr, hb⟩
  · cases h
end Go.Proofs.YteooppjbpekepaaGreatDoor
