/- Joined: HpJ HpL HpO HpQ. -/
import Derived.Test.YtnnanlniffjnkaaJY2
import Derived.Test.YtnnanlniffjnkaaJX3
import Derived.Test.YtnnanlniffjnkaaJY3
import Derived.Test.YtnnanlniffjnkaaJY0
import Derived.Test.YtnnanlniffjnkaaJX2

/- Layer 15, the landed code: Put. -/
namespace Go.Proofs.Ytnnanlniffjnkaa
open Go.RowKit
set_option linter.unusedVariables false
set_option maxRecDepth 100000

end Go.Proofs.Ytnnanlniffjnkaa

/- Layer 15, the landed code: Set. -/
namespace Go.Proofs.Ytnnanlniffjnkaa
open Go.RowKit
set_option linter.unusedVariables false
set_option maxRecDepth 100000

end Go.Proofs.Ytnnanlniffjnkaa

/- Layer 15: the chapter's example. -/
namespace Go.Proofs.Ytnnanlniffjnkaa
open Go.RowKit
set_option linter.unusedVariables false
set_option maxRecDepth 100000

theorem wsIn_one (w : World) (v : Vl) : WsIn (w.alloc (.cells #[.int .i64 v.kind, .int .i64 v.n] 47)) ⟨some ⟨w.heap.size, 0, none⟩, 1, 1⟩ [v] :=
  ⟨ls_one w _ _ v rfl, Nat.le_refl _, by simp, (fun e => by cases e), by simp, fun _ _ => trivial⟩
def obA : Ob := ⟨[97], []⟩
def obB : Ob := ⟨[98], [⟨1, 7⟩]⟩
def obC : Ob := ⟨[99], []⟩
/-- Put, where it is known that it answers. -/
theorem putPost.ok {w : World} {l : List Ob} {x : Ob} {e : Ending} {w' : World} (h : putPost w l x e w') (h0 : putEH l x = 0) : Below w.heap.size w w' ∧ ∃ s rs, HIn w' s rs ∧ rs.map ObR.o = putLH l x ∧ e = .returned (.tuple #[s.v, .int .i64 ((firstH freeO l : Nat) + 1), .int .i64 0]) := by
  obtain ⟨f, ⟨h1, _⟩ | ⟨_, h1⟩⟩ := h
  · exact absurd h0 h1
  · exact ⟨f, h1⟩
theorem freePost.ok {w : World} {l l' : List Ob} {n : Int} {e : Ending} {w' : World} (h : freePost w l n e w') (h0 : freeH l n = some l') : Below w.heap.size w w' ∧ ∃ s rs, HIn w' s rs ∧ rs.map ObR.o = l' ∧ e = .returned (.tuple #[s.v, .int .i64 0]) := by
  obtain ⟨f, ⟨h1, _⟩ | ⟨l2, s, rs, h1, h2, h3, h4⟩⟩ := h
  · rw [h0] at h1; cases h1
  · rw [h0] at h1
    injection h1 with h1
    subst h1
    exact ⟨f, s, rs, h2, h3, h4⟩
theorem wordPost.ok {w : World} {l : List Ob} {n k : Int} {v : Vl} {e : Ending} {w' : World} (h : wordPost w l n k e w') (h0 : wordH l n k = some v) : Below w.heap.size w w' ∧ e = .returned (.tuple #[.agg #[.int .i64 v.kind, .int .i64 v.n], .int .i64 0]) := by
  obtain ⟨f, ⟨h1, _⟩ | ⟨v2, h1, h2⟩⟩ := h
  · rw [h0] at h1; cases h1
  · rw [h0] at h1
    injection h1 with h1
    subst h1
    exact ⟨f, h2⟩
end Go.Proofs.Ytnnanlniffjnkaa

/- Layer 15: objects that came in, opened. -/
namespace Go.Proofs.Ytnnanlniffjnkaa
open Go.ChangeShapes Go.WideShapes Go.ChangeAt Go.RowKit
set_option linter.unusedVariables false
set_option maxRecDepth 100000

theorem vl_cells {H : Type} {enc : TypeId × Value → H} {w : World} {base : Nat} (n : Nat) (cs : List Value) (x : DataW H × List MemPlace)
    (h : DataW.trod enc Try.prog w base (fun _ => true) true n 47 cs = some x) (hw : ∀ m ∈ x.1.weights Try.prog 47, m ≤ reachBytes) :
    ∃ y : Vl, cs = vlc y ∧ True := by
  have hl : cs.length = 2 := st_len Try.underlying47 (by kernel_rfl) h
  obtain ⟨_, y0, g0, w0⟩ := st_field Try.underlying47 h hw (i := 0) rfl
  obtain ⟨v0, c0, f0⟩ := int_leaf (o := 0) g0
  obtain ⟨_, y1, g1, w1⟩ := st_field Try.underlying47 h hw (i := 1) rfl
  obtain ⟨v1, c1, f1⟩ := int_leaf (o := 1) g1
  refine ⟨⟨v0, v1⟩, ?_, trivial⟩
  apply List.ext_getElem?
  intro i
  match i with
  | 0 => rw [c0]; rfl
  | 1 => rw [c1]; rfl
  | k + 2 => rw [List.getElem?_eq_none (by omega)]; rfl
theorem ob_cells {H : Type} {enc : TypeId × Value → H} {w : World} {base : Nat} (n : Nat) (cs : List Value) (x : DataW H × List MemPlace)
    (h : DataW.trod enc Try.prog w base (fun _ => true) true n 43 cs = some x) (hw : ∀ m ∈ x.1.weights Try.prog 43, m ≤ reachBytes) :
    ∃ y : ObR, cs = obc y ∧ WsIn w y.s y.ws := by
  have hl : cs.length = 2 := st_len Try.underlying43 (by kernel_rfl) h
  obtain ⟨_, y0, g0, w0⟩ := st_field Try.underlying43 h hw (i := 0) rfl
  obtain ⟨v0, c0, f0⟩ := str_leaf (o := 0) g0 w0
  obtain ⟨_, y1, g1, w1⟩ := st_field Try.underlying43 h hw (i := 1) rfl
  obtain ⟨v1, c1, t1⟩ := sl_leaf (o := 1) Try.underlying23 (by kernel_rfl) g1
  obtain ⟨l1, h1⟩ := lin_open (size := 2) (by_ := 16) Try.underlying23 (by kernel_rfl) (by kernel_rfl) (by decide) (fun _ => rfl) (fun _ => ⟨_, rfl⟩) vl_cells t1 w1
  refine ⟨⟨v0, v1, l1⟩, ?_, h1⟩
  apply List.ext_getElem?
  intro i
  match i with
  | 0 => rw [c0]; rfl
  | 1 => rw [c1]; rfl
  | k + 2 => rw [List.getElem?_eq_none (by omega)]; rfl
theorem objs_arg {H : Type} {enc : TypeId × Value → H} {w : World} {base : Nat} {a : Option Addr} {len cap : Nat} {d : DataW H} {p : List MemPlace} (h : DataW.Trod enc Try.prog w base (fun _ => true) true 22 (.slice a len cap) d p) (hw : ∀ m ∈ d.weights Try.prog 22, m ≤ reachBytes) : ∃ l, HIn w ⟨a, len, cap⟩ l :=
  lin_open (size := 2) (by_ := 40) Try.underlying22 (by kernel_rfl) (by kernel_rfl) (by decide) (fun _ => rfl) (fun _ => ⟨_, rfl⟩) ob_cells (s := ⟨a, len, cap⟩) h hw
theorem obj_arg {H : Type} {enc : TypeId × Value → H} {W : World} {base b2 : Nat} {v : Value} {d : DataW H} {p : List MemPlace} (hv : Value.okWide Try.prog W .any b2 43 v)
    (h : DataW.Trod enc Try.prog W base (fun _ => true) true 43 v d p) (hw : ∀ m ∈ d.weights Try.prog 43, m ≤ reachBytes) : ∃ r : ObR, v = .agg #[.string ⟨r.ty.toArray⟩, r.s.v] ∧ WsIn W r.s r.ws := by
  obtain ⟨fuel, hf⟩ := h
  simp only [Value.okWide, Try.underlying43] at hv
  obtain ⟨cs, rfl, _⟩ := hv
  obtain ⟨r, hcs, hfit⟩ := ob_cells _ _ _ hf hw
  refine ⟨r, ?_, hfit⟩
  congr 1
  apply Array.toList_inj.1
  simpa [Value.cells, obc] using hcs
theorem val_arg {H : Type} {enc : TypeId × Value → H} {W : World} {base b2 : Nat} {v : Value} {d : DataW H} {p : List MemPlace} (hv : Value.okWide Try.prog W .any b2 47 v)
    (h : DataW.Trod enc Try.prog W base (fun _ => true) true 47 v d p) (hw : ∀ m ∈ d.weights Try.prog 47, m ≤ reachBytes) : ∃ r : Vl, v = .agg #[.int .i64 r.kind, .int .i64 r.n] ∧ True := by
  obtain ⟨fuel, hf⟩ := h
  simp only [Value.okWide, Try.underlying47] at hv
  obtain ⟨cs, rfl, _⟩ := hv
  obtain ⟨r, hcs, _⟩ := vl_cells _ _ _ hf hw
  refine ⟨r, ?_, trivial⟩
  congr 1
  apply Array.toList_inj.1
  simpa [Value.cells, vlc] using hcs
theorem str15_arg {H : Type} {enc : TypeId × Value → H} {W : World} {base b2 : Nat} {v : Value} {d : DataW H} {p : List MemPlace} (hv : Value.okWide Try.prog W .any b2 9 v)
    (h : DataW.Trod enc Try.prog W base (fun _ => true) true 9 v d p) (hw : ∀ m ∈ d.weights Try.prog 9, m ≤ reachBytes) : ∃ s : List UInt8, v = .string ⟨s.toArray⟩ ∧ True := by
  obtain ⟨s, rfl, rfl, _, _⟩ := Go.ChangeMaps.open_string Try.underlying9 hv h
  exact ⟨s.data.toList, rfl, trivial⟩
end Go.Proofs.Ytnnanlniffjnkaa
