/- Joined: ClT C8Prints. -/
import Derived.Test.YtdcoknnjgpdigaaGreatDoorJP21
import Derived.Test.YtdcoknnjgpdigaaGreatDoorJP6
import Derived.Test.YtdcoknnjgpdigaaGreatDoorJP30
import Derived.Test.YtdcoknnjgpdigaaGreatDoorRows
import Derived.ProofKit
import Derived.OpenShut
import Derived.LaidMore
import Derived.Stop.Joined
import Derived.Test.YtdcoknnjgpdigaaGreatDoorCards
import Derived.Test.YtdcoknnjgpdigaaGreatDoorTie

/- The program's table of types' first bytes as its text lays it, and a world that begins so. -/
namespace Go.Proofs.YtdcoknnjgpdigaaGreatDoor
open Go.ChangeShapes Go.WideShapes Go.ChangeAt Go.RowKit
set_option linter.unusedVariables false

theorem gTab8 : Tryz.prog.globalNamed "larch/class.kindBytes" = some 0 := by kernel_rfl
theorem tTab8 : (Tryz.prog.globals[0]?).map (·.type) = some 197 := by kernel_rfl
theorem cells8I : Tryz.prog.cellsOf 3 = 1 := by kernel_rfl
theorem tab8_said : (Rows.laid_larch_class_kindBytes : DataW Unit) = .agg ((List.range 5).map fun (n : Nat) => .lit (.int .i64 (kindB n))) := rfl
abbrev laid8 : List (String × DataW Unit) := [("larch/class.kindBytes", Rows.laid_larch_class_kindBytes)]

theorem tab8_of_laid {W : World} (h : laidMetH Tryz.prog laid8 W) : Tab8 W := by
  have h' : laidMet Tryz.prog laid8 W := h
  obtain ⟨ps, ⟨g, t, cs, fuel, p, q, hg, ht, hvar, hd, _, _⟩, _⟩ := h'
  obtain rfl := Option.some.inj (gTab8.symm.trans hg)
  obtain rfl := Option.some.inj (tTab8.symm.trans ht)
  rw [tab8_said] at hd
  obtain ⟨xs, m, _, hx, _, hl, hel⟩ := DataW.trod_array Tryz.underlying197 hd
  injection hx with hx _
  injection hx with hx
  intro i hi
  have hi2 := hel i hi
  rw [cells8I, Nat.mul_one, List.getElem?_eq_getElem (by omega)] at hi2
  obtain ⟨n, e, hd2, _⟩ := DataW.trod_int Tryz.underlying3 hi2
  have hn : n = kindB i := by
    have h1 : (xs.map (·.1))[i]? = some (.lit (.int .i64 n)) := by
      rw [List.getElem?_map, List.getElem?_eq_getElem (by omega), hd2]; rfl
    rw [← hx] at h1
    simp [hi] at h1
    exact h1.symm
  have hc : cs[i]? = some (.int .i64 n) := by
    have : ((cs.toList.drop i).take 1)[0]? = some (.int .i64 n) := by rw [e]; rfl
    simpa [List.getElem?_take] using this
  have := World.var?_cell gTab8 hvar i
  rw [this, hc, hn]
/-- The door's own heap meets the condition. -/
theorem door_met8 (os : Os) (args : Array Value) : laidMetH Tryz.prog laid8 ((World.doorLaid Tryz.prog 600 os).forCall (fun _ _ => 0) ⟨#[], args, []⟩).memory :=
  laidMetH_of_parts3 (fuel := 8) (laidMet_of_run' 8 (by kernel_rfl) (by kernel_rfl)) (by kernel_rfl) (by kernel_rfl)
end Go.Proofs.YtdcoknnjgpdigaaGreatDoor

/- For all classes the law ClassPrints returns true and changes nothing that was there: a class is judged and told, or refused, as the document says. No condition but this: its one listed variable, the table of types' first bytes, starts as the program's text lays it. -/
namespace Go.Proofs.YtdcoknnjgpdigaaGreatDoor
open Go.ChangeShapes Go.WideShapes Go.ChangeAt Go.RowKit
set_option linter.unusedVariables false

set_option maxRecDepth 100000 in
theorem classPrints_lifted (os : Os) (started : os.Started) (H : Type) (enc : TypeId × Value → H) :
    ReturnsInHanded {} Tryz.checked os 3 .any (fun w args => (Rows.classPrintsSpec.pre enc Tryz.prog Tryz.f3 [] false w args ∧ laidMetH Tryz.prog laid8 w) ∧ sizedMet enc Tryz.prog Tryz.f3 (OpenSpec.ofChange Rows.classPrintsSpec) false w args)
      (Rows.classPrintsSpec.post enc Tryz.prog Tryz.f3 false true false false) := by
  refine returnsInHanded_of_change_and (C := Tryz.checked) (X := fun w _ => laidMetH Tryz.prog laid8 w) (fun _ _ _ hh h => h.of_heap hh) ownKn started (by kernel_rfl) Tryz.func3
    (ChangeSpec.witness_shaped (enc := enc) (C := Tryz.checked) (os := os) (X := fun w _ => laidMetH Tryz.prog laid8 w) false (World.doorLaid Tryz.prog 600 os) #[.agg #[.slice none 0 0, .string ⟨#[]⟩, .string ⟨#[]⟩, .slice none 0 0, .slice none 0 0]] 8 rfl (World.shaped_of_RefB (by kernel_rfl) (by kernel_rfl)) (by kernel_rfl) (by kernel_rfl) (by kernel_rfl) (door_met8 os _)) ?_
  intro W base args ds gs before hval0 hW _ hsz0 hL _
  have hval : ∀ (j : Nat) t v, Tryz.f3.params[j]? = some t → args[j]? = some v → Value.okWide Tryz.prog W .any base t v := hval0
  have hsz : (DataW.weightsEach Tryz.prog (Tryz.f3.params.toList ++ Rows.classPrintsSpec.plain.varTypes Tryz.prog) (ds ++ gs)).all (· ≤ reachBytes) = true := hsz0
  have hW' := hW
  obtain ⟨p, q, hA0, hV, rfl, hfz, hnd⟩ := hW
  have hA : DataW.TrodAll enc Tryz.prog W 0 (fun _ => true) true Tryz.f3.params.toList args.toList ds p := hA0
  rw [Tryz.params3] at hA hval hsz
  obtain ⟨v0, vs0, d0, ds0, p0, q0, hargs, rfl, rfl, h0, r0⟩ := trodAll_cons hA
  obtain ⟨rfl, rfl, rfl⟩ := trodAll_nil r0
  obtain rfl : args = #[v0] := by cases args; simp_all
  obtain ⟨rfl, rfl⟩ := trodVars_none hV
  have w0 : ∀ m ∈ d0.weights Tryz.prog 26, m ≤ reachBytes := fun m hm => by simpa using List.all_eq_true.1 hsz _ (DataW.weights_mem_each (j := 0) (t := 26) rfl rfl m hm)
  have lt0 : ∀ x ∈ p0, x.block < W.heap.size := by obtain ⟨m, hm⟩ := h0; exact DataW.trod_lt m _ _ _ hm
  obtain ⟨y0, rfl, x0⟩ := class_arg (hval 0 26 v0 rfl rfl) h0 w0
  have hT := tab8_of_laid hL
  clear hA0 hval0
  refine (prints_tab gPrintOk W hT y0 x0).mono fun e W' ⟨he, bel⟩ => ?_
  subst he
  exact ⟨_, rfl, _, _, _, [], _, [], hW', trodAll_mk1 (shut_bool Tryz.underlying4 _), (trodAll_cons_mk (Below.trod laidOut (by kernel_rfl) (of_decide_eq_true (by kernel_rfl)) h0 bel lt0) trodAll_mk0), rfl, bel.frame _, fun h => by cases h⟩

theorem classPrints_row : Rows.ClassPrintsSaid :=
  OpenClaim.holds_of_wide 3 Tryz.f3 rfl rfl rfl rfl rfl rfl rfl ⟨rfl, rfl, rfl, rfl, rfl⟩ rfl rfl rfl rfl rfl (by kernel_rfl) Tryz.func3 (by kernel_rfl)
    (of_decide_eq_true (by kernel_rfl)) (by unfold Func.isWrapper; first | (rw [if_pos (by decide +kernel)]; kernel_rfl) | (rw [if_neg (by decide +kernel)]; exact ⟨rfl, rfl⟩))
    (fun os started H enc _ => classPrints_lifted os started H enc)

theorem classPrints_holds : Rows.ClassPrintsCardSaid :=
  Claim7.holds_tied_plain_at .later [] [.data] true _ false
    classPrints_row (fun _ h => by cases h) (by kernel_rfl) (fun _ h => by cases h) classPrints_row_tie rfl ⟨rfl, rfl⟩ (by kernel_rfl) rfl
    (fun f fn hf hfn => by
      obtain rfl : f = 3 := Option.some.inj ((show Tryz.prog.funcNamed "larch/larchlaw08.ClassPrints" = some 3 by kernel_rfl).symm.trans hf) |>.symm
      obtain rfl : fn = Tryz.f3 := (Option.some.inj (Tryz.func3.symm.trans hfn)).symm
      exact ⟨by kernel_rfl, fun j t ht => by
        rw [Tryz.params3] at ht
        have hm : t ∈ [26] := by simpa using Array.mem_of_getElem? ht
        have hall : ([26].all fun u => !Tryz.prog.wantsStandIn u) = true := by kernel_rfl
        exact (show Tryz.prog.wantsStandIn t = false by simpa using List.all_eq_true.1 hall t hm)⟩)
    (by kernel_rfl)

end Go.Proofs.YtdcoknnjgpdigaaGreatDoor
