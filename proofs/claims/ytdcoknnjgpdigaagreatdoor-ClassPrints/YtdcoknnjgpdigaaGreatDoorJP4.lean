/- Joined: PlO PlP PlK ArA. -/
import Derived.Test.YtdcoknnjgpdigaaGreatDoorJP3
import Derived.Test.YtdcoknnjgpdigaaGreatDoorJP2
import Derived.Test.YtdcoknnjgpdigaaGreatDoorJP0
import Derived.ProofKit
import Derived.OpenShut
import Derived.SizedLaws

/- The document's own pool: text, utf, add. -/
namespace Go.Proofs.YtdcoknnjgpdigaaGreatDoor
open Go.RowKit
set_option linter.unusedVariables false

theorem strI (l : List UInt8) (i : Nat) (b : UInt8) (h : l[i]? = some b) : ∀ w, (Instr.index 9 (.string ⟨l.toArray⟩) (.int .i64 (i : Int))).run Tryz.prog w = .ok (.int .u8 (b.toNat : Int)) w := fun w => by
  have hl : i < l.length := (List.getElem?_eq_some_iff.1 h).1
  have hb := (List.getElem?_eq_some_iff.1 h).2
  have hs : (⟨l.toArray⟩ : ByteArray).size = l.length := by simp [ByteArray.size]
  have := run_index_string (P := Tryz.prog) (w := w) 9 ⟨l.toArray⟩ .i64 (i : Int) (by kernel_rfl)
  rw [dif_pos ⟨by omega, by rw [hs]; omega⟩] at this
  rw [this]
  have e : (⟨l.toArray⟩ : ByteArray)[(i : Int).toNat]'(by rw [hs]; omega) = b := by
    rw [← hb]
    rfl
  rw [e]
def okB (x : UInt8) : Bool := decide (33 ≤ x.toNat) && decide (x.toNat ≤ 126)
theorem textB_eq (s : List UInt8) : textB s = (s.all okB && decide (s.length ≤ 255)) := rfl

set_option maxHeartbeats 1600000 in
theorem jtext_any (w : World) (s : List UInt8) (hs : s.length ≤ 140737488355328) :
    Calls Tryz.prog 65 #[.string ⟨s.toArray⟩] w fun e w' => e = .returned (.bool (textB s)) ∧ w' = w := by
  have hsz : (⟨s.toArray⟩ : ByteArray).size = s.length := by simp [ByteArray.size]
  have H := hide (fun k (hk : k < s.length) => strI s k s[k] (List.getElem?_eq_getElem hk))
  obtain ⟨T, hT⟩ : ∃ T, T = textB s := ⟨_, rfl⟩
  rw [← hT]
  have HT := hide hT
  generalize (⟨s.toArray⟩ : ByteArray) = st at *
  clear hT
  go_enter Tryz.func65, Tryz.ntmps65
  go_wp2
  go_loopw [3] (fun i wr => ∃ k : Nat, k ≤ s.length ∧ i = .int .i64 k ∧ (∀ j b, j < k → s[j]? = some b → okB b = true) ∧ wr = w) (fun i _ => s.length - (intOf i).toNat)
  case atStart => exact ⟨0, by omega, rfl, fun j b h => by omega, rfl⟩
  case round =>
    obtain ⟨k, hk, rfl, hall, e0⟩ := hrel
    have e0' := e0.symm
    clear e0
    subst e0'
    by_cases hlt : k < s.length
    · have hlt1 : (k : Int) < (s.length : Int) := by omega
      have hidx := unhide H k hlt
      have hks : s[k]? = some s[k] := List.getElem?_eq_getElem hlt
      obtain ⟨b, hb⟩ : ∃ b, b = s[k] := ⟨_, rfl⟩
      rw [← hb] at hidx hks
      by_cases h1 : b.toNat < 33
      · have e1 : Hid (T = false) := by
          rw [unhide HT, textB_eq]
          have : s.all okB = false := by
            rw [List.all_eq_false]
            exact ⟨b, List.mem_of_getElem? hks, by unfold okB; simp; omega⟩
          rw [this]
          rfl
        have h1' : (b.toNat : Int) < 33 := by omega
        clear hall hks hb h1
        generalize b.toNat = B at *
        go_wp2
        go_ret
        exact ⟨by rw [unhide e1]; rfl, rfl⟩
      · by_cases h2 : 126 < b.toNat
        · have e1 : Hid (T = false) := by
            rw [unhide HT, textB_eq]
            have : s.all okB = false := by
              rw [List.all_eq_false]
              exact ⟨b, List.mem_of_getElem? hks, by unfold okB; simp; omega⟩
            rw [this]
            rfl
          have h1' : ¬ (b.toNat : Int) < 33 := by omega
          have h2' : (126 : Int) < (b.toNat : Int) := by omega
          clear hall hks hb h1 h2
          generalize b.toNat = B at *
          go_wp2
          go_ret
          exact ⟨by rw [unhide e1]; rfl, rfl⟩
        · have HA : Hid (∀ j b, j < k + 1 → s[j]? = some b → okB b = true) := fun j b' hj hb' => by
            by_cases hjk : j = k
            · subst hjk
              rw [hks] at hb'
              injection hb' with hb'
              subst hb'
              unfold okB
              simp
              omega
            · exact hall j b' (by omega) hb'
          have h1' : ¬ (b.toNat : Int) < 33 := by omega
          have h2' : ¬ (126 : Int) < (b.toNat : Int) := by omega
          clear hall hks hb h1 h2
          generalize b.toNat = B at *
          go_wp2
          go_roundw
          case rel => exact ⟨k + 1, by omega, by go_num, unhide HA, by first | rfl | trivial⟩
          case measure => simp [intOf]; omega
    · obtain rfl : k = s.length := by omega
      have e1 : Hid (T = decide ((s.length : Int) ≤ 255)) := by
        rw [unhide HT, textB_eq]
        have : s.all okB = true := by
          rw [List.all_eq_true]
          intro x hx
          obtain ⟨j, hj⟩ := List.mem_iff_getElem?.1 hx
          exact hall j x ((List.getElem?_eq_some_iff.1 hj).1) hj
        rw [this, Bool.true_and]
        congr 1
        simp
        omega
      clear hall H
      generalize s.length = n at *
      go_wp2
      go_ret
      exact ⟨by rw [unhide e1]; rfl, rfl⟩

theorem es_of_block {w : World} {q : Nat} {l : List Ent} {e : TypeId} {f : Nat × Nat} (h : w.heap[q]? = some (.cells (ev l).toArray e f)) : EntsAt w (some ⟨q, 0, none⟩) l := fun ad e j u hu => by
  injection e with e
  subst e
  rw [Addr.add_mid, Nat.zero_add, cell_of_row _ _ _ _ _ _ h]
  simpa using hu
theorem entC {w : World} {q : Nat} {x : Ent} {T : TypeId} {f : Nat × Nat} (h : w.heap[q]? = some (.cells #[.int .i64 x.tag, .string ⟨x.text.toArray⟩, .int .i64 x.n, .int .i64 x.a, .int .i64 x.b] T f)) :
    w.cell? ⟨q, 0, none⟩ = some (.int .i64 x.tag) ∧ w.cell? ⟨q, 1, none⟩ = some (.string ⟨x.text.toArray⟩) ∧ w.cell? ⟨q, 2, none⟩ = some (.int .i64 x.n) ∧ w.cell? ⟨q, 3, none⟩ = some (.int .i64 x.a) ∧ w.cell? ⟨q, 4, none⟩ = some (.int .i64 x.b) :=
  ⟨by rw [cell_of_row _ _ _ _ _ _ h]; rfl, by rw [cell_of_row _ _ _ _ _ _ h]; rfl, by rw [cell_of_row _ _ _ _ _ _ h]; rfl, by rw [cell_of_row _ _ _ _ _ _ h]; rfl, by rw [cell_of_row _ _ _ _ _ _ h]; rfl⟩

end Go.Proofs.YtdcoknnjgpdigaaGreatDoor

/- The document's own pool: utf, right. -/
namespace Go.Proofs.YtdcoknnjgpdigaaGreatDoor
open Go.RowKit
set_option linter.unusedVariables false

end Go.Proofs.YtdcoknnjgpdigaaGreatDoor

/- What the walks of stage 7's laws ask of the program's pool; works7. -/
namespace Go.Proofs.YtdcoknnjgpdigaaGreatDoor
open Go.RowKit
set_option linter.unusedVariables false

/-- Entries as they may come in. -/
structure EIn (w : World) (a : Option Addr) (n c : Nat) (l : List Ent) : Prop where
  arg : EArg w a n c l
  small : n * 48 ≤ 140737488351232
  fit : EntsFit7 l
theorem EIn.below {w w' : World} {a : Option Addr} {n c : Nat} {l : List Ent} (h : EIn w a n c l) (f : Below w.heap.size w w') : EIn w' a n c l := ⟨h.arg.below f, h.small, h.fit⟩
theorem EIn.own {w : World} {base n c : Nat} {a : Option Addr} {l : List Ent} (h : w.ownsRow base 55 5 (.slice a n c) n (ev l)) (hs : n * 48 ≤ 140737488351232) (hf : EntsFit7 l) : EIn w a n c l := ⟨earg_of_own h, hs, hf⟩

end Go.Proofs.YtdcoknnjgpdigaaGreatDoor

/- What opening arguments needs, whatever the law. -/
namespace Go.Proofs.YtdcoknnjgpdigaaGreatDoor
open Go.ChangeShapes Go.WideShapes Go.ChangeAt Go.RowKit
set_option linter.unusedVariables false

theorem ownKn : ownKnob Tryz.prog.godebug = none := by kernel_rfl

theorem laidOut : laidOutB Tryz.prog = true := by kernel_rfl

theorem spot_none {w : World} {a : Addr} {v : Value} (h : w.cell? a = some v) : a = ⟨a.block, a.off, none⟩ := by
  cases hs : a.spot with
  | none => cases a; simp at hs; subst hs; rfl
  | some s =>
    unfold World.cell? at h
    rw [hs] at h
    split at h <;> simp at h

theorem cellsI : Tryz.prog.cellsOf 3 = 1 := by kernel_rfl

theorem take_one {l : List Value} {j : Nat} {v : Value} (h : (l.drop j).take 1 = [v]) : l[j]? = some v := by
  have h2 : ((l.drop j).take 1)[0]? = some v := by rw [h]; rfl
  simpa [List.getElem?_take] using h2

theorem weightsAll_mem {H : Type} {P : Program} {e : TypeId} {d : DataW H} {n : Nat} (hn : n ∈ d.weights P e) : ∀ {l : List (DataW H)}, d ∈ l → n ∈ DataW.weightsAll P e l
  | d0 :: r, hd => by
    simp only [DataW.weightsAll, List.mem_append]
    rcases List.mem_cons.1 hd with h | h
    · subst h; exact .inl hn
    · exact .inr (weightsAll_mem hn h)

end Go.Proofs.YtdcoknnjgpdigaaGreatDoor
