/- Joined: CeA CeB CeC CeD. -/
import Derived.Test.YtpmhcignenfhgaaDoorJCdA
import Derived.Test.YtpmhcignenfhgaaDoorJB
import Derived.Laws.Rows

/- The landed code: Falls, and the document's. -/
namespace Go.Proofs.YtpmhcignenfhgaaDoor
open Go.RowKit
set_option linter.unusedVariables false
set_option maxRecDepth 100000

def fallsK (op : Int) : Bool := !(op == 167 || op == 170 || op == 171 || op == 172 || op == 173 || op == 176 || op == 177 || op == 191)

theorem hFalls_any (w : World) (at0 op a b : Int) (cs : Value) :
    Calls Tryd.prog 24 #[.agg #[.int .i64 at0, .int .i64 op, .int .i64 a, .int .i64 b, cs]] w fun e w' => e = .returned (.bool (fallsK op)) ∧ Below w.heap.size w w' := by
  unfold fallsK
  go_enter Tryd.func24, Tryd.ntmps24
  go_wp2
  all_goals
    go_ret
    refine ⟨?_, ?_⟩
    · simp_all
    · exact (Below.refl _ _).alloc (Nat.le_refl _) _
theorem o9Falls_any (w : World) (at0 op a b : Int) (cs : Value) :
    Calls Tryd.prog 25 #[.agg #[.int .i64 at0, .int .i64 op, .int .i64 a, .int .i64 b, cs]] w fun e w' => e = .returned (.bool (fallsK op)) ∧ Below w.heap.size w w' := by
  unfold fallsK
  go_enter Tryd.func25, Tryd.ntmps25
  go_wp2
  all_goals
    go_ret
    refine ⟨?_, ?_⟩
    · simp_all
    · exact (Below.refl _ _).alloc (Nat.le_refl _) _
end Go.Proofs.YtpmhcignenfhgaaDoor

/- The landed code: the form of an Op. -/
namespace Go.Proofs.YtpmhcignenfhgaaDoor
open Go.RowKit
set_option linter.unusedVariables false
set_option maxRecDepth 100000

def formL : List (Int × Int × Int) := [(0, 10, 1), (26, 33, 1), (42, 47, 1), (50, 51, 1), (59, 66, 1), (75, 80, 1), (83, 84, 1), (87, 90, 1), (92, 92, 1), (95, 97, 1), (100, 101, 1), (104, 105, 1), (108, 109, 1), (112, 113, 1), (116, 117, 1), (120, 131, 1), (133, 133, 1), (136, 136, 1), (145, 148, 1), (172, 173, 1), (176, 177, 1), (190, 191, 1), (194, 195, 1), (16, 16, 2), (17, 17, 3), (18, 18, 4), (21, 22, 4), (25, 25, 4), (54, 55, 4), (58, 58, 4), (188, 188, 4), (19, 20, 5), (178, 184, 5), (187, 187, 5), (189, 189, 5), (192, 193, 5), (132, 132, 6), (153, 167, 7), (198, 199, 7), (170, 170, 8), (171, 171, 9)]
def formCells : Array Value := (formL.flatMap fun r => [.int .i64 r.1, .int .i64 r.2.1, .int .i64 r.2.2]).toArray
def inRow (op : Int) (r : Int × Int × Int) : Bool := decide (r.1 ≤ op) && decide (op ≤ r.2.1)
def formOfL (op : Int) : List (Int × Int × Int) → Int
  | [] => 0
  | r :: l => if inRow op r then r.2.2 else formOfL op l
def formK (op : Int) : Int := formOfL op formL
/-- The program's table of forms as it is laid. -/
def Tab9 (w : World) : Prop := ∃ t fr, w.heap[1]? = some (.cells formCells t fr)
theorem Tab9.below {w w' : World} (h : Tab9 w) (f : Below w.heap.size w w') : Tab9 w' := by
  obtain ⟨t, fr, h⟩ := h
  exact ⟨t, fr, (f.block 1 (lt_of_heap h)).trans h⟩
theorem formCells_size : formCells.size = 123 := by rfl
theorem form_index0 : ∀ k, k < 41 → ∀ w : World, (Instr.index 90 (.agg formCells) (.int .i64 (k : Nat))).run Tryd.prog w = .ok (.agg #[.int .i64 (formL.getD k (0, 0, 0)).1, .int .i64 (formL.getD k (0, 0, 0)).2.1, .int .i64 (formL.getD k (0, 0, 0)).2.2]) w := by
  intro k hk w
  iterate 41 (rcases k with _ | k; · kernel_rfl)
  omega
theorem formOfL_drop (op : Int) (k : Nat) (hk : k < 41) : formOfL op (formL.drop k) = if inRow op (formL.getD k (0, 0, 0)) then (formL.getD k (0, 0, 0)).2.2 else formOfL op (formL.drop (k + 1)) := by
  have h1 : k < formL.length := hk
  rw [List.drop_eq_getElem_cons h1]
  simp only [formOfL, List.getD, List.getElem?_eq_getElem h1, Option.getD_some]
end Go.Proofs.YtpmhcignenfhgaaDoor

/- The landed code: the form of an Op is the document's. -/
namespace Go.Proofs.YtpmhcignenfhgaaDoor
open Go.RowKit
set_option linter.unusedVariables false
set_option maxRecDepth 100000

theorem formOfL_out (op : Int) (h : op < 0 ∨ 255 < op) : ∀ l : List (Int × Int × Int), (∀ r ∈ l, 0 ≤ r.1 ∧ r.2.1 ≤ 255) → formOfL op l = 0
  | [], _ => rfl
  | r :: l, hl => by
    have h1 := hl r (by simp)
    have h2 : inRow op r = false := by
      unfold inRow
      rcases h with h | h
      · simp; omega
      · simp; omega
    rw [formOfL, h2]
    exact formOfL_out op h l fun r hr => hl r (by simp [hr])
theorem inS_out (op : Int) (h : op < 0 ∨ 255 < op) (l : List (Int × Int)) (hl : ∀ r ∈ l, 0 ≤ r.1 ∧ r.2 ≤ 255) : inS l op = false := by
  unfold inS
  rw [List.any_eq_false]
  intro r hr
  have := hl r hr
  simp
  omega
theorem formP_out (op : Int) (h : op < 0 ∨ 255 < op) : formP op = 0 := by
  unfold formP
  rw [inS_out op h spans1 (by decide)]
  simp only [Bool.false_eq_true, if_false]
  repeat' split
  all_goals first | rfl | omega
theorem form_all : ∀ n : Nat, n < 256 → formK (n : Int) = (formP (n : Int) : Int) := by
  intro n hn
  have h : (List.range 256).all (fun n => formK (n : Int) == (formP (n : Int) : Int)) = true := by decide +kernel
  rw [List.all_eq_true] at h
  simpa using h n (by simpa using hn)
theorem formK_is (op : Int) : formK op = (formP op : Int) := by
  by_cases h : op < 0 ∨ 255 < op
  · rw [formP_out op h]
    exact formOfL_out op h formL (by decide)
  · obtain ⟨n, rfl⟩ : ∃ n : Nat, op = n := ⟨op.toNat, by omega⟩
    exact form_all n (by omega)
end Go.Proofs.YtpmhcignenfhgaaDoor

/- The landed code: formOf. -/
namespace Go.Proofs.YtpmhcignenfhgaaDoor
open Go.RowKit
set_option linter.unusedVariables false
set_option maxRecDepth 100000

theorem h9formOf_any (w : World) (op : Int) (h : Tab9 w) :
    Calls Tryd.prog 35 #[.int .i64 op] w fun e w' => e = .returned (.int .i64 (formP op)) ∧ Below w.heap.size w w' := by
  obtain ⟨t, fr, hg⟩ := h
  obtain ⟨cs, hcs⟩ : ∃ cs, cs = formCells := ⟨_, rfl⟩
  have hix := form_index0
  have hsz : cs.size = 123 := by rw [hcs, formCells_size]
  rw [← hcs] at hg hix
  obtain ⟨T, hT⟩ : ∃ T : Int, T = (formP op : Int) := ⟨_, rfl⟩
  rw [← hT]
  have HT := hide (hT.trans (formK_is op).symm)
  clear hT hcs
  have HIX := hide hix
  have HS := hide hsz
  clear hix hsz
  go_enter Tryd.func35, Tryd.ntmps35
  go_wp2_with (refine wpList_load_row rfl 90 _ rfl 1 rfl t _ fr _ hg Tryd.underlying90 rfl (by rw [unhide HS]; kernel_rfl) ?_)
  go_loopw [6] (fun i wr => ∃ k : Nat, k ≤ 41 ∧ i = .int .i64 k ∧ T = formOfL op (formL.drop k) ∧ Below w.heap.size w wr) (fun i _ => 41 - (intOf i).toNat)
  case atStart => exact ⟨0, by omega, rfl, unhide HT, Below.refl _ _⟩
  case round =>
    obtain ⟨k, hk, rfl, ht, hb⟩ := hrel
    by_cases hlt : k < 41
    · have hlt1 : (k : Int) < 41 := by omega
      rw [formOfL_drop op k hlt] at ht
      obtain ⟨⟨x, y, z⟩, hr⟩ : ∃ r, r = formL.getD k (0, 0, 0) := ⟨_, rfl⟩
      have q := unhide HIX k hlt
      rw [← hr] at ht q
      simp only [inRow] at ht q
      have HB := hide hb
      have HTT := hide ht
      clear hr ht hb
      by_cases h1 : x ≤ op
      · by_cases h2 : op ≤ y
        · go_wp2
          go_ret
          refine ⟨?_, ?_⟩
          · have := unhide HTT
            simp [h1, h2] at this
            rw [this]
            rfl
          · exact bA (unhide HB) _
        · have h2b : decide (op ≤ y) = false := by simpa using h2
          go_wp2
          go_round
          case rel =>
            have := unhide HTT
            simp [h1, h2] at this
            exact ⟨k + 1, by omega, by go_num, this, bA (unhide HB) _⟩
          case measure => simp [intOf]; omega
      · have h1b : decide (x ≤ op) = false := by simpa using h1
        go_wp2
        go_round
        case rel =>
          have := unhide HTT
          simp [h1] at this
          exact ⟨k + 1, by omega, by go_num, this, bA (unhide HB) _⟩
        case measure => simp [intOf]; omega
    · obtain rfl : k = 41 := by omega
      have hT0 : T = 0 := by rw [ht]; rfl
      subst hT0
      clear ht HT
      go_wp2
      go_ret
      exact ⟨rfl, hb⟩
end Go.Proofs.YtpmhcignenfhgaaDoor
