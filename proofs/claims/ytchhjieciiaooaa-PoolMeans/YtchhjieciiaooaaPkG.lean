/- The landed pool: canMean. -/
import Derived.Test.YtchhjieciiaooaaPkF
namespace Go.Proofs.Ytchhjieciiaooaa
open Go.RowKit
set_option linter.unusedVariables false

theorem rightC_code (c o : Cst) (h : (c.tag = 3 ∨ c.tag = 5) ∧ o = ⟨c.tag, c.n, [], [], []⟩ ∨ c.tag = 7 ∧ o = ⟨c.tag, 0, c.cls, [], []⟩ ∨ (c.tag = 9 ∨ c.tag = 10) ∧ o = ⟨c.tag, 0, c.cls, c.name, c.type⟩) :
    rightC c = (decide (c = o) && fitsE c.tag c.n && textB c.cls && textB c.name && textB c.type) := by
  obtain ⟨t, n, s, x, y⟩ := c
  have hnil : textB [] = true := by decide
  unfold rightC fitsE
  simp only at h ⊢
  rcases h with ⟨rfl | rfl, rfl⟩ | ⟨rfl, rfl⟩ | ⟨rfl | rfl, rfl⟩
  · simp
    by_cases hs : s = [] ∧ x = [] ∧ y = []
    · obtain ⟨rfl, rfl, rfl⟩ := hs
      simp [hnil]
    · have hq : (decide (s = []) && (decide (x = []) && decide (y = []))) = false := by
        rw [← Bool.not_eq_true]
        simpa using hs
      rw [hq]
      simp
  · simp
    by_cases hs : s = [] ∧ x = [] ∧ y = []
    · obtain ⟨rfl, rfl, rfl⟩ := hs
      simp [hnil]
    · have hq : (decide (s = []) && (decide (x = []) && decide (y = []))) = false := by
        rw [← Bool.not_eq_true]
        simpa using hs
      rw [hq]
      simp
  · simp
    by_cases hs : n = 0 ∧ x = [] ∧ y = []
    · obtain ⟨rfl, rfl, rfl⟩ := hs
      simp [hnil]
    · have hq : (decide (n = 0) && (decide (x = []) && decide (y = []))) = false := by
        rw [← Bool.not_eq_true]
        simpa using hs
      rw [hq]
      simp
  · simp
  · simp

set_option maxHeartbeats 6400000 in
set_option maxRecDepth 100000 in
theorem kcanMean_3 (w : World) (c : Cst) (hf : CstFit c) (ht : c.tag = 3) :
    Calls Try.prog 47 #[cstV c] w fun e w' => e = .returned (.bool (rightC c)) ∧ Below w.heap.size w w' := by
  obtain ⟨tag, n, cls, name, type⟩ := c
  obtain ⟨hf0, hf1, hf2, hf3, hf4⟩ := hf
  simp only at hf0 hf1 hf2 hf3 hf4 ht
  subst ht
  have e1 := rightC_code ⟨3, n, cls, name, type⟩ ⟨3, n, [], [], []⟩ (by simp)
  simp only at e1
  rw [e1]
  clear e1
  have J2 : ∀ W, (binOp .eql 50 (cstV ⟨3, n, cls, name, type⟩) (cstV ⟨3, n, [], [], []⟩)).run Try.prog W = .ok (.bool (decide ((⟨3, n, cls, name, type⟩ : Cst) = ⟨3, n, [], [], []⟩))) W := fun W => cst_cmp W _ _
  generalize decide ((⟨3, n, cls, name, type⟩ : Cst) = ⟨3, n, [], [], []⟩) = b1 at *
  have HF : Hid (∀ W, Calls Try.prog 66 #[.int .i64 3, .int .i64 n] W fun e w' => e = .returned (.bool (fitsE 3 n)) ∧ w' = W) := fun W => kfits_any W 3 n hf1
  have H1 : Hid (∀ W, Calls Try.prog 64 #[.string ⟨cls.toArray⟩] W fun e w' => e = .returned (.bool (textB cls)) ∧ w' = W) := fun W => kisText_any W cls hf2
  have H2 : Hid (∀ W, Calls Try.prog 64 #[.string ⟨name.toArray⟩] W fun e w' => e = .returned (.bool (textB name)) ∧ w' = W) := fun W => kisText_any W name hf3
  have H3 : Hid (∀ W, Calls Try.prog 64 #[.string ⟨type.toArray⟩] W fun e w' => e = .returned (.bool (textB type)) ∧ w' = W) := fun W => kisText_any W type hf4
  generalize fitsE 3 n = b2 at *
  generalize textB cls = b3 at *
  generalize textB name = b4 at *
  generalize textB type = b5 at *
  unfold cstV at *
  simp only at J2 ⊢
  generalize (⟨cls.toArray⟩ : ByteArray) = s1 at *
  generalize (⟨name.toArray⟩ : ByteArray) = s2 at *
  generalize (⟨type.toArray⟩ : ByteArray) = s3 at *
  clear hf0 hf1 hf2 hf3 hf4
  go_enter Try.func47, Try.ntmps47
  cases b1
  case false =>
    go_wp2
    go_ret
    exact ⟨rfl, two_bel w _ _⟩
  go_wp2_with fail
  refine (unhide HF _).mono ?_
  rintro e wq ⟨rfl, e0⟩
  have e0' := e0.symm
  clear e0
  subst e0'
  cases b2
  case false =>
    go_wp2
    go_ret
    exact ⟨rfl, two_bel w _ _⟩
  go_wp2_with fail
  refine (unhide H1 _).mono ?_
  rintro e wq ⟨rfl, e0⟩
  have e0' := e0.symm
  clear e0
  subst e0'
  cases b3
  case false =>
    go_wp2
    go_ret
    exact ⟨rfl, two_bel w _ _⟩
  go_wp2_with fail
  refine (unhide H2 _).mono ?_
  rintro e wq ⟨rfl, e0⟩
  have e0' := e0.symm
  clear e0
  subst e0'
  cases b4
  case false =>
    go_wp2
    go_ret
    exact ⟨rfl, two_bel w _ _⟩
  go_wp2_with fail
  refine (unhide H3 _).mono ?_
  rintro e wq ⟨rfl, e0⟩
  have e0' := e0.symm
  clear e0
  subst e0'
  cases b5
  case false =>
    go_wp2
    go_ret
    exact ⟨rfl, two_bel w _ _⟩
  go_wp2
  go_ret
  exact ⟨rfl, two_bel w _ _⟩

set_option maxHeartbeats 6400000 in
set_option maxRecDepth 100000 in
theorem kcanMean_5 (w : World) (c : Cst) (hf : CstFit c) (ht : c.tag = 5) :
    Calls Try.prog 47 #[cstV c] w fun e w' => e = .returned (.bool (rightC c)) ∧ Below w.heap.size w w' := by
  obtain ⟨tag, n, cls, name, type⟩ := c
  obtain ⟨hf0, hf1, hf2, hf3, hf4⟩ := hf
  simp only at hf0 hf1 hf2 hf3 hf4 ht
  subst ht
  have e1 := rightC_code ⟨5, n, cls, name, type⟩ ⟨5, n, [], [], []⟩ (by simp)
  simp only at e1
  rw [e1]
  clear e1
  have J2 : ∀ W, (binOp .eql 50 (cstV ⟨5, n, cls, name, type⟩) (cstV ⟨5, n, [], [], []⟩)).run Try.prog W = .ok (.bool (decide ((⟨5, n, cls, name, type⟩ : Cst) = ⟨5, n, [], [], []⟩))) W := fun W => cst_cmp W _ _
  generalize decide ((⟨5, n, cls, name, type⟩ : Cst) = ⟨5, n, [], [], []⟩) = b1 at *
  have HF : Hid (∀ W, Calls Try.prog 66 #[.int .i64 5, .int .i64 n] W fun e w' => e = .returned (.bool (fitsE 5 n)) ∧ w' = W) := fun W => kfits_any W 5 n hf1
  have H1 : Hid (∀ W, Calls Try.prog 64 #[.string ⟨cls.toArray⟩] W fun e w' => e = .returned (.bool (textB cls)) ∧ w' = W) := fun W => kisText_any W cls hf2
  have H2 : Hid (∀ W, Calls Try.prog 64 #[.string ⟨name.toArray⟩] W fun e w' => e = .returned (.bool (textB name)) ∧ w' = W) := fun W => kisText_any W name hf3
  have H3 : Hid (∀ W, Calls Try.prog 64 #[.string ⟨type.toArray⟩] W fun e w' => e = .returned (.bool (textB type)) ∧ w' = W) := fun W => kisText_any W type hf4
  generalize fitsE 5 n = b2 at *
  generalize textB cls = b3 at *
  generalize textB name = b4 at *
  generalize textB type = b5 at *
  unfold cstV at *
  simp only at J2 ⊢
  generalize (⟨cls.toArray⟩ : ByteArray) = s1 at *
  generalize (⟨name.toArray⟩ : ByteArray) = s2 at *
  generalize (⟨type.toArray⟩ : ByteArray) = s3 at *
  clear hf0 hf1 hf2 hf3 hf4
  go_enter Try.func47, Try.ntmps47
  cases b1
  case false =>
    go_wp2
    go_ret
    exact ⟨rfl, two_bel w _ _⟩
  go_wp2_with fail
  refine (unhide HF _).mono ?_
  rintro e wq ⟨rfl, e0⟩
  have e0' := e0.symm
  clear e0
  subst e0'
  cases b2
  case false =>
    go_wp2
    go_ret
    exact ⟨rfl, two_bel w _ _⟩
  go_wp2_with fail
  refine (unhide H1 _).mono ?_
  rintro e wq ⟨rfl, e0⟩
  have e0' := e0.symm
  clear e0
  subst e0'
  cases b3
  case false =>
    go_wp2
    go_ret
    exact ⟨rfl, two_bel w _ _⟩
  go_wp2_with fail
  refine (unhide H2 _).mono ?_
  rintro e wq ⟨rfl, e0⟩
  have e0' := e0.symm
  clear e0
  subst e0'
  cases b4
  case false =>
    go_wp2
    go_ret
    exact ⟨rfl, two_bel w _ _⟩
  go_wp2_with fail
  refine (unhide H3 _).mono ?_
  rintro e wq ⟨rfl, e0⟩
  have e0' := e0.symm
  clear e0
  subst e0'
  cases b5
  case false =>
    go_wp2
    go_ret
    exact ⟨rfl, two_bel w _ _⟩
  go_wp2
  go_ret
  exact ⟨rfl, two_bel w _ _⟩

set_option maxHeartbeats 6400000 in
set_option maxRecDepth 100000 in
theorem kcanMean_7 (w : World) (c : Cst) (hf : CstFit c) (ht : c.tag = 7) :
    Calls Try.prog 47 #[cstV c] w fun e w' => e = .returned (.bool (rightC c)) ∧ Below w.heap.size w w' := by
  obtain ⟨tag, n, cls, name, type⟩ := c
  obtain ⟨hf0, hf1, hf2, hf3, hf4⟩ := hf
  simp only at hf0 hf1 hf2 hf3 hf4 ht
  subst ht
  have e1 := rightC_code ⟨7, n, cls, name, type⟩ ⟨7, 0, cls, [], []⟩ (by simp)
  simp only at e1
  rw [e1]
  clear e1
  have J2 : ∀ W, (binOp .eql 50 (cstV ⟨7, n, cls, name, type⟩) (cstV ⟨7, 0, cls, [], []⟩)).run Try.prog W = .ok (.bool (decide ((⟨7, n, cls, name, type⟩ : Cst) = ⟨7, 0, cls, [], []⟩))) W := fun W => cst_cmp W _ _
  generalize decide ((⟨7, n, cls, name, type⟩ : Cst) = ⟨7, 0, cls, [], []⟩) = b1 at *
  have HF : Hid (∀ W, Calls Try.prog 66 #[.int .i64 7, .int .i64 n] W fun e w' => e = .returned (.bool (fitsE 7 n)) ∧ w' = W) := fun W => kfits_any W 7 n hf1
  have H1 : Hid (∀ W, Calls Try.prog 64 #[.string ⟨cls.toArray⟩] W fun e w' => e = .returned (.bool (textB cls)) ∧ w' = W) := fun W => kisText_any W cls hf2
  have H2 : Hid (∀ W, Calls Try.prog 64 #[.string ⟨name.toArray⟩] W fun e w' => e = .returned (.bool (textB name)) ∧ w' = W) := fun W => kisText_any W name hf3
  have H3 : Hid (∀ W, Calls Try.prog 64 #[.string ⟨type.toArray⟩] W fun e w' => e = .returned (.bool (textB type)) ∧ w' = W) := fun W => kisText_any W type hf4
  generalize fitsE 7 n = b2 at *
  generalize textB cls = b3 at *
  generalize textB name = b4 at *
  generalize textB type = b5 at *
  unfold cstV at *
  simp only at J2 ⊢
  generalize (⟨cls.toArray⟩ : ByteArray) = s1 at *
  generalize (⟨name.toArray⟩ : ByteArray) = s2 at *
  generalize (⟨type.toArray⟩ : ByteArray) = s3 at *
  clear hf0 hf1 hf2 hf3 hf4
  go_enter Try.func47, Try.ntmps47
  cases b1
  case false =>
    go_wp2
    go_ret
    exact ⟨rfl, two_bel w _ _⟩
  go_wp2_with fail
  refine (unhide HF _).mono ?_
  rintro e wq ⟨rfl, e0⟩
  have e0' := e0.symm
  clear e0
  subst e0'
  cases b2
  case false =>
    go_wp2
    go_ret
    exact ⟨rfl, two_bel w _ _⟩
  go_wp2_with fail
  refine (unhide H1 _).mono ?_
  rintro e wq ⟨rfl, e0⟩
  have e0' := e0.symm
  clear e0
  subst e0'
  cases b3
  case false =>
    go_wp2
    go_ret
    exact ⟨rfl, two_bel w _ _⟩
  go_wp2_with fail
  refine (unhide H2 _).mono ?_
  rintro e wq ⟨rfl, e0⟩
  have e0' := e0.symm
  clear e0
  subst e0'
  cases b4
  case false =>
    go_wp2
    go_ret
    exact ⟨rfl, two_bel w _ _⟩
  go_wp2_with fail
  refine (unhide H3 _).mono ?_
  rintro e wq ⟨rfl, e0⟩
  have e0' := e0.symm
  clear e0
  subst e0'
  cases b5
  case false =>
    go_wp2
    go_ret
    exact ⟨rfl, two_bel w _ _⟩
  go_wp2
  go_ret
  exact ⟨rfl, two_bel w _ _⟩

set_option maxHeartbeats 6400000 in
set_option maxRecDepth 100000 in
theorem kcanMean_9 (w : World) (c : Cst) (hf : CstFit c) (ht : c.tag = 9) :
    Calls Try.prog 47 #[cstV c] w fun e w' => e = .returned (.bool (rightC c)) ∧ Below w.heap.size w w' := by
  obtain ⟨tag, n, cls, name, type⟩ := c
  obtain ⟨hf0, hf1, hf2, hf3, hf4⟩ := hf
  simp only at hf0 hf1 hf2 hf3 hf4 ht
  subst ht
  have e1 := rightC_code ⟨9, n, cls, name, type⟩ ⟨9, 0, cls, name, type⟩ (by simp)
  simp only at e1
  rw [e1]
  clear e1
  have J2 : ∀ W, (binOp .eql 50 (cstV ⟨9, n, cls, name, type⟩) (cstV ⟨9, 0, cls, name, type⟩)).run Try.prog W = .ok (.bool (decide ((⟨9, n, cls, name, type⟩ : Cst) = ⟨9, 0, cls, name, type⟩))) W := fun W => cst_cmp W _ _
  generalize decide ((⟨9, n, cls, name, type⟩ : Cst) = ⟨9, 0, cls, name, type⟩) = b1 at *
  have HF : Hid (∀ W, Calls Try.prog 66 #[.int .i64 9, .int .i64 n] W fun e w' => e = .returned (.bool (fitsE 9 n)) ∧ w' = W) := fun W => kfits_any W 9 n hf1
  have H1 : Hid (∀ W, Calls Try.prog 64 #[.string ⟨cls.toArray⟩] W fun e w' => e = .returned (.bool (textB cls)) ∧ w' = W) := fun W => kisText_any W cls hf2
  have H2 : Hid (∀ W, Calls Try.prog 64 #[.string ⟨name.toArray⟩] W fun e w' => e = .returned (.bool (textB name)) ∧ w' = W) := fun W => kisText_any W name hf3
  have H3 : Hid (∀ W, Calls Try.prog 64 #[.string ⟨type.toArray⟩] W fun e w' => e = .returned (.bool (textB type)) ∧ w' = W) := fun W => kisText_any W type hf4
  generalize fitsE 9 n = b2 at *
  generalize textB cls = b3 at *
  generalize textB name = b4 at *
  generalize textB type = b5 at *
  unfold cstV at *
  simp only at J2 ⊢
  generalize (⟨cls.toArray⟩ : ByteArray) = s1 at *
  generalize (⟨name.toArray⟩ : ByteArray) = s2 at *
  generalize (⟨type.toArray⟩ : ByteArray) = s3 at *
  clear hf0 hf1 hf2 hf3 hf4
  go_enter Try.func47, Try.ntmps47
  go_wp2
  have hX := two_heap w (.cells #[.int .i64 9, .int .i64 n, .string s1, .string s2, .string s3] 50) (.cells #[.int .i64 9, .int .i64 0, .string ⟨#[]⟩, .string ⟨#[]⟩, .string ⟨#[]⟩] 50)
  have hY := heap_alloc2_new w (.cells #[.int .i64 9, .int .i64 n, .string s1, .string s2, .string s3] 50) (.cells #[.int .i64 9, .int .i64 0, .string ⟨#[]⟩, .string ⟨#[]⟩, .string ⟨#[]⟩] 50)
  have hB := two_bel w (.cells #[.int .i64 9, .int .i64 n, .string s1, .string s2, .string s3] 50) (.cells #[.int .i64 9, .int .i64 0, .string ⟨#[]⟩, .string ⟨#[]⟩, .string ⟨#[]⟩] 50)
  generalize (w.alloc (.cells #[.int .i64 9, .int .i64 n, .string s1, .string s2, .string s3] 50)).alloc (.cells #[.int .i64 9, .int .i64 0, .string ⟨#[]⟩, .string ⟨#[]⟩, .string ⟨#[]⟩] 50) = W3 at *
  have l3 : W3.cell? ⟨w.heap.size, 3, none⟩ = some (.string s2) := by rw [cell_of_row _ _ _ _ _ _ hX]; rfl
  have l4 : W3.cell? ⟨w.heap.size, 4, none⟩ = some (.string s3) := by rw [cell_of_row _ _ _ _ _ _ hX]; rfl
  have k3 : W3.cell? ⟨w.heap.size + 1, 3, none⟩ = some (.string ⟨#[]⟩) := by rw [cell_of_row _ _ _ _ _ _ hY]; rfl
  have k4 : W3.cell? ⟨w.heap.size + 1, 4, none⟩ = some (.string ⟨#[]⟩) := by rw [cell_of_row _ _ _ _ _ _ hY]; rfl
  have fz : ∀ j, W3.frozen? ⟨w.heap.size + 1, j, none⟩ = false := fun j => frozen_of_row _ _ _ _ _ hY
  have nh : ¬ w.heap.size = w.heap.size + 1 := by omega
  have nh' : ¬ w.heap.size + 1 = w.heap.size := by omega
  have HX := hide hX
  have HY := hide hY
  have HB := hide hB
  clear hX hY hB
  go_region_held_law (fun W => W.cell? ⟨w.heap.size, 3, none⟩ = some (.string s2) ∧ W.cell? ⟨w.heap.size, 4, none⟩ = some (.string s3)) (go_keep)
    (first | (fail))
  have hX4 : ((W3.setCell ⟨w.heap.size + 1, 3, none⟩ (.string s2)).setCell ⟨w.heap.size + 1, 4, none⟩ (.string s3)).drew.heap[w.heap.size]? = _ := (Below.heap_setCell _ _ _ _ (by simp)).trans ((Below.heap_setCell _ _ _ _ (by simp)).trans (unhide HX))
  have hY4 : ((W3.setCell ⟨w.heap.size + 1, 3, none⟩ (.string s2)).setCell ⟨w.heap.size + 1, 4, none⟩ (.string s3)).drew.heap[w.heap.size + 1]? = some (.cells #[.int .i64 9, .int .i64 0, .string ⟨#[]⟩, .string s2, .string s3] 50 (0, 0)) := heap_setCell_same _ _ 4 _ _ (.string s3) (heap_setCell_same _ _ 3 _ _ (.string s2) (unhide HY))
  have hB4 : Below w.heap.size w ((W3.setCell ⟨w.heap.size + 1, 3, none⟩ (.string s2)).setCell ⟨w.heap.size + 1, 4, none⟩ (.string s3)).drew := (((unhide HB).setCell (p := ⟨w.heap.size + 1, 3, none⟩) (by simp) _).setCell (p := ⟨w.heap.size + 1, 4, none⟩) (by simp) _).drew
  generalize ((W3.setCell ⟨w.heap.size + 1, 3, none⟩ (.string s2)).setCell ⟨w.heap.size + 1, 4, none⟩ (.string s3)).drew = W4 at *
  have d0 : W4.cell? ⟨w.heap.size, 0, none⟩ = some (.int .i64 9) := by rw [cell_of_row _ _ _ _ _ _ hX4]; rfl
  have d1 : W4.cell? ⟨w.heap.size, 1, none⟩ = some (.int .i64 n) := by rw [cell_of_row _ _ _ _ _ _ hX4]; rfl
  have d2 : W4.cell? ⟨w.heap.size, 2, none⟩ = some (.string s1) := by rw [cell_of_row _ _ _ _ _ _ hX4]; rfl
  have d3 : W4.cell? ⟨w.heap.size, 3, none⟩ = some (.string s2) := by rw [cell_of_row _ _ _ _ _ _ hX4]; rfl
  have d4 : W4.cell? ⟨w.heap.size, 4, none⟩ = some (.string s3) := by rw [cell_of_row _ _ _ _ _ _ hX4]; rfl
  have e0 : W4.cell? ⟨w.heap.size + 1, 0, none⟩ = some (.int .i64 9) := by rw [cell_of_row _ _ _ _ _ _ hY4]; rfl
  have e1 : W4.cell? ⟨w.heap.size + 1, 1, none⟩ = some (.int .i64 0) := by rw [cell_of_row _ _ _ _ _ _ hY4]; rfl
  have e2 : W4.cell? ⟨w.heap.size + 1, 2, none⟩ = some (.string ⟨#[]⟩) := by rw [cell_of_row _ _ _ _ _ _ hY4]; rfl
  have e3 : W4.cell? ⟨w.heap.size + 1, 3, none⟩ = some (.string s2) := by rw [cell_of_row _ _ _ _ _ _ hY4]; rfl
  have e4 : W4.cell? ⟨w.heap.size + 1, 4, none⟩ = some (.string s3) := by rw [cell_of_row _ _ _ _ _ _ hY4]; rfl
  have fz4 : ∀ j, W4.frozen? ⟨w.heap.size + 1, j, none⟩ = false := fun j => frozen_of_row _ _ _ _ _ hY4
  have HB4 := hide (hB4.setCell (p := ⟨w.heap.size + 1, 2, none⟩) (by simp) (.string s1))
  clear hX4 hY4 hB4 HX HY HB l3 l4 k3 k4 fz
  cases b1
  case false =>
    go_wp2
    go_ret
    exact ⟨rfl, unhide HB4⟩
  go_wp2_with fail
  refine (unhide HF _).mono ?_
  rintro e wq ⟨rfl, e0⟩
  have e0' := e0.symm
  clear e0
  subst e0'
  cases b2
  case false =>
    go_wp2
    go_ret
    exact ⟨rfl, unhide HB4⟩
  go_wp2_with fail
  refine (unhide H1 _).mono ?_
  rintro e wq ⟨rfl, e0⟩
  have e0' := e0.symm
  clear e0
  subst e0'
  cases b3
  case false =>
    go_wp2
    go_ret
    exact ⟨rfl, unhide HB4⟩
  go_wp2_with fail
  refine (unhide H2 _).mono ?_
  rintro e wq ⟨rfl, e0⟩
  have e0' := e0.symm
  clear e0
  subst e0'
  cases b4
  case false =>
    go_wp2
    go_ret
    exact ⟨rfl, unhide HB4⟩
  go_wp2_with fail
  refine (unhide H3 _).mono ?_
  rintro e wq ⟨rfl, e0⟩
  have e0' := e0.symm
  clear e0
  subst e0'
  cases b5
  case false =>
    go_wp2
    go_ret
    exact ⟨rfl, unhide HB4⟩
  go_wp2
  go_ret
  exact ⟨rfl, unhide HB4⟩

set_option maxHeartbeats 6400000 in
set_option maxRecDepth 100000 in
theorem kcanMean_10 (w : World) (c : Cst) (hf : CstFit c) (ht : c.tag = 10) :
    Calls Try.prog 47 #[cstV c] w fun e w' => e = .returned (.bool (rightC c)) ∧ Below w.heap.size w w' := by
  obtain ⟨tag, n, cls, name, type⟩ := c
  obtain ⟨hf0, hf1, hf2, hf3, hf4⟩ := hf
  simp only at hf0 hf1 hf2 hf3 hf4 ht
  subst ht
  have e1 := rightC_code ⟨10, n, cls, name, type⟩ ⟨10, 0, cls, name, type⟩ (by simp)
  simp only at e1
  rw [e1]
  clear e1
  have J2 : ∀ W, (binOp .eql 50 (cstV ⟨10, n, cls, name, type⟩) (cstV ⟨10, 0, cls, name, type⟩)).run Try.prog W = .ok (.bool (decide ((⟨10, n, cls, name, type⟩ : Cst) = ⟨10, 0, cls, name, type⟩))) W := fun W => cst_cmp W _ _
  generalize decide ((⟨10, n, cls, name, type⟩ : Cst) = ⟨10, 0, cls, name, type⟩) = b1 at *
  have HF : Hid (∀ W, Calls Try.prog 66 #[.int .i64 10, .int .i64 n] W fun e w' => e = .returned (.bool (fitsE 10 n)) ∧ w' = W) := fun W => kfits_any W 10 n hf1
  have H1 : Hid (∀ W, Calls Try.prog 64 #[.string ⟨cls.toArray⟩] W fun e w' => e = .returned (.bool (textB cls)) ∧ w' = W) := fun W => kisText_any W cls hf2
  have H2 : Hid (∀ W, Calls Try.prog 64 #[.string ⟨name.toArray⟩] W fun e w' => e = .returned (.bool (textB name)) ∧ w' = W) := fun W => kisText_any W name hf3
  have H3 : Hid (∀ W, Calls Try.prog 64 #[.string ⟨type.toArray⟩] W fun e w' => e = .returned (.bool (textB type)) ∧ w' = W) := fun W => kisText_any W type hf4
  generalize fitsE 10 n = b2 at *
  generalize textB cls = b3 at *
  generalize textB name = b4 at *
  generalize textB type = b5 at *
  unfold cstV at *
  simp only at J2 ⊢
  generalize (⟨cls.toArray⟩ : ByteArray) = s1 at *
  generalize (⟨name.toArray⟩ : ByteArray) = s2 at *
  generalize (⟨type.toArray⟩ : ByteArray) = s3 at *
  clear hf0 hf1 hf2 hf3 hf4
  go_enter Try.func47, Try.ntmps47
  go_wp2
  have hX := two_heap w (.cells #[.int .i64 10, .int .i64 n, .string s1, .string s2, .string s3] 50) (.cells #[.int .i64 10, .int .i64 0, .string ⟨#[]⟩, .string ⟨#[]⟩, .string ⟨#[]⟩] 50)
  have hY := heap_alloc2_new w (.cells #[.int .i64 10, .int .i64 n, .string s1, .string s2, .string s3] 50) (.cells #[.int .i64 10, .int .i64 0, .string ⟨#[]⟩, .string ⟨#[]⟩, .string ⟨#[]⟩] 50)
  have hB := two_bel w (.cells #[.int .i64 10, .int .i64 n, .string s1, .string s2, .string s3] 50) (.cells #[.int .i64 10, .int .i64 0, .string ⟨#[]⟩, .string ⟨#[]⟩, .string ⟨#[]⟩] 50)
  generalize (w.alloc (.cells #[.int .i64 10, .int .i64 n, .string s1, .string s2, .string s3] 50)).alloc (.cells #[.int .i64 10, .int .i64 0, .string ⟨#[]⟩, .string ⟨#[]⟩, .string ⟨#[]⟩] 50) = W3 at *
  have l3 : W3.cell? ⟨w.heap.size, 3, none⟩ = some (.string s2) := by rw [cell_of_row _ _ _ _ _ _ hX]; rfl
  have l4 : W3.cell? ⟨w.heap.size, 4, none⟩ = some (.string s3) := by rw [cell_of_row _ _ _ _ _ _ hX]; rfl
  have k3 : W3.cell? ⟨w.heap.size + 1, 3, none⟩ = some (.string ⟨#[]⟩) := by rw [cell_of_row _ _ _ _ _ _ hY]; rfl
  have k4 : W3.cell? ⟨w.heap.size + 1, 4, none⟩ = some (.string ⟨#[]⟩) := by rw [cell_of_row _ _ _ _ _ _ hY]; rfl
  have fz : ∀ j, W3.frozen? ⟨w.heap.size + 1, j, none⟩ = false := fun j => frozen_of_row _ _ _ _ _ hY
  have nh : ¬ w.heap.size = w.heap.size + 1 := by omega
  have nh' : ¬ w.heap.size + 1 = w.heap.size := by omega
  have HX := hide hX
  have HY := hide hY
  have HB := hide hB
  clear hX hY hB
  go_region_held_law (fun W => W.cell? ⟨w.heap.size, 3, none⟩ = some (.string s2) ∧ W.cell? ⟨w.heap.size, 4, none⟩ = some (.string s3)) (go_keep)
    (first | (fail))
  have hX4 : ((W3.setCell ⟨w.heap.size + 1, 3, none⟩ (.string s2)).setCell ⟨w.heap.size + 1, 4, none⟩ (.string s3)).drew.heap[w.heap.size]? = _ := (Below.heap_setCell _ _ _ _ (by simp)).trans ((Below.heap_setCell _ _ _ _ (by simp)).trans (unhide HX))
  have hY4 : ((W3.setCell ⟨w.heap.size + 1, 3, none⟩ (.string s2)).setCell ⟨w.heap.size + 1, 4, none⟩ (.string s3)).drew.heap[w.heap.size + 1]? = some (.cells #[.int .i64 10, .int .i64 0, .string ⟨#[]⟩, .string s2, .string s3] 50 (0, 0)) := heap_setCell_same _ _ 4 _ _ (.string s3) (heap_setCell_same _ _ 3 _ _ (.string s2) (unhide HY))
  have hB4 : Below w.heap.size w ((W3.setCell ⟨w.heap.size + 1, 3, none⟩ (.string s2)).setCell ⟨w.heap.size + 1, 4, none⟩ (.string s3)).drew := (((unhide HB).setCell (p := ⟨w.heap.size + 1, 3, none⟩) (by simp) _).setCell (p := ⟨w.heap.size + 1, 4, none⟩) (by simp) _).drew
  generalize ((W3.setCell ⟨w.heap.size + 1, 3, none⟩ (.string s2)).setCell ⟨w.heap.size + 1, 4, none⟩ (.string s3)).drew = W4 at *
  have d0 : W4.cell? ⟨w.heap.size, 0, none⟩ = some (.int .i64 10) := by rw [cell_of_row _ _ _ _ _ _ hX4]; rfl
  have d1 : W4.cell? ⟨w.heap.size, 1, none⟩ = some (.int .i64 n) := by rw [cell_of_row _ _ _ _ _ _ hX4]; rfl
  have d2 : W4.cell? ⟨w.heap.size, 2, none⟩ = some (.string s1) := by rw [cell_of_row _ _ _ _ _ _ hX4]; rfl
  have d3 : W4.cell? ⟨w.heap.size, 3, none⟩ = some (.string s2) := by rw [cell_of_row _ _ _ _ _ _ hX4]; rfl
  have d4 : W4.cell? ⟨w.heap.size, 4, none⟩ = some (.string s3) := by rw [cell_of_row _ _ _ _ _ _ hX4]; rfl
  have e0 : W4.cell? ⟨w.heap.size + 1, 0, none⟩ = some (.int .i64 10) := by rw [cell_of_row _ _ _ _ _ _ hY4]; rfl
  have e1 : W4.cell? ⟨w.heap.size + 1, 1, none⟩ = some (.int .i64 0) := by rw [cell_of_row _ _ _ _ _ _ hY4]; rfl
  have e2 : W4.cell? ⟨w.heap.size + 1, 2, none⟩ = some (.string ⟨#[]⟩) := by rw [cell_of_row _ _ _ _ _ _ hY4]; rfl
  have e3 : W4.cell? ⟨w.heap.size + 1, 3, none⟩ = some (.string s2) := by rw [cell_of_row _ _ _ _ _ _ hY4]; rfl
  have e4 : W4.cell? ⟨w.heap.size + 1, 4, none⟩ = some (.string s3) := by rw [cell_of_row _ _ _ _ _ _ hY4]; rfl
  have fz4 : ∀ j, W4.frozen? ⟨w.heap.size + 1, j, none⟩ = false := fun j => frozen_of_row _ _ _ _ _ hY4
  have HB4 := hide (hB4.setCell (p := ⟨w.heap.size + 1, 2, none⟩) (by simp) (.string s1))
  clear hX4 hY4 hB4 HX HY HB l3 l4 k3 k4 fz
  cases b1
  case false =>
    go_wp2
    go_ret
    exact ⟨rfl, unhide HB4⟩
  go_wp2_with fail
  refine (unhide HF _).mono ?_
  rintro e wq ⟨rfl, e0⟩
  have e0' := e0.symm
  clear e0
  subst e0'
  cases b2
  case false =>
    go_wp2
    go_ret
    exact ⟨rfl, unhide HB4⟩
  go_wp2_with fail
  refine (unhide H1 _).mono ?_
  rintro e wq ⟨rfl, e0⟩
  have e0' := e0.symm
  clear e0
  subst e0'
  cases b3
  case false =>
    go_wp2
    go_ret
    exact ⟨rfl, unhide HB4⟩
  go_wp2_with fail
  refine (unhide H2 _).mono ?_
  rintro e wq ⟨rfl, e0⟩
  have e0' := e0.symm
  clear e0
  subst e0'
  cases b4
  case false =>
    go_wp2
    go_ret
    exact ⟨rfl, unhide HB4⟩
  go_wp2_with fail
  refine (unhide H3 _).mono ?_
  rintro e wq ⟨rfl, e0⟩
  have e0' := e0.symm
  clear e0
  subst e0'
  cases b5
  case false =>
    go_wp2
    go_ret
    exact ⟨rfl, unhide HB4⟩
  go_wp2
  go_ret
  exact ⟨rfl, unhide HB4⟩

set_option maxHeartbeats 1600000 in
set_option maxRecDepth 100000 in
theorem kcanMean_any (w : World) (c : Cst) (hf : CstFit c) :
    Calls Try.prog 47 #[cstV c] w fun e w' => e = .returned (.bool (rightC c)) ∧ Below w.heap.size w w' := by
  by_cases t3 : c.tag = 3
  · exact kcanMean_3 w c hf t3
  by_cases t5 : c.tag = 5
  · exact kcanMean_5 w c hf t5
  by_cases t7 : c.tag = 7
  · exact kcanMean_7 w c hf t7
  by_cases t9 : c.tag = 9
  · exact kcanMean_9 w c hf t9
  by_cases t10 : c.tag = 10
  · exact kcanMean_10 w c hf t10
  have e1 : rightC c = false := by
    unfold rightC
    rw [if_neg t3, if_neg t5, if_neg t7, if_neg (by omega)]
  rw [e1]
  obtain ⟨tag, n, cls, name, type⟩ := c
  simp only at t3 t5 t7 t9 t10
  unfold cstV
  have b3 : (tag == 3) = false := by simpa using t3
  have b5 : (tag == 5) = false := by simpa using t5
  have b7 : (tag == 7) = false := by simpa using t7
  have b9 : (tag == 9) = false := by simpa using t9
  have b10 : (tag == 10) = false := by simpa using t10
  clear e1 t3 t5 t7 t9 t10 hf
  simp only
  generalize (⟨cls.toArray⟩ : ByteArray) = s1 at *
  generalize (⟨name.toArray⟩ : ByteArray) = s2 at *
  generalize (⟨type.toArray⟩ : ByteArray) = s3 at *
  go_enter Try.func47, Try.ntmps47
  go_wp2
  go_ret
  exact ⟨rfl, two_bel w _ _⟩

end Go.Proofs.Ytchhjieciiaooaa
