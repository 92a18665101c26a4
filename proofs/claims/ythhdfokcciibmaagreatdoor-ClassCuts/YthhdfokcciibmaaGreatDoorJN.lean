/- Joined: CkR CkS CkU CkX CkY CkZ. -/
import Derived.Test.YthhdfokcciibmaaGreatDoorJLsA
import Derived.Test.YthhdfokcciibmaaGreatDoorJCkB
import Derived.Test.YthhdfokcciibmaaGreatDoorJD
import Derived.Test.YthhdfokcciibmaaGreatDoorJClF

/- The landed class: its lists cloned. -/
namespace Go.Proofs.YthhdfokcciibmaaGreatDoor
open Go.RowKit
set_option linter.unusedVariables false
set_option maxRecDepth 100000

theorem rkE : Rk ec 55 22 5 48 (.agg #[.int .i64 0, .string ⟨#[]⟩, .int .i64 0, .int .i64 0, .int .i64 0]) := ⟨fun _ => rfl, fun x u hu => by simp [ec] at hu; rcases hu with rfl | rfl | rfl | rfl | rfl <;> rfl, by decide, by kernel_rfl, rfl, Tryz.underlying22⟩
theorem ls_of_es {w : World} {a : Option Addr} {n : Nat} {l : List Ent} (h : Es w a n l) : Ls 5 ec w a n l := by
  refine ⟨h.1, ?_⟩
  rcases h.2 with h0 | ⟨b, o, e, hE⟩
  · exact .inl h0
  · by_cases hn : n = 0
    · exact .inl hn
    · have key : ∀ (k : Nat) (x : Ent), l[k]? = some x → ∀ (q : Nat) (u : Value), (ec x)[q]? = some u → w.cell? ⟨b, o + k * 5 + q, none⟩ = some u := fun k x hx q u hu => by
        have := hE ⟨b, o, none⟩ rfl (k * 5 + q) u (flatR_at (cs := ec) (fun _ => rfl) l k x hx q u hu)
        rw [Addr.add_mid, ← Nat.add_assoc] at this
        exact this
      obtain ⟨x, hx⟩ : ∃ x, l[0]? = some x := ⟨_, List.getElem?_eq_getElem (by have := h.1; omega)⟩
      have hlt := World.block_lt_of_cell? _ _ (key 0 x hx 0 _ rfl)
      exact .inr ⟨b, o, e, hlt, key⟩
theorem es_of_ls {w : World} {a : Option Addr} {n : Nat} {l : List Ent} (h : Ls 5 ec w a n l) : Es w a n l := by
  refine ⟨h.1, ?_⟩
  rcases h.2 with h0 | ⟨b, o, e, _, hE⟩
  · exact .inl h0
  · refine .inr ⟨b, o, e, fun ad ead j u hu => ?_⟩
    injection ead with ead
    subst ead
    obtain ⟨k, x, q, h1, h2, rfl⟩ := flatR_of (cs := ec) (sz := 5) (fun _ => rfl) (by decide) l j u hu
    rw [Addr.add_mid, ← Nat.add_assoc]
    exact hE k x h1 q u h2

set_option maxHeartbeats 800000 in
theorem slCloneF_any (w : World) (s : Sl) (l : List Fd) (hL : Ls 3 fdc w s.a s.n l) (hnil : s.a = none → s.n = 0 ∧ s.c = 0) (hsm : s.n * 40 ≤ 140737488351232) :
    Calls Tryz.prog 20 #[s.v] w fun e w' => ∃ v, e = .returned v ∧ Orw fdc 58 3 w' w.heap.size v l ∧ Below w.heap.size w w' := by
  obtain ⟨a, n, c⟩ := s
  have q : ∀ (w : World) (a : Option Addr) (n c n' c' : Nat), (binOp .eql 23 (.slice a n c) (.slice none n' c')).run Tryz.prog w = .ok (.bool a.isNone) w := fun w a n c n' c' => Lib.run_eql_slice_nil w _ _ a n c n' c' Tryz.underlying23
  unfold Sl.v
  simp only at hL hnil hsm ⊢
  cases a with
  | none =>
    obtain ⟨rfl, rfl⟩ := hnil rfl
    have hl0 : l = [] := List.eq_nil_of_length_eq_zero hL.1
    subst hl0
    clear hL hnil
    go_enter Tryz.func20, Tryz.ntmps20
    go_wp2
    go_ret
    exact ⟨_, rfl, Orw.nil _ _ _ _ _, Below.refl _ _⟩
  | some ad =>
    have hown : Orw fdc 58 3 (w.alloc (.cells #[] 58)) w.heap.size (.slice (some ⟨w.heap.size, 0, none⟩) 0 0) [] := Orw.made _ _ _ w _ (Nat.le_refl _)
    have HB := hide (hL.below ((Below.refl _ _).alloc (Nat.le_refl _) (.cells #[] 58)))
    have HO0 := hide hown
    have hsm1 : ([] : List Fd).length + n ≤ 140737488355328 := by simp; omega
    have hsm2 : (([] : List Fd).length + n) * 40 ≤ 140737488355328 := by simp; omega
    have HS1 := hide hsm1
    have HS2 := hide hsm2
    clear hL hown hsm1 hsm2 hnil
    go_enter Tryz.func20, Tryz.ntmps20
    go_wp2_with (at_builtin; refine listR_append rkF rfl _ _ rfl w.heap.size _ [] rfl (unhide HO0) (some ad) n c l rfl (unhide HB) (fun e => by cases e) (unhide HS2) (unhide HS1) (by simp) ?_)
    intro v' w1 o1 g1
    try rw [List.nil_append] at o1
    have hb1 : Below w.heap.size w w1 := grown_below ((Below.refl _ _).alloc (Nat.le_refl _) _) (unhide HO0) g1
    obtain ⟨a1, c1, rfl, _⟩ := o1.form
    have HO := hide o1
    have HB1 := hide hb1
    clear o1 g1 hb1
    go_wp2
    go_ret
    exact ⟨_, rfl, unhide HO, unhide HB1⟩

set_option maxHeartbeats 800000 in
theorem slCloneM_any (w : World) (s : Sl) (l : List MdR) (hL : Ls 8 mdc w s.a s.n l) (hnil : s.a = none → s.n = 0 ∧ s.c = 0) (hsm : s.n * 128 ≤ 140737488351232) :
    Calls Tryz.prog 44 #[s.v] w fun e w' => ∃ v, e = .returned v ∧ Orw mdc 49 8 w' w.heap.size v l ∧ Below w.heap.size w w' := by
  obtain ⟨a, n, c⟩ := s
  have q : ∀ (w : World) (a : Option Addr) (n c n' c' : Nat), (binOp .eql 24 (.slice a n c) (.slice none n' c')).run Tryz.prog w = .ok (.bool a.isNone) w := fun w a n c n' c' => Lib.run_eql_slice_nil w _ _ a n c n' c' Tryz.underlying24
  unfold Sl.v
  simp only at hL hnil hsm ⊢
  cases a with
  | none =>
    obtain ⟨rfl, rfl⟩ := hnil rfl
    have hl0 : l = [] := List.eq_nil_of_length_eq_zero hL.1
    subst hl0
    clear hL hnil
    go_enter Tryz.func44, Tryz.ntmps44
    go_wp2
    go_ret
    exact ⟨_, rfl, Orw.nil _ _ _ _ _, Below.refl _ _⟩
  | some ad =>
    have hown : Orw mdc 49 8 (w.alloc (.cells #[] 49)) w.heap.size (.slice (some ⟨w.heap.size, 0, none⟩) 0 0) [] := Orw.made _ _ _ w _ (Nat.le_refl _)
    have HB := hide (hL.below ((Below.refl _ _).alloc (Nat.le_refl _) (.cells #[] 49)))
    have HO0 := hide hown
    have hsm1 : ([] : List MdR).length + n ≤ 140737488355328 := by simp; omega
    have hsm2 : (([] : List MdR).length + n) * 128 ≤ 140737488355328 := by simp; omega
    have HS1 := hide hsm1
    have HS2 := hide hsm2
    clear hL hown hsm1 hsm2 hnil
    go_enter Tryz.func44, Tryz.ntmps44
    go_wp2_with (at_builtin; refine listR_append rkM rfl _ _ rfl w.heap.size _ [] rfl (unhide HO0) (some ad) n c l rfl (unhide HB) (fun e => by cases e) (unhide HS2) (unhide HS1) (by simp) ?_)
    intro v' w1 o1 g1
    try rw [List.nil_append] at o1
    have hb1 : Below w.heap.size w w1 := grown_below ((Below.refl _ _).alloc (Nat.le_refl _) _) (unhide HO0) g1
    obtain ⟨a1, c1, rfl, _⟩ := o1.form
    have HO := hide o1
    have HB1 := hide hb1
    clear o1 g1 hb1
    go_wp2
    go_ret
    exact ⟨_, rfl, unhide HO, unhide HB1⟩

set_option maxHeartbeats 800000 in
theorem slCloneH_any (w : World) (s : Sl) (l : List Hd) (hL : Ls 4 hdc w s.a s.n l) (hnil : s.a = none → s.n = 0 ∧ s.c = 0) (hsm : s.n * 32 ≤ 140737488351232) :
    Calls Tryz.prog 46 #[s.v] w fun e w' => ∃ v, e = .returned v ∧ Orw hdc 93 4 w' w.heap.size v l ∧ Below w.heap.size w w' := by
  obtain ⟨a, n, c⟩ := s
  have q : ∀ (w : World) (a : Option Addr) (n c n' c' : Nat), (binOp .eql 44 (.slice a n c) (.slice none n' c')).run Tryz.prog w = .ok (.bool a.isNone) w := fun w a n c n' c' => Lib.run_eql_slice_nil w _ _ a n c n' c' Tryz.underlying44
  unfold Sl.v
  simp only at hL hnil hsm ⊢
  cases a with
  | none =>
    obtain ⟨rfl, rfl⟩ := hnil rfl
    have hl0 : l = [] := List.eq_nil_of_length_eq_zero hL.1
    subst hl0
    clear hL hnil
    go_enter Tryz.func46, Tryz.ntmps46
    go_wp2
    go_ret
    exact ⟨_, rfl, Orw.nil _ _ _ _ _, Below.refl _ _⟩
  | some ad =>
    have hown : Orw hdc 93 4 (w.alloc (.cells #[] 93)) w.heap.size (.slice (some ⟨w.heap.size, 0, none⟩) 0 0) [] := Orw.made _ _ _ w _ (Nat.le_refl _)
    have HB := hide (hL.below ((Below.refl _ _).alloc (Nat.le_refl _) (.cells #[] 93)))
    have HO0 := hide hown
    have hsm1 : ([] : List Hd).length + n ≤ 140737488355328 := by simp; omega
    have hsm2 : (([] : List Hd).length + n) * 32 ≤ 140737488355328 := by simp; omega
    have HS1 := hide hsm1
    have HS2 := hide hsm2
    clear hL hown hsm1 hsm2 hnil
    go_enter Tryz.func46, Tryz.ntmps46
    go_wp2_with (at_builtin; refine listR_append rkH rfl _ _ rfl w.heap.size _ [] rfl (unhide HO0) (some ad) n c l rfl (unhide HB) (fun e => by cases e) (unhide HS2) (unhide HS1) (by simp) ?_)
    intro v' w1 o1 g1
    try rw [List.nil_append] at o1
    have hb1 : Below w.heap.size w w1 := grown_below ((Below.refl _ _).alloc (Nat.le_refl _) _) (unhide HO0) g1
    obtain ⟨a1, c1, rfl, _⟩ := o1.form
    have HO := hide o1
    have HB1 := hide hb1
    clear o1 g1 hb1
    go_wp2
    go_ret
    exact ⟨_, rfl, unhide HO, unhide HB1⟩

set_option maxHeartbeats 800000 in
theorem slCloneP_any (w : World) (s : Sl) (l : List MpR) (hL : Ls 3 mpc w s.a s.n l) (hnil : s.a = none → s.n = 0 ∧ s.c = 0) (hsm : s.n * 56 ≤ 140737488351232) :
    Calls Tryz.prog 80 #[s.v] w fun e w' => ∃ v, e = .returned v ∧ Orw mpc 52 3 w' w.heap.size v l ∧ Below w.heap.size w w' := by
  obtain ⟨a, n, c⟩ := s
  have q : ∀ (w : World) (a : Option Addr) (n c n' c' : Nat), (binOp .eql 45 (.slice a n c) (.slice none n' c')).run Tryz.prog w = .ok (.bool a.isNone) w := fun w a n c n' c' => Lib.run_eql_slice_nil w _ _ a n c n' c' Tryz.underlying45
  unfold Sl.v
  simp only at hL hnil hsm ⊢
  cases a with
  | none =>
    obtain ⟨rfl, rfl⟩ := hnil rfl
    have hl0 : l = [] := List.eq_nil_of_length_eq_zero hL.1
    subst hl0
    clear hL hnil
    go_enter Tryz.func80, Tryz.ntmps80
    go_wp2
    go_ret
    exact ⟨_, rfl, Orw.nil _ _ _ _ _, Below.refl _ _⟩
  | some ad =>
    have hown : Orw mpc 52 3 (w.alloc (.cells #[] 52)) w.heap.size (.slice (some ⟨w.heap.size, 0, none⟩) 0 0) [] := Orw.made _ _ _ w _ (Nat.le_refl _)
    have HB := hide (hL.below ((Below.refl _ _).alloc (Nat.le_refl _) (.cells #[] 52)))
    have HO0 := hide hown
    have hsm1 : ([] : List MpR).length + n ≤ 140737488355328 := by simp; omega
    have hsm2 : (([] : List MpR).length + n) * 56 ≤ 140737488355328 := by simp; omega
    have HS1 := hide hsm1
    have HS2 := hide hsm2
    clear hL hown hsm1 hsm2 hnil
    go_enter Tryz.func80, Tryz.ntmps80
    go_wp2_with (at_builtin; refine listR_append rkP rfl _ _ rfl w.heap.size _ [] rfl (unhide HO0) (some ad) n c l rfl (unhide HB) (fun e => by cases e) (unhide HS2) (unhide HS1) (by simp) ?_)
    intro v' w1 o1 g1
    try rw [List.nil_append] at o1
    have hb1 : Below w.heap.size w w1 := grown_below ((Below.refl _ _).alloc (Nat.le_refl _) _) (unhide HO0) g1
    obtain ⟨a1, c1, rfl, _⟩ := o1.form
    have HO := hide o1
    have HB1 := hide hb1
    clear o1 g1 hb1
    go_wp2
    go_ret
    exact ⟨_, rfl, unhide HO, unhide HB1⟩

set_option maxHeartbeats 800000 in
theorem slCloneT_any (w : World) (s : Sl) (l : List Ty) (hL : Ls 2 tyc w s.a s.n l) (hnil : s.a = none → s.n = 0 ∧ s.c = 0) (hsm : s.n * 24 ≤ 140737488351232) :
    Calls Tryz.prog 81 #[s.v] w fun e w' => ∃ v, e = .returned v ∧ Orw tyc 143 2 w' w.heap.size v l ∧ Below w.heap.size w w' := by
  obtain ⟨a, n, c⟩ := s
  have q : ∀ (w : World) (a : Option Addr) (n c n' c' : Nat), (binOp .eql 50 (.slice a n c) (.slice none n' c')).run Tryz.prog w = .ok (.bool a.isNone) w := fun w a n c n' c' => Lib.run_eql_slice_nil w _ _ a n c n' c' Tryz.underlying50
  unfold Sl.v
  simp only at hL hnil hsm ⊢
  cases a with
  | none =>
    obtain ⟨rfl, rfl⟩ := hnil rfl
    have hl0 : l = [] := List.eq_nil_of_length_eq_zero hL.1
    subst hl0
    clear hL hnil
    go_enter Tryz.func81, Tryz.ntmps81
    go_wp2
    go_ret
    exact ⟨_, rfl, Orw.nil _ _ _ _ _, Below.refl _ _⟩
  | some ad =>
    have hown : Orw tyc 143 2 (w.alloc (.cells #[] 143)) w.heap.size (.slice (some ⟨w.heap.size, 0, none⟩) 0 0) [] := Orw.made _ _ _ w _ (Nat.le_refl _)
    have HB := hide (hL.below ((Below.refl _ _).alloc (Nat.le_refl _) (.cells #[] 143)))
    have HO0 := hide hown
    have hsm1 : ([] : List Ty).length + n ≤ 140737488355328 := by simp; omega
    have hsm2 : (([] : List Ty).length + n) * 24 ≤ 140737488355328 := by simp; omega
    have HS1 := hide hsm1
    have HS2 := hide hsm2
    clear hL hown hsm1 hsm2 hnil
    go_enter Tryz.func81, Tryz.ntmps81
    go_wp2_with (at_builtin; refine listR_append rkT rfl _ _ rfl w.heap.size _ [] rfl (unhide HO0) (some ad) n c l rfl (unhide HB) (fun e => by cases e) (unhide HS2) (unhide HS1) (by simp) ?_)
    intro v' w1 o1 g1
    try rw [List.nil_append] at o1
    have hb1 : Below w.heap.size w w1 := grown_below ((Below.refl _ _).alloc (Nat.le_refl _) _) (unhide HO0) g1
    obtain ⟨a1, c1, rfl, _⟩ := o1.form
    have HO := hide o1
    have HB1 := hide hb1
    clear o1 g1 hb1
    go_wp2
    go_ret
    exact ⟨_, rfl, unhide HO, unhide HB1⟩

set_option maxHeartbeats 800000 in
theorem slCloneE_any (w : World) (s : Sl) (l : List Ent) (hL : Ls 5 ec w s.a s.n l) (hnil : s.a = none → s.n = 0 ∧ s.c = 0) (hsm : s.n * 48 ≤ 140737488351232) :
    Calls Tryz.prog 19 #[s.v] w fun e w' => ∃ v, e = .returned v ∧ Orw ec 55 5 w' w.heap.size v l ∧ Below w.heap.size w w' := by
  obtain ⟨a, n, c⟩ := s
  have q : ∀ (w : World) (a : Option Addr) (n c n' c' : Nat), (binOp .eql 22 (.slice a n c) (.slice none n' c')).run Tryz.prog w = .ok (.bool a.isNone) w := fun w a n c n' c' => Lib.run_eql_slice_nil w _ _ a n c n' c' Tryz.underlying22
  unfold Sl.v
  simp only at hL hnil hsm ⊢
  cases a with
  | none =>
    obtain ⟨rfl, rfl⟩ := hnil rfl
    have hl0 : l = [] := List.eq_nil_of_length_eq_zero hL.1
    subst hl0
    clear hL hnil
    go_enter Tryz.func19, Tryz.ntmps19
    go_wp2
    go_ret
    exact ⟨_, rfl, Orw.nil _ _ _ _ _, Below.refl _ _⟩
  | some ad =>
    have hown : Orw ec 55 5 (w.alloc (.cells #[] 55)) w.heap.size (.slice (some ⟨w.heap.size, 0, none⟩) 0 0) [] := Orw.made _ _ _ w _ (Nat.le_refl _)
    have HB := hide (hL.below ((Below.refl _ _).alloc (Nat.le_refl _) (.cells #[] 55)))
    have HO0 := hide hown
    have hsm1 : ([] : List Ent).length + n ≤ 140737488355328 := by simp; omega
    have hsm2 : (([] : List Ent).length + n) * 48 ≤ 140737488355328 := by simp; omega
    have HS1 := hide hsm1
    have HS2 := hide hsm2
    clear hL hown hsm1 hsm2 hnil
    go_enter Tryz.func19, Tryz.ntmps19
    go_wp2_with (at_builtin; refine listR_append rkE rfl _ _ rfl w.heap.size _ [] rfl (unhide HO0) (some ad) n c l rfl (unhide HB) (fun e => by cases e) (unhide HS2) (unhide HS1) (by simp) ?_)
    intro v' w1 o1 g1
    try rw [List.nil_append] at o1
    have hb1 : Below w.heap.size w w1 := grown_below ((Below.refl _ _).alloc (Nat.le_refl _) _) (unhide HO0) g1
    obtain ⟨a1, c1, rfl, _⟩ := o1.form
    have HO := hide o1
    have HB1 := hide hb1
    clear o1 g1 hb1
    go_wp2
    go_ret
    exact ⟨_, rfl, unhide HO, unhide HB1⟩

set_option maxHeartbeats 800000 in
theorem slCloneB_any (w : World) (a : Option Addr) (n c : Nat) (l : List UInt8) (h : Arg w a n c l) (hsm : n ≤ 140737488351232) :
    Calls Tryz.prog 45 #[.slice a n c] w fun e w' => ∃ v, e = .returned v ∧ w'.ownsRow w.heap.size 5 1 v n (bv l) ∧ Below w.heap.size w w' := by
  have q : ∀ (w : World) (a : Option Addr) (n c n' c' : Nat), (binOp .eql 29 (.slice a n c) (.slice none n' c')).run Tryz.prog w = .ok (.bool a.isNone) w := fun w a n c n' c' => Lib.run_eql_slice_nil w _ _ a n c n' c' Tryz.underlying29
  cases a with
  | none =>
    obtain ⟨rfl, rfl⟩ := h.nil rfl
    have hl0 : l = [] := List.eq_nil_of_length_eq_zero h.bs.1
    subst hl0
    clear h
    go_enter Tryz.func45, Tryz.ntmps45
    go_wp2
    go_ret
    exact ⟨_, rfl, World.ownsRow_nil _ _ _ _, Below.refl _ _⟩
  | some ad =>
    have hown : (w.alloc (.cells #[] 5)).ownsRow w.heap.size 5 1 (.slice (some ⟨w.heap.size, 0, none⟩) 0 0) 0 (bv []) := World.ownsRow_made w #[] 0 (Nat.le_refl _) (by simp) rfl
    have HB := hide (h.bs.below ((Below.refl _ _).alloc (Nat.le_refl _) (.cells #[] 5)))
    have HO0 := hide hown
    clear h hown
    go_enter Tryz.func45, Tryz.ntmps45
    go_wp2_with (at_builtin; refine listB_append rfl _ _ rfl w.heap.size _ 0 [] rfl (unhide HO0) (some ad) n c l rfl (unhide HB) (fun e => by cases e) (by omega) (by simp) ?_)
    intro v' w1 o1 g1
    try simp only [List.nil_append, Nat.zero_add] at o1
    have hb1 : Below w.heap.size w w1 := ((Below.refl _ _).alloc (Nat.le_refl _) _).grown g1 (by simp) (fun k hk => by simp [Value.ownBlock] at hk; omega)
    obtain ⟨a1, c1, rfl, _⟩ := own_form o1
    have HO := hide o1
    have HB1 := hide hb1
    clear o1 g1 hb1
    go_wp2
    go_ret
    exact ⟨_, rfl, unhide HO, unhide HB1⟩
end Go.Proofs.YthhdfokcciibmaaGreatDoor

/- The landed class: copyOfMap. -/
namespace Go.Proofs.YthhdfokcciibmaaGreatDoor
open Go.RowKit
set_option linter.unusedVariables false
set_option maxRecDepth 100000

/-- A map whose lists are rows of one's own. -/
structure MpOwn (w : World) (base : Nat) (r : MpR) : Prop where
  loc : Orw tyc 143 2 w base r.loc.v r.m.loc
  stk : Orw tyc 143 2 w base r.stk.v r.m.stk

theorem bx_cell {W : World} {p : Nat} {X : Array Value} {t : TypeId} (h : W.heap[p]? = some (.cells X t)) : ∀ (q : Nat) (v : Value), X[q]? = some v → W.cell? ⟨p, q, none⟩ = some v := fun q v hv => by unfold World.cell?; simp [h, hv]
theorem bx_set3 {W : World} {A : Nat} {T : TypeId} {a0 a1 a2 : Value} (c0 c1 c2 : Value) (h : W.heap[A]? = some (.cells #[a0, a1, a2] T)) : (((W.setCell ⟨A, 0, none⟩ c0).setCell ⟨A, 1, none⟩ c1).setCell ⟨A, 2, none⟩ c2).heap[A]? = some (.cells #[c0, c1, c2] T) := by
  have h0 := heap_setCell_same W A 0 _ _ c0 h
  have h1 := heap_setCell_same _ A 1 _ _ c1 h0
  exact heap_setCell_same _ A 2 _ _ c2 h1
theorem sizeMap8 : (Tryz.prog.info? 52).map (·.size) = some 3 := by kernel_rfl
theorem bx_thaw {W : World} {p : Nat} {X : Array Value} {t : TypeId} (h : W.heap[p]? = some (.cells X t)) (q : Nat) : W.frozen? ⟨p, q, none⟩ = false := frozen_of_row _ _ _ _ _ h
set_option maxHeartbeats 400000 in
theorem copyP_any (w : World) (r : MpR) (h : MpIn w r) :
    Calls Tryz.prog 48 #[.agg #[.int .i64 r.m.at_, r.loc.v, r.stk.v]] w fun e w' => ∃ r' : MpR, r'.m = r.m ∧ e = .returned (.agg #[.int .i64 r.m.at_, r'.loc.v, r'.stk.v]) ∧ MpOwn w' w.heap.size r' ∧ Below w.heap.size w w' := by
  obtain ⟨m, ⟨la, ln, lc⟩, ⟨sa, sn, sc⟩⟩ := r
  have hl := h.loc
  have hs := h.stk
  unfold TysIn at hl hs
  simp only at hl hs
  obtain ⟨w0, e0, f0, b0, s0, r0⟩ : ∃ w0, (w.alloc (.cells #[.int .i64 m.at_, .slice la ln lc, .slice sa sn sc] 52)).alloc (.cells #[.int .i64 0, .slice none 0 0, .slice none 0 0] 52) = w0 ∧ Below w.heap.size w w0 ∧ w0.heap[w.heap.size]? = some (.cells #[.int .i64 m.at_, .slice la ln lc, .slice sa sn sc] 52) ∧ w0.heap.size = w.heap.size + 2 ∧ w0.heap[w.heap.size + 1]? = some (.cells #[.int .i64 0, .slice none 0 0, .slice none 0 0] 52) := by
    refine ⟨_, rfl, ((Below.refl _ _).alloc (Nat.le_refl _) _).alloc (by simp) _, ?_, by simp, ?_⟩
    · rw [Below.heap_alloc _ _ _ (by simp)]
      exact heap_alloc_new w _
    · have := heap_alloc_new (w.alloc (.cells #[.int .i64 m.at_, .slice la ln lc, .slice sa sn sc] 52)) (.cells #[.int .i64 0, .slice none 0 0, .slice none 0 0] 52)
      simpa using this
  have HC1 := hide (slCloneT_any w0 ⟨la, ln, lc⟩ m.loc (hl.ls.below f0) hl.nil hl.small)
  have HS := hide hs
  have HF0 := hide f0
  have HB0 := hide b0
  have HR0 := hide r0
  have k0 := bx_cell b0 0 _ rfl
  have k1 := bx_cell b0 1 _ rfl
  have k2 := bx_cell b0 2 _ rfl
  clear h hl hs f0 b0 r0
  unfold Sl.v
  simp only
  go_enter Tryz.func48, Tryz.ntmps48
  go_wp2_with fail
  clear k0 k1 k2
  refine (unhide HC1).mono ?_
  rintro e w1 ⟨v1, rfl, o1, f1⟩
  obtain ⟨a1, c1, rfl, g1⟩ := o1.form
  have hb1 : w1.heap[w.heap.size]? = some (.cells #[.int .i64 m.at_, .slice la ln lc, .slice sa sn sc] 52) := (f1.block _ (by omega)).trans (unhide HB0)
  have k0 := bx_cell hb1 0 _ rfl
  have k1 := bx_cell hb1 1 _ rfl
  have k2 := bx_cell hb1 2 _ rfl
  have z1 := bx_thaw hb1 1
  have HO1 := hide o1
  have HF1 := hide f1
  have HB1 := hide hb1
  clear o1 f1 hb1 HC1 g1
  go_wp2_with fail
  obtain ⟨w2, e2, f2, b2, s2, k2'⟩ : ∃ w2, w1.setCell ⟨w.heap.size, 1, none⟩ (.slice a1 m.loc.length c1) = w2 ∧ Below w.heap.size w w2 ∧ w2.heap[w.heap.size]? = some (.cells #[.int .i64 m.at_, .slice a1 m.loc.length c1, .slice sa sn sc] 52) ∧ w.heap.size + 2 ≤ w2.heap.size ∧ ∀ k, w.heap.size < k → w2.heap[k]? = w1.heap[k]? := by
    have hf1 := unhide HF1
    refine ⟨_, rfl, ((unhide HF0).trans (hf1.mono (by omega))).setCell (Nat.le_refl _) _, heap_setCell_same w1 _ 1 _ _ _ (unhide HB1), ?_, fun k hk => Below.heap_setCell _ _ _ _ (by simp only; omega)⟩
    have := hf1.size
    simp [World.setCell]
    omega
  rw [e2]
  clear e2 k0 k1 k2 z1
  have o2 := (unhide HO1).below (w' := w2) (fun k hk => k2' k (by have := (unhide HO1).lt k hk; omega))
  have hs := unhide HS
  refine Calls.mono (slCloneT_any w2 ⟨sa, sn, sc⟩ m.stk (hs.ls.below f2) hs.nil hs.small) ?_
  rintro e w3 ⟨v3, rfl, o3, f3⟩
  obtain ⟨a3, c3, rfl, g3⟩ := o3.form
  have hb3 : w3.heap[w.heap.size]? = some (.cells #[.int .i64 m.at_, .slice a1 m.loc.length c1, .slice sa sn sc] 52) := (f3.block _ (by omega)).trans b2
  have hr3 : w3.heap[w.heap.size + 1]? = some (.cells #[.int .i64 0, .slice none 0 0, .slice none 0 0] 52) := (f3.block _ (by omega)).trans ((k2' _ (by omega)).trans (((unhide HF1).block _ (by omega)).trans (unhide HR0)))
  have HN : Hid (Orw tyc 143 2 w3 (w.heap.size + 2) (.slice a1 m.loc.length c1) m.loc ∧ Orw tyc 143 2 w3 (w.heap.size + 2) (.slice a3 m.stk.length c3) m.stk ∧ Below w.heap.size w w3) := by
    refine hide ⟨(o2.below fun k hk => f3.block k (o2.lt k hk).2).base (by omega), o3.base (by omega), f2.trans (f3.mono (by omega))⟩
  have k0 := bx_cell hb3 0 _ rfl
  have k1 := bx_cell hb3 1 _ rfl
  have k2 := bx_cell hb3 2 _ rfl
  have z2 := bx_thaw hb3 2
  have j0 := bx_cell hr3 0 _ rfl
  have j1 := bx_cell hr3 1 _ rfl
  have j2 := bx_cell hr3 2 _ rfl
  have y0 := bx_thaw hr3 0
  have y1 := bx_thaw hr3 1
  have y2 := bx_thaw hr3 2
  have HR3 := hide hr3
  clear hr3 HR0 hb3 o3 f3 g3 o2 hs f2 b2 s2 k2' HS HF0 HB0 HO1 HF1 HB1
  go_wp2_with fail
  obtain ⟨w4, e4, f4, r4, k4⟩ : ∃ w4, (((w3.setCell ⟨w.heap.size, 2, none⟩ (.slice a3 m.stk.length c3)).setCell ⟨w.heap.size + 1, 0, none⟩ (.int .i64 m.at_)).setCell ⟨w.heap.size + 1, 1, none⟩ (.slice a1 m.loc.length c1)).setCell ⟨w.heap.size + 1, 2, none⟩ (.slice a3 m.stk.length c3) = w4 ∧ Below w.heap.size w w4 ∧ w4.heap[w.heap.size + 1]? = some (.cells #[.int .i64 m.at_, .slice a1 m.loc.length c1, .slice a3 m.stk.length c3] 52) ∧ ∀ k, w.heap.size + 2 ≤ k → w4.heap[k]? = w3.heap[k]? := by
    refine ⟨_, rfl, ((((unhide HN).2.2.setCell (Nat.le_refl _) _).setCell (Nat.le_succ _) _).setCell (Nat.le_succ _) _).setCell (Nat.le_succ _) _, bx_set3 _ _ _ ((Below.heap_setCell _ _ _ _ (by simp)).trans (unhide HR3)), fun k hk => ?_⟩
    rw [Below.heap_setCell _ _ _ _ (by simp only; omega), Below.heap_setCell _ _ _ _ (by simp only; omega), Below.heap_setCell _ _ _ _ (by simp only; omega), Below.heap_setCell _ _ _ _ (by simp only; omega)]
  rw [e4]
  clear e4
  obtain ⟨o1, o3, _⟩ := unhide HN
  refine bodyPost_ret (v := .agg #[.int .i64 m.at_, .slice a1 m.loc.length c1, .slice a3 m.stk.length c3]) ?_ rfl ⟨⟨m, ⟨a1, m.loc.length, c1⟩, ⟨a3, m.stk.length, c3⟩⟩, rfl, rfl, ?_, f4⟩
  · exact results_cell_row Tryz.results48 _ _ (w.heap.size + 1) 52 _ (0, 0) _ rfl r4 Tryz.underlying52 rfl sizeMap8
  · exact ⟨(o1.below fun k hk => k4 k (o1.lt k hk).1).base (by omega), (o3.below fun k hk => k4 k (o3.lt k hk).1).base (by omega)⟩
end Go.Proofs.YthhdfokcciibmaaGreatDoor

/- The landed class: copied. -/
namespace Go.Proofs.YthhdfokcciibmaaGreatDoor
open Go.RowKit
set_option linter.unusedVariables false
set_option maxRecDepth 100000

theorem Orw.keep {α : Type} {cs : α → List Value} {e : TypeId} {sz : Nat} {w w' : World} {base : Nat} {v : Value} {l : List α} (h : Orw cs e sz w base v l) (f : ∀ k X, base ≤ k → w.heap[k]? = some (.cells X e) → w'.heap[k]? = w.heap[k]?) : Orw cs e sz w' base v l := by
  refine ⟨h.1, ?_⟩
  rcases h.2 with hv | ⟨g, cap, cur, hv, hb, hh, r⟩
  · exact .inl hv
  · exact .inr ⟨g, cap, cur, hv, hb, (f g cur hb hh).trans hh, r⟩
theorem MpOwn.keep {w w' : World} {base : Nat} {r : MpR} (h : MpOwn w base r) (f : ∀ k X, base ≤ k → w.heap[k]? = some (.cells X 143) → w'.heap[k]? = w.heap[k]?) : MpOwn w' base r := ⟨h.loc.keep f, h.stk.keep f⟩
theorem MpOwn.base {w : World} {base base' : Nat} {r : MpR} (h : MpOwn w base r) (hb : base' ≤ base) : MpOwn w base' r := ⟨h.loc.base hb, h.stk.base hb⟩
/-- Of a list in a row of one's own the first k are copied, the rest is as it came. -/
def Cop {α β : Type} (cs : α → List Value) (e : TypeId) (sz : Nat) (m : α → β) (own : World → Nat → α → Prop) (w : World) (v : Value) (rs : List α) (k : Nat) (W : World) : Prop :=
  ∃ dn : List α, dn.length = k ∧ dn.map m = (rs.take k).map m ∧ (∀ r ∈ dn, own W w.heap.size r) ∧ Orw cs e sz W w.heap.size v (dn ++ rs.drop k) ∧ Below w.heap.size w W
theorem Cop.start {α β : Type} {cs : α → List Value} {e : TypeId} {sz : Nat} {m : α → β} {own : World → Nat → α → Prop} {w W : World} {v : Value} {rs : List α} (f : Below w.heap.size w W) (h : Orw cs e sz W w.heap.size v rs) : Cop cs e sz m own w v rs 0 W := ⟨[], rfl, by simp, by simp, by simpa using h, f⟩

theorem stored_all {base g n cap sz : Nat} {e : TypeId} : ∀ (vs : List Value) (o : Nat) (W : World) (xs : List Value), W.ownsRow base e sz (.slice (some ⟨g, 0, none⟩) n cap) n xs → ∃ ys, (W.setCells g o vs).ownsRow base e sz (.slice (some ⟨g, 0, none⟩) n cap) n ys ∧ (∀ A P B, xs = A ++ (P ++ B) → A.length = o → P.length = vs.length → ys = A ++ (vs ++ B))
  | [], o, W, xs, h => ⟨xs, h, fun A P B e _ hp => by rw [e, List.eq_nil_of_length_eq_zero hp]⟩
  | u :: us, o, W, xs, h => by
    obtain ⟨ys, h1, h2⟩ := stored_all us (o + 1) (W.setCell ⟨g, o, none⟩ u) (xs.set o u) (h.stored o u).1
    refine ⟨ys, h1, fun A P B e ha hp => ?_⟩
    cases P with
    | nil => simp at hp
    | cons p P =>
      have := h2 (A ++ [u]) P B (by rw [e, ← ha]; simp) (by simp [ha]) (by simpa using hp)
      rw [this]
      simp
theorem heap_cells_other (g : Nat) : ∀ (vs : List Value) (o : Nat) (w : World) (k : Nat), k ≠ g → (w.setCells g o vs).heap[k]? = w.heap[k]?
  | [], _, _, _, _ => rfl
  | u :: us, o, w, k, h => (heap_cells_other g us (o + 1) _ k h).trans (Below.heap_setCell _ _ _ _ h)
theorem below_cells {B b : Nat} : ∀ (vs : List Value) (o : Nat) {w0 w : World}, Below B w0 w → B ≤ b → Below B w0 (w.setCells b o vs)
  | [], _, _, _, h, _ => h
  | v :: r, o, _, _, h, hb => below_cells r (o + 1) (h.setCell (p := ⟨b, o, none⟩) hb v) hb
/-- What holds of a copied record stays while rows of type e alone are written. -/
def Keeps {α : Type} (own : World → Nat → α → Prop) (e : TypeId) : Prop := ∀ W W' B r, own W B r → (∀ k X, B ≤ k → W.heap[k]? = some X → (∀ Y, X ≠ .cells Y e) → W'.heap[k]? = W.heap[k]?) → own W' B r
theorem mpOwn_keeps : Keeps MpOwn 52 := fun W W' B r h f => h.keep fun k X hk hX => f k _ hk hX (fun Y e => by injection e with _ e; cases e)
theorem Cop.row {α β : Type} {cs : α → List Value} {e t : TypeId} {sz by_ : Nat} {z : Value} (R : Rk cs e t sz by_ z) {m : α → β} {own : World → Nat → α → Prop} {w W : World} {a : Option Addr} {n c : Nat} {rs : List α} {k : Nat} {x : α} (h : Cop cs e sz m own w (.slice a n c) rs k W) (hx : rs[k]? = some x) :
    ∃ g cur, a = some ⟨g, 0, none⟩ ∧ w.heap.size ≤ g ∧ W.heap[g]? = some (.cells cur e) ∧ RowAt W g (k * sz) (cs x) := by
  obtain ⟨dn, hd, hm, ho, hr, hb⟩ := h
  have hk := (List.getElem?_eq_some_iff.1 hx).1
  have hxk : (dn ++ rs.drop k)[k]? = some x := by
    rw [List.getElem?_append_right (by omega), hd, Nat.sub_self, List.getElem?_drop, Nat.add_zero]
    exact hx
  have hL := hr.ls R
  rcases hr.2 with ⟨hv, hn⟩ | ⟨g, cap, cur, hv, hg, hh, _⟩
  · rw [List.length_append, List.length_drop] at hn
    omega
  · injection hv with ea en ec
    subst ea
    refine ⟨g, cur, rfl, hg, hh, fun q u hu => ?_⟩
    rcases hL.2 with h0 | ⟨b, o, e1, _, h1⟩
    · have := hL.1
      rw [List.length_append, List.length_drop] at this
      omega
    · injection e1 with e1
      injection e1 with e1 e2
      subst e1 e2
      have := h1 k x hxk q u hu
      rwa [Nat.zero_add] at this
theorem Cop.put {α β : Type} {cs : α → List Value} {e t : TypeId} {sz by_ : Nat} {z : Value} (R : Rk cs e t sz by_ z) {m : α → β} {own : World → Nat → α → Prop} (K : Keeps own e) (hbase : ∀ W B B' r, own W B r → B' ≤ B → own W B' r) {w W W4 : World} {g n c : Nat} {rs : List α} {k : Nat} {x y : α} (h : Cop cs e sz m own w (.slice (some ⟨g, 0, none⟩) n c) rs k W) (hx : rs[k]? = some x) (f : Below W.heap.size W W4) (ho : own W4 W.heap.size y) (hy : m y = m x) :
    Cop cs e sz m own w (.slice (some ⟨g, 0, none⟩) n c) rs (k + 1) (W4.setCells g (k * sz) (cs y)) := by
  have hrow := h.row R hx
  obtain ⟨dn, hd, hm, hown, hr, hb⟩ := h
  obtain ⟨g', cur, e1, hg, hh, _⟩ := hrow
  injection e1 with e1
  injection e1 with e1
  subst e1
  have hk := (List.getElem?_eq_some_iff.1 hx).1
  have hlt : g < W.heap.size := lt_of_heap hh
  have hh4 : W4.heap[g]? = some (.cells cur e) := (f.block g hlt).trans hh
  have hdrop : rs.drop k = x :: rs.drop (k + 1) := by
    rw [List.drop_eq_getElem_cons hk, (List.getElem?_eq_some_iff.1 hx).2]
  have hr4 : Orw cs e sz W4 w.heap.size (.slice (some ⟨g, 0, none⟩) n c) (dn ++ rs.drop k) := hr.below fun j hj => f.block j (hr.lt j hj).2
  have hln : (dn ++ rs.drop k).length = n := (hr4.ls R).1
  unfold Orw at hr4
  rw [hln] at hr4
  obtain ⟨ys, q1, q2⟩ := stored_all (cs y) (k * sz) W4 _ hr4
  have hys := q2 (dn.flatMap cs) (cs x) ((rs.drop (k + 1)).flatMap cs) (by rw [hdrop]; simp) (by rw [flatR_len R.len, hd]) (by rw [R.len, R.len])
  have hkeep : ∀ r B, own W4 B r → own (W4.setCells g (k * sz) (cs y)) B r := fun r B hw => K W4 _ B r hw fun j X hj hX hne => heap_cells_other g _ _ _ _ (fun e => hne cur (by rw [e, hh4] at hX; injection hX with hX; exact hX.symm))
  refine ⟨dn ++ [y], by simp [hd], ?_, fun r hrm => ?_, ?_, ?_⟩
  · rw [List.take_add_one, hx, List.map_append, List.map_append, hm]
    simp [hy]
  · rcases List.mem_append.1 hrm with h1 | h1
    · exact hkeep r _ (K W W4 _ r (hown r h1) fun j X hj hX _ => f.block j (lt_of_heap hX))
    · simp at h1
      subst h1
      exact hkeep _ _ (hbase _ _ _ _ ho hb.size)
  · have el : dn ++ [y] ++ rs.drop (k + 1) = dn ++ y :: rs.drop (k + 1) := by simp
    have en : (dn ++ y :: rs.drop (k + 1)).length = n := by rw [← hln, hdrop]; simp
    unfold Orw
    rw [el, en]
    have : (dn ++ y :: rs.drop (k + 1)).flatMap cs = ys := by rw [hys]; simp
    rw [this]
    exact q1
  · exact below_cells _ _ (hb.trans (f.mono hb.size)) hg
set_option maxHeartbeats 400000 in
theorem copiedP_any (w : World) (s : Sl) (rs : List MpR) (h : LIn 3 56 mpc (MpIn w) w s rs) :
    Calls Tryz.prog 47 #[s.v, .func (.func 48) #[] #[]] w fun e w' => ∃ v rs', e = .returned v ∧ Orw mpc 52 3 w' w.heap.size v rs' ∧ rs'.map MpR.m = rs.map MpR.m ∧ (∀ r ∈ rs', MpOwn w' w.heap.size r) ∧ Below w.heap.size w w' := by
  obtain ⟨a, n, c⟩ := s
  have hln := h.ls.1
  have hl0 : n ≤ 140737488355328 := by have := h.small; simp only at this; omega
  have HC := hide (slCloneP_any w ⟨a, n, c⟩ rs h.ls h.nil h.small)
  have HE : Hid (∀ x ∈ rs, MpIn w x) := hide h.each
  clear h
  unfold Sl.v at *
  simp only at HC hln ⊢
  go_enter Tryz.func47, Tryz.ntmps47
  go_wp2_with fail
  refine (unhide HC).mono ?_
  rintro e w1 ⟨v1, rfl, o1, f1⟩
  have CI := Cop.start (m := MpR.m) (own := MpOwn) f1 o1
  obtain ⟨a1, c1, rfl, g1⟩ := o1.form
  have HCI := hide CI
  have HG := hide g1
  clear CI o1 f1 HC g1
  go_wp2
  go_loopw [11] (fun i wr => ∃ k : Nat, k ≤ n ∧ i = .int .i64 k ∧ Cop mpc 52 3 MpR.m MpOwn w (.slice a1 rs.length c1) rs k wr) (fun i _ => n - (intOf i).toNat)
  case atStart => exact ⟨0, by omega, rfl, unhide HCI⟩
  case round =>
    obtain ⟨k, hk, rfl, hT⟩ := hrel
    by_cases hlt : k < n
    · have hlt1 : (k : Int) < (n : Int) := by omega
      have hk0 : (0 : Int) ≤ (k : Int) := by omega
      obtain ⟨x, hx1⟩ : ∃ x, rs[k]? = some x := ⟨_, List.getElem?_eq_getElem (by omega)⟩
      obtain ⟨g, cur, rfl, hg, hh, q⟩ := hT.row rkP hx1
      have hbel : Below w.heap.size w wr := by obtain ⟨_, _, _, _, _, hb⟩ := hT; exact hb
      obtain ⟨xm, ⟨la, ln, lc⟩, ⟨sa, sn, sc⟩⟩ := x
      have d0 := q.zero
      have d1 := q 1 _ rfl
      have d2 := q 2 _ rfl
      simp only [Sl.v] at d0 d1 d2
      have HP := hide (copyP_any (wr.alloc (.cells #[.int .i64 xm.at_, .slice la ln lc, .slice sa sn sc] 52)) _ (((unhide HE _ (List.mem_of_getElem? hx1)).below hbel).below ((Below.refl _ _).alloc (Nat.le_refl _) _)))
      have HT := hide hT
      have HH := hide hh
      have HX := hide hx1
      simp only [Sl.v] at HP
      clear q hT hh hx1 hbel hg
      go_wp2_with fail
      clear d0 d1 d2
      refine (unhide HP).mono ?_
      rintro e w4 ⟨y, hym, rfl, own4, f4⟩
      have f4' : Below wr.heap.size wr w4 := ((Below.refl _ _).alloc (Nat.le_refl _) _).trans (f4.mono (by simp))
      have hh4 := (f4'.block g (lt_of_heap (unhide HH))).trans (unhide HH)
      obtain ⟨_, _, e9, _, _, q⟩ := (unhide HT).row rkP (unhide HX)
      injection e9 with e9
      injection e9 with e9
      subst e9
      have q4 : RowAt w4 g (k * 3) (mpc _) := fun j u hu => (f4'.cell (p := ⟨g, k * 3 + j, none⟩) (lt_of_heap (unhide HH))).trans (q j u hu)
      have d0 := q4.zero
      have z0 := bx_thaw hh4 (k * 3)
      have d1 := q4 1 _ rfl
      have z1 := bx_thaw hh4 (k * 3 + 1)
      have d2 := q4 2 _ rfl
      have z2 := bx_thaw hh4 (k * 3 + 2)
      simp only [Sl.v] at d0 d1 d2
      have HPUT := hide ((unhide HT).put rkP mpOwn_keeps (fun _ _ _ _ h hb => h.base hb) (unhide HX) f4' (own4.base (by simp)) hym)
      obtain ⟨ym, ⟨la2, ln2, lc2⟩, ⟨sa2, sn2, sc2⟩⟩ := y
      simp only at hym
      subst hym
      clear q q4 hh4 f4 f4' own4 HP HT HH HX
      simp only [Sl.v, mpc] at HPUT
      go_wp2
      go_roundw
      case rel => exact ⟨k + 1, by omega, by go_num, unhide HPUT⟩
      case measure => simp [intOf]; omega
    · obtain rfl : k = n := by omega
      have HT := hide hT
      clear hT
      go_wp2
      go_ret
      obtain ⟨dn, hd, hm, hown, hr, hb⟩ := unhide HT
      rw [List.take_of_length_le (by omega)] at hm
      rw [List.drop_eq_nil_of_le (by omega), List.append_nil, hln] at hr
      exact ⟨_, dn, rfl, hr, hm, hown, hb⟩

end Go.Proofs.YthhdfokcciibmaaGreatDoor

/- The landed class: copyOfMethod. -/
namespace Go.Proofs.YthhdfokcciibmaaGreatDoor
open Go.RowKit
set_option linter.unusedVariables false
set_option maxRecDepth 100000

def byc (b : UInt8) : List Value := [.int .u8 (b.toNat : Int)]
theorem byc_bv : ∀ l : List UInt8, l.flatMap byc = bv l
  | [] => rfl
  | b :: l => by rw [List.flatMap_cons, byc_bv l]; rfl
theorem orw_bv {w : World} {B n : Nat} {v : Value} {l : List UInt8} (h : w.ownsRow B 5 1 v n (bv l)) (hn : l.length = n) : Orw byc 5 1 w B v l := by
  unfold Orw
  rw [byc_bv, hn]
  exact h
/-- A method whose lists are rows of one's own. -/
structure MdOwn (w : World) (base : Nat) (r : MdR) : Prop where
  bs : Orw byc 5 1 w base r.bs.v r.m.code.bytes
  hs : Orw hdc 93 4 w base r.hs.v r.m.code.hs
  maps : Orw mpc 52 3 w base r.maps.v r.mr
  each : ∀ x ∈ r.mr, MpOwn w base x
  same : r.m.code.maps = r.mr.map MpR.m
theorem MdOwn.base {w : World} {base base' : Nat} {r : MdR} (h : MdOwn w base r) (hb : base' ≤ base) : MdOwn w base' r := ⟨h.bs.base hb, h.hs.base hb, h.maps.base hb, fun x hx => (h.each x hx).base hb, h.same⟩
theorem MdOwn.keepAll {w w' : World} {base : Nat} {r : MdR} (h : MdOwn w base r) (f : ∀ k X t, base ≤ k → t = 5 ∨ t = 93 ∨ t = 52 ∨ t = 143 → w.heap[k]? = some (.cells X t) → w'.heap[k]? = w.heap[k]?) : MdOwn w' base r :=
  ⟨h.bs.keep fun k X hk hX => f k X _ hk (.inl rfl) hX, h.hs.keep fun k X hk hX => f k X _ hk (.inr (.inl rfl)) hX, h.maps.keep fun k X hk hX => f k X _ hk (.inr (.inr (.inl rfl))) hX, fun x hx => (h.each x hx).keep fun k X hk hX => f k X _ hk (.inr (.inr (.inr rfl))) hX, h.same⟩
theorem mdOwn_keeps : Keeps MdOwn 49 := fun W W' B r h f => h.keepAll fun k X t hk ht hX => f k _ hk hX (fun Y e => by
  injection e with _ e
  rcases ht with rfl | rfl | rfl | rfl <;> cases e)
/-- A struct that stands in memory as a local, and the answer's place behind it. -/
structure Bx2 (w : World) (t : TypeId) (X Y : Array Value) (W : World) : Prop where
  x : W.heap[w.heap.size]? = some (.cells X t)
  y : W.heap[w.heap.size + 1]? = some (.cells Y t)
  bel : Below w.heap.size w W
  size : w.heap.size + 2 ≤ W.heap.size
theorem Bx2.start (w : World) (t : TypeId) (X Y : Array Value) : Bx2 w t X Y ((w.alloc (.cells X t)).alloc (.cells Y t)) := by
  refine ⟨?_, ?_, ((Below.refl _ _).alloc (Nat.le_refl _) _).alloc (by simp) _, by simp⟩
  · rw [Below.heap_alloc _ _ _ (by simp)]
    exact heap_alloc_new w _
  · have := heap_alloc_new (w.alloc (.cells X t)) (.cells Y t)
    simpa using this
theorem Bx2.on {w : World} {t : TypeId} {X Y : Array Value} {W W' : World} (h : Bx2 w t X Y W) (f : Below W.heap.size W W') : Bx2 w t X Y W' :=
  ⟨(f.block _ (by have := h.size; omega)).trans h.x, (f.block _ (by have := h.size; omega)).trans h.y, h.bel.trans (f.mono (by have := h.size; omega)), Nat.le_trans h.size f.size⟩
theorem Bx2.set {w : World} {t : TypeId} {X Y : Array Value} {W : World} (h : Bx2 w t X Y W) (k : Nat) (v : Value) : Bx2 w t (X.setIfInBounds k v) Y (W.setCell ⟨w.heap.size, k, none⟩ v) :=
  ⟨heap_setCell_same W _ k _ _ _ h.x, (Below.heap_setCell _ _ _ _ (by simp)).trans h.y, h.bel.setCell (Nat.le_refl _) _, by have := h.size; simpa [World.setCell] using this⟩
theorem bx2_far {w W : World} (k : Nat) (v : Value) (j : Nat) (hj : w.heap.size + 2 ≤ j) : (W.setCell ⟨w.heap.size, k, none⟩ v).heap[j]? = W.heap[j]? := Below.heap_setCell _ _ _ _ (by simp only; omega)
theorem heap_cells_same (g : Nat) (t : TypeId) : ∀ (vs : List Value) (W : World) (A P : List Value), P.length = vs.length → W.heap[g]? = some (.cells (A ++ P).toArray t) → (W.setCells g A.length vs).heap[g]? = some (.cells (A ++ vs).toArray t)
  | [], W, A, P, hp, h => by
    rw [List.eq_nil_of_length_eq_zero hp] at h
    exact h
  | u :: us, W, A, [], hp, h => by simp at hp
  | u :: us, W, A, p :: P, hp, h => by
    have h1 := heap_setCell_same W g A.length _ _ u h
    have := heap_cells_same g t us (W.setCell ⟨g, A.length, none⟩ u) (A ++ [u]) P (by simpa using hp) (by rw [h1]; simp)
    simpa [World.setCells] using this
theorem Bx2.ret {w : World} {t : TypeId} {X Y : Array Value} {W : World} (h : Bx2 w t X Y W) (vs : List Value) (hv : Y.size = vs.length) : (W.setCells (w.heap.size + 1) 0 vs).heap[w.heap.size + 1]? = some (.cells vs.toArray t) ∧ Below w.heap.size w (W.setCells (w.heap.size + 1) 0 vs) ∧ ∀ k, w.heap.size + 2 ≤ k → (W.setCells (w.heap.size + 1) 0 vs).heap[k]? = W.heap[k]? :=
  ⟨heap_cells_same _ t vs W [] Y.toList (by simpa using hv) (by simpa using h.y), below_cells _ _ h.bel (by omega), fun k hk => heap_cells_other _ _ _ _ _ (by omega)⟩
theorem sizeMethod8 : (Tryz.prog.info? 49).map (·.size) = some 8 := by kernel_rfl

set_option maxHeartbeats 800000 in
theorem copyM_any (w : World) (r : MdR) (h : MdIn w r) :
    Calls Tryz.prog 22 #[.agg #[.int .i64 r.m.acc, .string ⟨r.m.name.toArray⟩, .string ⟨r.m.type.toArray⟩, .int .i64 r.m.code.stack, .int .i64 r.m.code.locals, r.bs.v, r.hs.v, r.maps.v]] w fun e w' => ∃ r' : MdR, r'.m = r.m ∧ e = .returned (.agg #[.int .i64 r.m.acc, .string ⟨r.m.name.toArray⟩, .string ⟨r.m.type.toArray⟩, .int .i64 r.m.code.stack, .int .i64 r.m.code.locals, r'.bs.v, r'.hs.v, r'.maps.v]) ∧ MdOwn w' w.heap.size r' ∧ Below w.heap.size w w' := by
  obtain ⟨⟨acc, name, type, ⟨st, lo, by_, hds, mps⟩⟩, ⟨ba, bn, bc⟩, ⟨ha, hn, hc⟩, ⟨ma, mn, mc⟩, rr⟩ := r
  have hbs := h.bs
  have hfew := h.few
  have hhs := h.hs
  have hmp := h.maps
  have hsame := h.same
  simp only at hbs hfew hhs hmp hsame
  subst hsame
  have hbl := hbs.bs.1
  obtain ⟨w0, e0⟩ : ∃ w0, (w.alloc (.cells #[.int .i64 acc, .string ⟨name.toArray⟩, .string ⟨type.toArray⟩, .int .i64 st, .int .i64 lo, .slice ba bn bc, .slice ha hn hc, .slice ma mn mc] 49)).alloc (.cells #[.int .i64 0, .string ⟨#[]⟩, .string ⟨#[]⟩, .int .i64 0, .int .i64 0, .slice none 0 0, .slice none 0 0, .slice none 0 0] 49) = w0 := ⟨_, rfl⟩
  have B0 : Bx2 w 49 #[.int .i64 acc, .string ⟨name.toArray⟩, .string ⟨type.toArray⟩, .int .i64 st, .int .i64 lo, .slice ba bn bc, .slice ha hn hc, .slice ma mn mc] _ w0 := e0 ▸ Bx2.start _ _ _ _
  generalize (⟨name.toArray⟩ : ByteArray) = s1 at *
  generalize (⟨type.toArray⟩ : ByteArray) = s2 at *
  have HC1 := hide (slCloneB_any w0 ba bn bc by_ (hbs.below B0.bel) hfew)
  have HBX := hide B0
  have HH := hide hhs
  have HM := hide hmp
  have k5 := bx_cell B0.x 5 _ rfl
  simp at k5
  clear h hbs hfew hhs hmp B0
  unfold Sl.v
  simp only
  go_enter Tryz.func22, Tryz.ntmps22
  go_wp2_with fail
  clear k5
  refine (unhide HC1).mono ?_
  rintro e w1 ⟨v1, rfl, o1, f1⟩
  obtain ⟨a1, c1, rfl, _⟩ := own_form o1
  have B1 := (unhide HBX).on f1
  have O1 : Orw byc 5 1 w1 (w.heap.size + 2) (.slice a1 bn c1) by_ := (orw_bv o1 hbl).base (unhide HBX).size
  have k5 := bx_cell B1.x 5 _ rfl
  have k6 := bx_cell B1.x 6 _ rfl
  have z5 := bx_thaw B1.x 5
  have HB1 := hide B1
  have HO1 := hide O1
  simp at k5 k6
  clear o1 f1 HC1 HBX e0 w0 B1 O1
  go_wp2_with fail
  have B2 := (unhide HB1).set 5 (.slice a1 bn c1)
  have O2 : Orw byc 5 1 _ (w.heap.size + 2) (.slice a1 bn c1) by_ := (unhide HO1).below fun j hj => bx2_far (W := w1) 5 (.slice a1 bn c1) j ((unhide HO1).lt j hj).1
  clear k5 k6 z5 HB1 HO1
  generalize w1.setCell ⟨w.heap.size, 5, none⟩ (.slice a1 bn c1) = w2 at *
  simp only [List.setIfInBounds_toArray, List.set_cons_succ, List.set_cons_zero] at B2
  have hh := unhide HH
  refine Calls.mono (slCloneH_any w2 ⟨ha, hn, hc⟩ hds (hh.ls.below B2.bel) hh.nil hh.small) ?_
  rintro e w3 ⟨v3, rfl, o3, f3⟩
  obtain ⟨a3, c3, rfl, _⟩ := o3.form
  have B3 := B2.on f3
  have O3 : Orw byc 5 1 w3 (w.heap.size + 2) (.slice a1 bn c1) by_ ∧ Orw hdc 93 4 w3 (w.heap.size + 2) (.slice a3 hds.length c3) hds := ⟨O2.below fun j hj => f3.block j (O2.lt j hj).2, o3.base B2.size⟩
  have k6 := bx_cell B3.x 6 _ rfl
  have k7 := bx_cell B3.x 7 _ rfl
  have z6 := bx_thaw B3.x 6
  have HB3 := hide B3
  have HO3 := hide O3
  simp at k6 k7
  clear o3 f3 B2 O2 B3 O3 HH hh
  go_wp2_with fail
  have B4 := (unhide HB3).set 6 (.slice a3 hds.length c3)
  have O4 : Orw byc 5 1 (w3.setCell ⟨w.heap.size, 6, none⟩ (.slice a3 hds.length c3)) (w.heap.size + 2) (.slice a1 bn c1) by_ ∧ Orw hdc 93 4 (w3.setCell ⟨w.heap.size, 6, none⟩ (.slice a3 hds.length c3)) (w.heap.size + 2) (.slice a3 hds.length c3) hds := ⟨(unhide HO3).1.below fun j hj => bx2_far (W := w3) 6 _ j ((unhide HO3).1.lt j hj).1, (unhide HO3).2.below fun j hj => bx2_far (W := w3) 6 _ j ((unhide HO3).2.lt j hj).1⟩
  clear k6 k7 z6 HB3 HO3
  generalize w3.setCell ⟨w.heap.size, 6, none⟩ (.slice a3 hds.length c3) = w4 at *
  simp only [List.setIfInBounds_toArray, List.set_cons_succ, List.set_cons_zero] at B4
  have hm := unhide HM
  refine Calls.mono (copiedP_any w4 ⟨ma, mn, mc⟩ rr (hm.mono B4.bel fun _ h => h.below B4.bel)) ?_
  rintro e w5 ⟨v5, rs', rfl, o5, hsm, own5, f5⟩
  obtain ⟨a5, c5, rfl, _⟩ := o5.form
  have B5 := B4.on f5
  have O5 : MdOwn w5 (w.heap.size + 2) ⟨⟨acc, name, type, ⟨st, lo, by_, hds, rr.map MpR.m⟩⟩, ⟨a1, bn, c1⟩, ⟨a3, hds.length, c3⟩, ⟨a5, rs'.length, c5⟩, rs'⟩ := ⟨O4.1.below fun j hj => f5.block j (O4.1.lt j hj).2, O4.2.below fun j hj => f5.block j (O4.2.lt j hj).2, o5.base B4.size, fun x hx => (own5 x hx).base B4.size, hsm.symm⟩
  have z7 := bx_thaw B5.x 7
  have k0 := bx_cell B5.x 0 _ rfl
  have k1 := bx_cell B5.x 1 _ rfl
  have k2 := bx_cell B5.x 2 _ rfl
  have k3 := bx_cell B5.x 3 _ rfl
  have k4 := bx_cell B5.x 4 _ rfl
  have k5 := bx_cell B5.x 5 _ rfl
  have k6 := bx_cell B5.x 6 _ rfl
  have k7 := bx_cell B5.x 7 _ rfl
  have j0 := bx_cell B5.y 0 _ rfl
  have j1 := bx_cell B5.y 1 _ rfl
  have j2 := bx_cell B5.y 2 _ rfl
  have j3 := bx_cell B5.y 3 _ rfl
  have j4 := bx_cell B5.y 4 _ rfl
  have j5 := bx_cell B5.y 5 _ rfl
  have j6 := bx_cell B5.y 6 _ rfl
  have j7 := bx_cell B5.y 7 _ rfl
  have y0 := bx_thaw B5.y 0
  have y1 := bx_thaw B5.y 1
  have y2 := bx_thaw B5.y 2
  have y3 := bx_thaw B5.y 3
  have y4 := bx_thaw B5.y 4
  have y5 := bx_thaw B5.y 5
  have y6 := bx_thaw B5.y 6
  have y7 := bx_thaw B5.y 7
  have HFIN := hide ((B5.set 7 (.slice a5 rs'.length c5)).ret [.int .i64 acc, .string s1, .string s2, .int .i64 st, .int .i64 lo, .slice a1 bn c1, .slice a3 hds.length c3, .slice a5 rs'.length c5] (by simp))
  have HO5 := hide O5
  simp at k0 k1 k2 k3 k4 k5 k6 k7 j0 j1 j2 j3 j4 j5 j6 j7
  clear o5 f5 hsm own5 B4 O4 B5 O5 HM hm
  have HFAR : Hid (∀ k, w.heap.size + 2 ≤ k → (w5.setCell ⟨w.heap.size, 7, none⟩ (.slice a5 rs'.length c5)).heap[k]? = w5.heap[k]?) := fun k hk => bx2_far (W := w5) 7 _ k hk
  go_wp2
  obtain ⟨r6, f6, k6'⟩ := unhide HFIN
  refine bodyPost_ret (v := .agg #[.int .i64 acc, .string s1, .string s2, .int .i64 st, .int .i64 lo, .slice a1 bn c1, .slice a3 hds.length c3, .slice a5 rs'.length c5]) ?_ rfl ⟨⟨⟨acc, name, type, ⟨st, lo, by_, hds, rr.map MpR.m⟩⟩, ⟨a1, bn, c1⟩, ⟨a3, hds.length, c3⟩, ⟨a5, rs'.length, c5⟩, rs'⟩, rfl, rfl, ?_, f6⟩
  · exact results_cell_row Tryz.results22 _ _ (w.heap.size + 1) 49 _ (0, 0) _ rfl r6 Tryz.underlying49 rfl sizeMethod8
  · exact ((unhide HO5).keepAll fun k X t hk _ _ => (k6' k hk).trans (unhide HFAR k hk)).base (by omega)
end Go.Proofs.YthhdfokcciibmaaGreatDoor

/- The landed class: copied of methods. -/
namespace Go.Proofs.YthhdfokcciibmaaGreatDoor
open Go.RowKit
set_option linter.unusedVariables false
set_option maxRecDepth 100000

set_option maxHeartbeats 1000000 in
theorem copiedM_any (w : World) (s : Sl) (rs : List MdR) (h : LIn 8 128 mdc (MdIn w) w s rs) :
    Calls Tryz.prog 21 #[s.v, .func (.func 22) #[] #[]] w fun e w' => ∃ v rs', e = .returned v ∧ Orw mdc 49 8 w' w.heap.size v rs' ∧ rs'.map MdR.m = rs.map MdR.m ∧ (∀ r ∈ rs', MdOwn w' w.heap.size r) ∧ Below w.heap.size w w' := by
  obtain ⟨a, n, c⟩ := s
  have hln := h.ls.1
  have hl0 : n ≤ 140737488355328 := by have := h.small; simp only at this; omega
  have HC := hide (slCloneM_any w ⟨a, n, c⟩ rs h.ls h.nil h.small)
  have HE : Hid (∀ x ∈ rs, MdIn w x) := hide h.each
  clear h
  unfold Sl.v at *
  simp only at HC hln ⊢
  go_enter Tryz.func21, Tryz.ntmps21
  go_wp2_with fail
  refine (unhide HC).mono ?_
  rintro e w1 ⟨v1, rfl, o1, f1⟩
  have CI := Cop.start (m := MdR.m) (own := MdOwn) f1 o1
  obtain ⟨a1, c1, rfl, g1⟩ := o1.form
  have HCI := hide CI
  have HG := hide g1
  clear CI o1 f1 HC g1
  go_wp2
  go_loopw [11] (fun i wr => ∃ k : Nat, k ≤ n ∧ i = .int .i64 k ∧ Cop mdc 49 8 MdR.m MdOwn w (.slice a1 rs.length c1) rs k wr) (fun i _ => n - (intOf i).toNat)
  case atStart => exact ⟨0, by omega, rfl, unhide HCI⟩
  case round =>
    obtain ⟨k, hk, rfl, hT⟩ := hrel
    by_cases hlt : k < n
    · have hlt1 : (k : Int) < (n : Int) := by omega
      have hk0 : (0 : Int) ≤ (k : Int) := by omega
      obtain ⟨x, hx1⟩ : ∃ x, rs[k]? = some x := ⟨_, List.getElem?_eq_getElem (by omega)⟩
      obtain ⟨g, cur, rfl, hg, hh, q⟩ := hT.row rkM hx1
      have hbel : Below w.heap.size w wr := by obtain ⟨_, _, _, _, _, hb⟩ := hT; exact hb
      obtain ⟨⟨acc, name, type, ⟨st, lo, by_, hds, mps⟩⟩, ⟨ba, bn, bc⟩, ⟨ha, hn, hc⟩, ⟨ma, mn, mcc⟩, rr⟩ := x
      have d0 := q.zero
      have d1 := q 1 _ rfl
      have d2 := q 2 _ rfl
      have d3 := q 3 _ rfl
      have d4 := q 4 _ rfl
      have d5 := q 5 _ rfl
      have d6 := q 6 _ rfl
      have d7 := q 7 _ rfl
      simp only [Sl.v] at d0 d1 d2 d3 d4 d5 d6 d7
      have HP := hide (copyM_any (wr.alloc (.cells #[.int .i64 acc, .string ⟨name.toArray⟩, .string ⟨type.toArray⟩, .int .i64 st, .int .i64 lo, .slice ba bn bc, .slice ha hn hc, .slice ma mn mcc] 49)) _ (((unhide HE _ (List.mem_of_getElem? hx1)).below hbel).below ((Below.refl _ _).alloc (Nat.le_refl _) _)))
      have HT := hide hT
      have HH := hide hh
      have HX := hide hx1
      simp only [Sl.v] at HP
      clear q hT hh hx1 hbel hg
      go_wp2_with fail
      clear d0 d1 d2 d3 d4 d5 d6 d7
      refine (unhide HP).mono ?_
      rintro e w4 ⟨y, hym, rfl, own4, f4⟩
      have f4' : Below wr.heap.size wr w4 := ((Below.refl _ _).alloc (Nat.le_refl _) _).trans (f4.mono (by simp))
      have hh4 := (f4'.block g (lt_of_heap (unhide HH))).trans (unhide HH)
      obtain ⟨_, _, e9, _, _, q⟩ := (unhide HT).row rkM (unhide HX)
      injection e9 with e9
      injection e9 with e9
      subst e9
      have q4 : RowAt w4 g (k * 8) (mdc _) := fun j u hu => (f4'.cell (p := ⟨g, k * 8 + j, none⟩) (lt_of_heap (unhide HH))).trans (q j u hu)
      have d0 := q4.zero
      have z0 := bx_thaw hh4 (k * 8)
      have d1 := q4 1 _ rfl
      have z1 := bx_thaw hh4 (k * 8 + 1)
      have d2 := q4 2 _ rfl
      have z2 := bx_thaw hh4 (k * 8 + 2)
      have d3 := q4 3 _ rfl
      have z3 := bx_thaw hh4 (k * 8 + 3)
      have d4 := q4 4 _ rfl
      have z4 := bx_thaw hh4 (k * 8 + 4)
      have d5 := q4 5 _ rfl
      have z5 := bx_thaw hh4 (k * 8 + 5)
      have d6 := q4 6 _ rfl
      have z6 := bx_thaw hh4 (k * 8 + 6)
      have d7 := q4 7 _ rfl
      have z7 := bx_thaw hh4 (k * 8 + 7)
      simp only [Sl.v] at d0 d1 d2 d3 d4 d5 d6 d7
      have HPUT := hide ((unhide HT).put rkM mdOwn_keeps (fun _ _ _ _ h hb => h.base hb) (unhide HX) f4' (own4.base (by simp)) hym)
      obtain ⟨ym, ⟨ba2, bn2, bc2⟩, ⟨ha2, hn2, hc2⟩, ⟨ma2, mn2, mc2⟩, rr2⟩ := y
      simp only at hym
      subst hym
      clear q q4 hh4 f4 f4' own4 HP HT HH HX
      simp only [Sl.v, mdc] at HPUT
      go_wp2
      go_roundw
      case rel => exact ⟨k + 1, by omega, by go_num, unhide HPUT⟩
      case measure => simp [intOf]; omega
    · obtain rfl : k = n := by omega
      have HT := hide hT
      clear hT
      go_wp2
      go_ret
      obtain ⟨dn, hd, hm, hown, hr, hb⟩ := unhide HT
      rw [List.take_of_length_le (by omega)] at hm
      rw [List.drop_eq_nil_of_le (by omega), List.append_nil, hln] at hr
      exact ⟨_, dn, rfl, hr, hm, hown, hb⟩

end Go.Proofs.YthhdfokcciibmaaGreatDoor

/- The landed class: Copy. -/
namespace Go.Proofs.YthhdfokcciibmaaGreatDoor
open Go.RowKit
set_option linter.unusedVariables false
set_option maxRecDepth 100000

/-- A class whose lists are rows of one's own. -/
structure ClOwn (w : World) (base : Nat) (r : ClR) : Prop where
  pool : Orw ec 55 5 w base r.pool.v r.c.pool
  fields : Orw fdc 58 3 w base r.fields.v r.c.fields
  methods : Orw mdc 49 8 w base r.methods.v r.mr
  each : ∀ x ∈ r.mr, MdOwn w base x
  same : r.c.methods = r.mr.map MdR.m
theorem ClOwn.keepAll {w w' : World} {base : Nat} {r : ClR} (h : ClOwn w base r) (f : ∀ k X t, base ≤ k → w.heap[k]? = some (.cells X t) → w'.heap[k]? = w.heap[k]?) : ClOwn w' base r :=
  ⟨h.pool.keep fun k X hk hX => f k X _ hk hX, h.fields.keep fun k X hk hX => f k X _ hk hX, h.methods.keep fun k X hk hX => f k X _ hk hX, fun x hx => (h.each x hx).keepAll fun k X t hk _ hX => f k X t hk hX, h.same⟩
theorem ClOwn.base {w : World} {base base' : Nat} {r : ClR} (h : ClOwn w base r) (hb : base' ≤ base) : ClOwn w base' r := ⟨h.pool.base hb, h.fields.base hb, h.methods.base hb, fun x hx => (h.each x hx).base hb, h.same⟩
theorem Orw.lin {α : Type} {cs : α → List Value} {e t : TypeId} {sz by_ : Nat} {z : Value} (R : Rk cs e t sz by_ z) {ok : α → Prop} {w : World} {base : Nat} {s : Sl} {l : List α} (h : Orw cs e sz w base s.v l) (hs : l.length * by_ ≤ 140737488351232) (he : ∀ x ∈ l, ok x) : LIn sz by_ cs ok w s l := by
  obtain ⟨a, n, c⟩ := s
  obtain ⟨a', c', e1, h1, h2, h3⟩ := h.form
  injection e1 with ea en ec
  subst ea en ec
  exact ⟨Orw.ls R h, h2, h3, h1, hs, he⟩
theorem MpOwn.mpIn {w W : World} {base : Nat} {r r' : MpR} (h : MpIn w r) (e : r'.m = r.m) (o : MpOwn W base r') : MpIn W r' := by
  have ll := h.loc.ls.1
  have ls := h.stk.ls.1
  refine ⟨by rw [e]; exact h.fit, o.loc.lin rkT (by rw [e, ll]; exact h.loc.small) (by rw [e]; exact h.loc.each), o.stk.lin rkT (by rw [e, ls]; exact h.stk.small) (by rw [e]; exact h.stk.each)⟩
theorem map_find {α β : Type} {m : α → β} {l l' : List α} (h : l'.map m = l.map m) {x : α} (hx : x ∈ l') : ∃ y ∈ l, m x = m y := by
  have : m x ∈ l.map m := by rw [← h]; exact List.mem_map_of_mem hx
  obtain ⟨y, hy, e⟩ := List.mem_map.1 this
  exact ⟨y, hy, e.symm⟩
theorem orw_arg {w : World} {base : Nat} {s : Sl} {l : List UInt8} (h : Orw byc 5 1 w base s.v l) : Arg w s.a s.n s.c l ∧ l.length = s.n := by
  obtain ⟨a, n, c⟩ := s
  have h0 := h
  obtain ⟨a', c', e1, h1, h2, h3⟩ := h.form
  injection e1 with ea en ec
  subst ea en ec
  unfold Orw at h0
  rw [byc_bv] at h0
  exact ⟨arg_of_own rfl h0, rfl⟩
theorem MdOwn.mdIn {w W : World} {base : Nat} {r r' : MdR} (h : MdIn w r) (e : r'.m = r.m) (o : MdOwn W base r') : MdIn W r' := by
  have hb := h.bs.bs.1
  have hl := h.hs.ls.1
  have hm := h.maps.ls.1
  have hsm : r'.mr.map MpR.m = r.mr.map MpR.m := by rw [← o.same, ← h.same, e]
  have hln : r'.mr.length = r.mr.length := by simpa using congrArg List.length hsm
  obtain ⟨q1, q2⟩ := orw_arg o.bs
  refine ⟨by rw [e]; exact h.acc, by rw [e]; exact h.name, by rw [e]; exact h.type, by rw [e]; exact h.stack, by rw [e]; exact h.locals, q1, ?_, o.hs.lin rkH (by rw [e, hl]; exact h.hs.small) (by rw [e]; exact h.hs.each), o.maps.lin rkP (by rw [hln, hm]; exact h.maps.small) (fun x hx => ?_), o.same⟩
  · rw [← q2, e, hb]
    exact h.few
  · obtain ⟨y, hy, e1⟩ := map_find hsm hx
    exact (o.each x hx).mpIn (h.maps.each y hy) e1
theorem ClOwn.cin {w W : World} {base : Nat} {r r' : ClR} (h : CIn w r) (e : r'.c = r.c) (o : ClOwn W base r') : CIn W r' := by
  have hp := h.pool.arg.es.1
  have hf := h.fields.ls.1
  have hm := h.methods.ls.1
  have hsm : r'.mr.map MdR.m = r.mr.map MdR.m := by rw [← o.same, ← h.same, e]
  have hln : r'.mr.length = r.mr.length := by simpa using congrArg List.length hsm
  refine ⟨?_, by rw [e]; exact h.name, by rw [e]; exact h.super, o.fields.lin rkF (by rw [e, hf]; exact h.fields.small) (by rw [e]; exact h.fields.each), o.methods.lin rkM (by rw [hln, hm]; exact h.methods.small) (fun x hx => ?_), o.same⟩
  · obtain ⟨c', ⟨a, n, c⟩, fs, ms, mr⟩ := r'
    simp only at e
    subst e
    have o1 : Orw ec 55 5 W base (.slice a n c) r.c.pool := o.pool
    clear hsm hln o
    obtain ⟨a', c', e1, h1, h2, h3⟩ := o1.form
    injection e1 with ea en ec
    subst ea en ec
    exact EIn.own o1 (by rw [hp]; exact h.pool.small) h.pool.fit
  · obtain ⟨y, hy, e1⟩ := map_find hsm hx
    exact (o.each x hx).mdIn (h.methods.each y hy) e1
theorem sizeClass8 : (Tryz.prog.info? 26).map (·.size) = some 5 := by kernel_rfl

set_option maxHeartbeats 800000 in
theorem cCopy_any (w : World) (r : ClR) (h : CIn w r) :
    Calls Tryz.prog 8 #[r.v] w fun e w' => ∃ r' : ClR, r'.c = r.c ∧ e = .returned r'.v ∧ ClOwn w' w.heap.size r' ∧ Below w.heap.size w w' := by
  obtain ⟨⟨pl, name, sup, fds, mds⟩, ⟨pa, pn, pc⟩, ⟨fa, fn, fc⟩, ⟨ma, mn, mc⟩, rr⟩ := r
  have hpl := h.pool
  have hfd := h.fields
  have hmd := h.methods
  have hsame := h.same
  simp only at hpl hfd hmd hsame
  subst hsame
  obtain ⟨w0, e0⟩ : ∃ w0, (w.alloc (.cells #[.slice pa pn pc, .string ⟨name.toArray⟩, .string ⟨sup.toArray⟩, .slice fa fn fc, .slice ma mn mc] 26)).alloc (.cells #[.slice none 0 0, .string ⟨#[]⟩, .string ⟨#[]⟩, .slice none 0 0, .slice none 0 0] 26) = w0 := ⟨_, rfl⟩
  have B0 : Bx2 w 26 #[.slice pa pn pc, .string ⟨name.toArray⟩, .string ⟨sup.toArray⟩, .slice fa fn fc, .slice ma mn mc] _ w0 := e0 ▸ Bx2.start _ _ _ _
  unfold ClR.v Sl.v
  simp only
  generalize es1 : (⟨name.toArray⟩ : ByteArray) = s1 at *
  generalize es2 : (⟨sup.toArray⟩ : ByteArray) = s2 at *
  have HC1 := hide (slCloneE_any w0 ⟨pa, pn, pc⟩ pl ((ls_of_es hpl.arg.es).below B0.bel) hpl.arg.nil hpl.small)
  have HBX := hide B0
  have HF := hide hfd
  have HM := hide hmd
  have k0 := bx_cell B0.x 0 _ rfl
  simp at k0
  unfold Sl.v at HC1
  simp only at HC1
  clear h hpl hfd hmd B0
  go_enter Tryz.func8, Tryz.ntmps8
  go_wp2_with fail
  clear k0
  refine (unhide HC1).mono ?_
  rintro e w1 ⟨v1, rfl, o1, f1⟩
  obtain ⟨a1, c1, rfl, _⟩ := o1.form
  have B1 := (unhide HBX).on f1
  have O1 := o1.base (unhide HBX).size
  have k0 := bx_cell B1.x 0 _ rfl
  have k3 := bx_cell B1.x 3 _ rfl
  have z0 := bx_thaw B1.x 0
  have HB1 := hide B1
  have HO1 := hide O1
  simp at k0 k3
  clear o1 f1 HC1 HBX e0 w0 B1 O1
  go_wp2_with fail
  have B2 := (unhide HB1).set 0 (.slice a1 pl.length c1)
  have O2 : Orw ec 55 5 (w1.setCell ⟨w.heap.size, 0, none⟩ (.slice a1 pl.length c1)) (w.heap.size + 2) (.slice a1 pl.length c1) pl := (unhide HO1).below fun j hj => bx2_far (W := w1) 0 _ j ((unhide HO1).lt j hj).1
  clear k0 k3 z0 HB1 HO1
  generalize w1.setCell ⟨w.heap.size, 0, none⟩ (.slice a1 pl.length c1) = w2 at *
  simp only [List.setIfInBounds_toArray, List.set_cons_zero] at B2
  have hf := unhide HF
  refine Calls.mono (slCloneF_any w2 ⟨fa, fn, fc⟩ fds (hf.ls.below B2.bel) hf.nil hf.small) ?_
  rintro e w3 ⟨v3, rfl, o3, f3⟩
  obtain ⟨a3, c3, rfl, _⟩ := o3.form
  have B3 := B2.on f3
  have O3 : Orw ec 55 5 w3 (w.heap.size + 2) (.slice a1 pl.length c1) pl ∧ Orw fdc 58 3 w3 (w.heap.size + 2) (.slice a3 fds.length c3) fds := ⟨O2.below fun j hj => f3.block j (O2.lt j hj).2, o3.base B2.size⟩
  have k3 := bx_cell B3.x 3 _ rfl
  have k4 := bx_cell B3.x 4 _ rfl
  have z3 := bx_thaw B3.x 3
  have HB3 := hide B3
  have HO3 := hide O3
  simp at k3 k4
  clear o3 f3 B2 O2 B3 O3 HF hf
  go_wp2_with fail
  have B4 := (unhide HB3).set 3 (.slice a3 fds.length c3)
  have O4 : Orw ec 55 5 (w3.setCell ⟨w.heap.size, 3, none⟩ (.slice a3 fds.length c3)) (w.heap.size + 2) (.slice a1 pl.length c1) pl ∧ Orw fdc 58 3 (w3.setCell ⟨w.heap.size, 3, none⟩ (.slice a3 fds.length c3)) (w.heap.size + 2) (.slice a3 fds.length c3) fds := ⟨(unhide HO3).1.below fun j hj => bx2_far (W := w3) 3 _ j ((unhide HO3).1.lt j hj).1, (unhide HO3).2.below fun j hj => bx2_far (W := w3) 3 _ j ((unhide HO3).2.lt j hj).1⟩
  clear k3 k4 z3 HB3 HO3
  generalize w3.setCell ⟨w.heap.size, 3, none⟩ (.slice a3 fds.length c3) = w4 at *
  simp only [List.setIfInBounds_toArray, List.set_cons_succ, List.set_cons_zero] at B4
  have hm := unhide HM
  refine Calls.mono (copiedM_any w4 ⟨ma, mn, mc⟩ rr (hm.mono B4.bel fun _ h => h.below B4.bel)) ?_
  rintro e w5 ⟨v5, rs', rfl, o5, hsm, own5, f5⟩
  obtain ⟨a5, c5, rfl, _⟩ := o5.form
  have B5 := B4.on f5
  have O5 : ClOwn w5 (w.heap.size + 2) ⟨⟨pl, name, sup, fds, rr.map MdR.m⟩, ⟨a1, pl.length, c1⟩, ⟨a3, fds.length, c3⟩, ⟨a5, rs'.length, c5⟩, rs'⟩ := ⟨O4.1.below fun j hj => f5.block j (O4.1.lt j hj).2, O4.2.below fun j hj => f5.block j (O4.2.lt j hj).2, o5.base B4.size, fun x hx => (own5 x hx).base B4.size, hsm.symm⟩
  have z4 := bx_thaw B5.x 4
  have k0 := bx_cell B5.x 0 _ rfl
  have k1 := bx_cell B5.x 1 _ rfl
  have k2 := bx_cell B5.x 2 _ rfl
  have k3 := bx_cell B5.x 3 _ rfl
  have k4 := bx_cell B5.x 4 _ rfl
  have j0 := bx_cell B5.y 0 _ rfl
  have j1 := bx_cell B5.y 1 _ rfl
  have j2 := bx_cell B5.y 2 _ rfl
  have j3 := bx_cell B5.y 3 _ rfl
  have j4 := bx_cell B5.y 4 _ rfl
  have y0 := bx_thaw B5.y 0
  have y1 := bx_thaw B5.y 1
  have y2 := bx_thaw B5.y 2
  have y3 := bx_thaw B5.y 3
  have y4 := bx_thaw B5.y 4
  have HFIN := hide ((B5.set 4 (.slice a5 rs'.length c5)).ret [.slice a1 pl.length c1, .string s1, .string s2, .slice a3 fds.length c3, .slice a5 rs'.length c5] (by simp))
  have HO5 := hide O5
  have HFAR : Hid (∀ k, w.heap.size + 2 ≤ k → (w5.setCell ⟨w.heap.size, 4, none⟩ (.slice a5 rs'.length c5)).heap[k]? = w5.heap[k]?) := fun k hk => bx2_far (W := w5) 4 _ k hk
  simp at k0 k1 k2 k3 k4 j0 j1 j2 j3 j4
  clear o5 f5 hsm own5 B4 O4 B5 O5 HM hm
  go_wp2
  obtain ⟨r6, f6, k6'⟩ := unhide HFIN
  refine bodyPost_ret (v := .agg #[.slice a1 pl.length c1, .string s1, .string s2, .slice a3 fds.length c3, .slice a5 rs'.length c5]) ?_ rfl ⟨⟨⟨pl, name, sup, fds, rr.map MdR.m⟩, ⟨a1, pl.length, c1⟩, ⟨a3, fds.length, c3⟩, ⟨a5, rs'.length, c5⟩, rs'⟩, rfl, ?_, ?_, f6⟩
  · exact results_cell_row Tryz.results8 _ _ (w.heap.size + 1) 26 _ (0, 0) _ rfl r6 Tryz.underlying26 rfl sizeClass8
  · rw [← es1, ← es2]
  · exact ((unhide HO5).keepAll fun k X t hk _ => (k6' k hk).trans (unhide HFAR k hk)).base (by omega)
end Go.Proofs.YthhdfokcciibmaaGreatDoor
