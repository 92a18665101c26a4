/- Layer 11: Step (written by mk/mkshw.py). -/
import Derived.Test.YthenefjoidckkaaGreatDoorJS7
import Derived.Test.YthenefjoidckkaaGreatDoorJS8
import Derived.Test.YthenefjoidckkaaGreatDoorJS9

namespace Go.Proofs.YthenefjoidckkaaGreatDoor
open Go.RowKit
set_option linter.unusedVariables false
set_option maxRecDepth 100000

theorem plainOA_fit {op a : Int} (h : -9223372036854775808 ≤ a ∧ a ≤ 9223372036854775807) : -9223372036854775808 ≤ (plainOA op a).2 ∧ (plainOA op a).2 ≤ 9223372036854775807 := by
  unfold plainOA plainP
  simp only
  repeat' split
  all_goals (simp only; omega)
theorem tab_snd (X : Nat) (p : Wpl) : (tabP X p).map Prod.snd = (tabP 0 p).map Prod.snd := by
  unfold tabP
  simp only [apply_ite (List.map Prod.snd), List.map_cons, List.map_nil]
/-- What comes of a frame. -/
noncomputable def stepT (p : Wpl) (most : Int) (lo st : List Ty) : Option (List Ty × List Ty) := (doD ((tabP 0 p).map Prod.snd) ⟨st, lo, [], ty0, [], ty0⟩).bind fun y => if most < (wideN y.st : Int) then none else some (y.lo, y.st)
def step_post (w : World) (r : Option (List Ty × List Ty)) (e : Ending) (w' : World) : Prop := Below w.heap.size w w' ∧ match r with
  | none => e = .returned (.tuple #[.agg #[.slice none 0 0, .slice none 0 0], .int .i64 110])
  | some y => ∃ l s : Sl, e = .returned (.tuple #[.agg #[l.v, s.v], .int .i64 0]) ∧ Orw tyc 52 2 w' w.heap.size l.v y.1 ∧ Orw tyc 52 2 w' w.heap.size s.v y.2 ∧ (∀ t ∈ y.1, nmOk t) ∧ ∀ t ∈ y.2, nmOk t
theorem five_blocks (w : World) (A B C D E : Array Value) (tA tB tC tD tE : TypeId) : ∃ w5, w5 = ((((w.alloc (.cells A tA)).alloc (.cells B tB)).alloc (.cells C tC)).alloc (.cells D tD)).alloc (.cells E tE) ∧ Below w.heap.size w w5 ∧ w5.heap.size = w.heap.size + 5 ∧ w5.heap[w.heap.size]? = some (.cells A tA (0, 0)) ∧ w5.heap[w.heap.size + 1]? = some (.cells B tB (0, 0)) ∧ w5.heap[w.heap.size + 1 + 1]? = some (.cells C tC (0, 0)) ∧ w5.heap[w.heap.size + 1 + 1 + 1]? = some (.cells D tD (0, 0)) ∧ w5.heap[w.heap.size + 1 + 1 + 1 + 1]? = some (.cells E tE (0, 0)) := by
  have z1 : (w.alloc (.cells A tA)).heap.size = w.heap.size + 1 := by simp
  have z2 : ((w.alloc (.cells A tA)).alloc (.cells B tB)).heap.size = w.heap.size + 1 + 1 := by simp
  have z3 : (((w.alloc (.cells A tA)).alloc (.cells B tB)).alloc (.cells C tC)).heap.size = w.heap.size + 1 + 1 + 1 := by simp
  have z4 : ((((w.alloc (.cells A tA)).alloc (.cells B tB)).alloc (.cells C tC)).alloc (.cells D tD)).heap.size = w.heap.size + 1 + 1 + 1 + 1 := by simp
  refine ⟨_, rfl, bA (bA (bA (bA (bA (Below.refl _ _) _) _) _) _) _, by simp, ?_, ?_, ?_, ?_, ?_⟩
  · exact (heap_alloc_old _ _ (by simp <;> omega)).trans ((heap_alloc_old _ _ (by simp <;> omega)).trans ((heap_alloc_old _ _ (by simp <;> omega)).trans ((heap_alloc_old _ _ (by simp)).trans (heap_alloc_last _ _))))
  · have t := heap_alloc_last (w.alloc (.cells A tA)) (.cells B tB)
    rw [z1] at t
    exact (heap_alloc_old _ _ (by simp <;> omega)).trans ((heap_alloc_old _ _ (by simp <;> omega)).trans ((heap_alloc_old _ _ (by simp)).trans t))
  · have t := heap_alloc_last ((w.alloc (.cells A tA)).alloc (.cells B tB)) (.cells C tC)
    rw [z2] at t
    exact (heap_alloc_old _ _ (by simp <;> omega)).trans ((heap_alloc_old _ _ (by simp)).trans t)
  · have t := heap_alloc_last (((w.alloc (.cells A tA)).alloc (.cells B tB)).alloc (.cells C tC)) (.cells D tD)
    rw [z3] at t
    exact (heap_alloc_old _ _ (by simp)).trans t
  · have t := heap_alloc_last ((((w.alloc (.cells A tA)).alloc (.cells B tB)).alloc (.cells C tC)).alloc (.cells D tD)) (.cells E tE)
    rw [z4] at t
    exact t
theorem sizeFr : (Tryz.prog.info? 32).map (·.size) = some 2 := by kernel_rfl
theorem fr_ret2 {fn : Func} {p u : Tmp} (h : fn.results = #[.cell p 32, .tmp u]) (W : World) (r : Nat) (x y : Value) (hb : W.heap[r]? = some (.cells #[x, y] 32 (0, 0))) (tmps : Array Value) (hp : tmps.getD p undef = .pointer (some ⟨r, 0, none⟩)) :
    (results fn tmps).run Tryz.prog W = .ok (.tuple #[.agg #[x, y], tmps.getD u undef]) W := by
  rw [results_cell_tmp h, hp]
  simp [asAddr, run_loadVar_row W r 32 32 _ (0, 0) _ hb Tryz.underlying32 rfl (by exact sizeFr)]
set_option maxHeartbeats 400000 in
theorem p11Words_any (W : World) (la : Value) (sa : Option Addr) (sn sc : Nat) (v : List Ty) (h : Ls 2 tyc W sa sn v) (hn : sn ≤ 140737488351232) : Calls Tryz.prog 15 #[.agg #[la, .slice sa sn sc]] W fun e w' => e = .returned (.int .i64 (wideN v)) ∧ Below W.heap.size W w' := by
  have f1 : Below W.heap.size W (W.alloc (.cells #[la, .slice sa sn sc] 32)) := bA (Below.refl _ _) _
  have HW := hide (yWide_any (W.alloc (.cells #[la, .slice sa sn sc] 32)) sa sn sc v (h.below f1) hn)
  have F1 := hide f1
  clear h f1
  generalize (wideN v : Int) = D at *
  go_enter Tryz.func15, Tryz.ntmps15
  go_wp2_with fail
  refine (unhide HW).mono ?_
  rintro e w2 ⟨rfl, f2⟩
  have F2 := hide ((unhide F1).trans (f2.mono (unhide F1).size))
  clear f2 HW F1
  go_wp2
  go_ret
  exact ⟨rfl, unhide F2⟩
theorem doD_len (C : Wcx) : ∀ {t : List (Value × Deed)} {ne : Bool} {m : Nat} {x y : Wst}, Ch C ne t → t.length ≤ 8 ∧ m + 1 ≤ 1000 → Bd m ne x → doD (t.map Prod.snd) x = some y → y.st.length ≤ 1000000 := by
  have : ∀ (t : List (Value × Deed)) (ne : Bool) (m : Nat) (x y : Wst), Ch C ne t → Bd m ne x → doD (t.map Prod.snd) x = some y → y.st.length + 1 ≤ (m + 1) * 2 ^ t.length := by
    intro t
    induction t with
    | nil =>
      intro ne m x y _ hb h
      rw [List.map_nil, doD] at h
      injection h with h
      subst h
      have := hb.st
      simp
      omega
    | cons p t ih =>
      intro ne m x y hc hb h
      obtain ⟨ne', dok, hc'⟩ := hc
      rw [List.map_cons, doD] at h
      cases hd : p.2 x with
      | none => rw [hd] at h; cases h
      | some z =>
        rw [hd] at h
        have := ih ne' _ z y hc' (dok.gr m x z hb hd) h
        rw [List.length_cons, Nat.pow_succ, ← Nat.mul_assoc, Nat.mul_right_comm]
        have e : 2 * m + 1 + 1 = (m + 1) * 2 := by omega
        rw [e] at this
        exact this
  intro t ne m x y hc hm hb h
  have h1 := this t ne m x y hc hb h
  have h2 : 2 ^ t.length ≤ 2 ^ 8 := Nat.pow_le_pow_right (by omega) hm.1
  have h3 : (m + 1) * 2 ^ t.length ≤ 1000 * 2 ^ 8 := Nat.mul_le_mul hm.2 h2
  have h4 : 1000 * 2 ^ 8 = 256000 := by decide
  omega
/-- What Step is handed. -/
structure StIn (w : World) (ca : Option Addr) (cn : Nat) (pa : Option Addr) (pn : Nat) (s lo st : Sl) (cl : List Nc) (en : List Ent) (bk : Ty) (a : Int) (cs : List Cas) (u v : List Ty) : Prop where
  cl : Ls 5 ncc w ca cn cl
  cn : cn ≤ 40
  es : Es w pa pn en
  pn : pn ≤ 140737488351232
  fit : (∀ x ∈ en, x.text.length ≤ 140737488355328) ∧ ∀ x ∈ en, EntFit x
  bk : nmOk bk
  A : -9223372036854775808 ≤ a ∧ a ≤ 9223372036854775807
  cs : Ls 2 cac w s.a s.n cs
  cnil : s.a = none → s.n = 0 ∧ s.c = 0
  csm : s.n * 16 ≤ 140737488351232
  tab : Tab9s w
  fr : FrIn w lo st u v
  lnil : lo.a = none → lo.n = 0 ∧ lo.c = 0
  snil : st.a = none → st.n = 0 ∧ st.c = 0
  ln : lo.n ≤ 1000
  sn : st.n ≤ 900
set_option maxHeartbeats 4000000 in
theorem p11Step_any (w : World) (ca : Option Addr) (cn cc : Nat) (pa : Option Addr) (pn pc : Nat) (s lo st : Sl) (cl : List Nc) (en : List Ent) (bk : Ty) (at0 op a b : Int) (cs : List Cas) (u v : List Ty) (c1 c2 c3 c4 : Value) (most : Int) (H : StIn w ca cn pa pn s lo st cl en bk a cs u v) :
    Calls Tryz.prog 20 #[.slice ca cn cc, .agg #[.slice pa pn pc, c1, c2, c3, c4], tyV bk, .agg #[.int .i64 at0, .int .i64 op, .int .i64 a, .int .i64 b, s.v], .agg #[lo.v, st.v], .int .i64 most] w fun e w' => step_post w (stepT ⟨cl, en, bk, (plainOA op a).1, (plainOA op a).2⟩ most u v) e w' := by
  obtain ⟨sa, sn, sc⟩ := s
  obtain ⟨la, ln, lc⟩ := lo
  obtain ⟨ta, tn, tc⟩ := st
  unfold tyV Sl.v
  simp only
  obtain ⟨w5, hw5, f5, hz5, hb0, hb1, hb2, hb3, hb4⟩ := five_blocks w #[.slice pa pn pc, c1, c2, c3, c4] #[.int .i64 bk.kind, .string ⟨bk.name.toArray⟩] #[.int .i64 at0, .int .i64 op, .int .i64 a, .int .i64 b, .slice sa sn sc] #[.slice la ln lc, .slice ta tn tc] #[.slice none 0 0, .slice none 0 0] 38 52 57 32 32
  have KB : Hid (∀ W, Below w5.heap.size w5 W → W.cell? ⟨w.heap.size, 0, none⟩ = some (.slice pa pn pc) ∧ W.cell? ⟨w.heap.size + 1, 0, none⟩ = some (.int .i64 bk.kind) ∧ W.cell? ⟨w.heap.size + 1, 1, none⟩ = some (.string ⟨bk.name.toArray⟩) ∧ (W.cell? ⟨w.heap.size + 1 + 1, 0, none⟩ = some (.int .i64 at0) ∧ W.cell? ⟨w.heap.size + 1 + 1, 1, none⟩ = some (.int .i64 op) ∧ W.cell? ⟨w.heap.size + 1 + 1, 2, none⟩ = some (.int .i64 a) ∧ W.cell? ⟨w.heap.size + 1 + 1, 3, none⟩ = some (.int .i64 b) ∧ W.cell? ⟨w.heap.size + 1 + 1, 4, none⟩ = some (.slice sa sn sc)) ∧ W.cell? ⟨w.heap.size + 1 + 1 + 1, 0, none⟩ = some (.slice la ln lc) ∧ W.cell? ⟨w.heap.size + 1 + 1 + 1, 1, none⟩ = some (.slice ta tn tc)) := fun W f => by
    have e0 := (f.block _ (lt_of_heap hb0)).trans hb0
    have e1 := (f.block _ (lt_of_heap hb1)).trans hb1
    have e2 := (f.block _ (lt_of_heap hb2)).trans hb2
    have e3 := (f.block _ (lt_of_heap hb3)).trans hb3
    exact ⟨bx_cell e0 0 _ rfl, bx_cell e1 0 _ rfl, bx_cell e1 1 _ rfl, ⟨bx_cell e2 0 _ rfl, bx_cell e2 1 _ rfl, bx_cell e2 2 _ rfl, bx_cell e2 3 _ rfl, bx_cell e2 4 _ rfl⟩, bx_cell e3 0 _ rfl, bx_cell e3 1 _ rfl⟩
  have HPl : Hid (∀ W, Below w5.heap.size w5 W → Calls Tryz.prog 36 #[.agg #[.int .i64 at0, .int .i64 op, .int .i64 a, .int .i64 b, .slice sa sn sc]] W fun e w' => ∃ s : Sl, e = .returned (.agg #[.int .i64 at0, .int .i64 (plainOA op a).1, .int .i64 (plainOA op a).2, .int .i64 b, .slice s.a s.n s.c]) ∧ Below W.heap.size W w') := fun W f => by
    have fw := f5.trans (f.mono f5.size)
    exact (hPlain_any W at0 op a b ⟨sa, sn, sc⟩ cs (H.cs.below fw) H.cnil H.csm (H.tab.below fw)).mono fun e w' h => by
      obtain ⟨s, h1, _, h2⟩ := h
      exact ⟨s, h1, h2⟩
  have HCl : Hid (∀ W (q : Sl) (l : List Ty), Below w5.heap.size w5 W → (q = ⟨la, ln, lc⟩ ∧ l = u) ∨ (q = ⟨ta, tn, tc⟩ ∧ l = v) → Calls Tryz.prog 37 #[.slice q.a q.n q.c] W fun e w' => ∃ s : Sl, e = .returned (.slice s.a s.n s.c) ∧ Orw tyc 52 2 w' W.heap.size s.v l ∧ Below W.heap.size W w') := fun W q l f hq => by
    have fw := f5.trans (f.mono f5.size)
    have hh : Ls 2 tyc W q.a q.n l ∧ (q.a = none → q.n = 0 ∧ q.c = 0) ∧ q.n ≤ 1000 := by
      rcases hq with ⟨rfl, rfl⟩ | ⟨rfl, rfl⟩
      · exact ⟨H.fr.ll.below fw, H.lnil, H.ln⟩
      · exact ⟨H.fr.sl.below fw, H.snil, by have := H.sn; simp only at this ⊢; omega⟩
    refine (slCloneT_any W q l hh.1 hh.2.1 (by omega)).mono fun e w' h => ?_
    obtain ⟨vv, h1, h2, h3⟩ := h
    obtain ⟨va, vc, hv, _⟩ := h2.form
    subst hv
    exact ⟨⟨va, l.length, vc⟩, h1, h2, h3⟩
  have HW5 := hide hw5
  have X5 := hide (And.intro f5 (And.intro hz5 hb4))
  have HH := hide H
  clear hw5 f5 hz5 hb0 hb1 hb2 hb3 hb4 H
  have HP1 : Hid (stepT ⟨cl, en, bk, (plainOA op a).1, (plainOA op a).2⟩ most u v = stepT ⟨cl, en, bk, (plainOA op a).1, (plainOA op a).2⟩ most u v) := rfl
  obtain ⟨PA, hPA⟩ : ∃ PA, PA = plainOA op a := ⟨_, rfl⟩
  rw [← hPA] at HPl ⊢
  have hAf := plainOA_fit (op := op) (unhide HH).A
  rw [← hPA] at hAf
  clear hPA HP1
  obtain ⟨o1, a1⟩ := PA
  simp only at HPl hAf ⊢
  have HAF := hide hAf
  clear hAf
  obtain ⟨r, hr⟩ : ∃ r, r = stepT ⟨cl, en, bk, o1, a1⟩ most u v := ⟨_, rfl⟩
  rw [← hr]
  have HR := hide hr
  clear hr
  go_enter Tryz.func20, Tryz.ntmps20
  go_wp2_with fail
  rw [← unhide HW5]
  obtain ⟨vv, hvv⟩ : ∃ vv, vv = v := ⟨_, rfl⟩
  rw [← hvv] at HCl HH HR
  clear hvv
  refine wp_region_tellsP (fun u v => Below u.heap.size u v) [
    (fun v W => v = .slice ca cn cc),
    (fun v W => v = .pointer (some ⟨w.heap.size, 0, none⟩)),
    (fun v W => v = .slice pa pn pc),
    (fun v W => v = .agg #[.int .i64 bk.kind, .string ⟨bk.name.toArray⟩]),
    (fun v W => v = .agg #[.int .i64 at0, .int .i64 op, .int .i64 a, .int .i64 b, .slice sa sn sc]),
    (fun v W => ∃ c : Sl, v = .agg #[.int .i64 at0, .int .i64 o1, .int .i64 a1, .int .i64 b, .slice c.a c.n c.c]),
    (fun v W => v = .pointer (some ⟨w.heap.size + 1 + 1 + 1, 0, none⟩)),
    (fun v W => v = .slice la ln lc),
    (fun v W => ∃ s : Sl, v = .slice s.a s.n s.c ∧ Orw tyc 52 2 W w5.heap.size s.v u),
    (fun v W => v = .pointer (some ⟨w.heap.size + 1 + 1 + 1, 1, none⟩)),
    (fun v W => v = .slice ta tn tc),
    (fun v W => ∃ s : Sl, v = .slice s.a s.n s.c ∧ Orw tyc 52 2 W w5.heap.size s.v vv),
    (fun v W => ∃ l s : Sl, v = .agg #[.slice l.a l.n l.c, .slice s.a s.n s.c] ∧ Orw tyc 52 2 W w5.heap.size l.v u ∧ Orw tyc 52 2 W w5.heap.size s.v vv ∧ Dis s l),
    (fun v W => ∃ c l s : Sl, v = .agg #[.slice ca cn cc, .slice pa pn pc, .int .i64 bk.kind, .string ⟨bk.name.toArray⟩, .int .i64 at0, .int .i64 o1, .int .i64 a1, .int .i64 b, .slice c.a c.n c.c, .slice l.a l.n l.c, .slice s.a s.n s.c, .slice none 0 0, .int .i64 0, .string ⟨#[]⟩, .slice none 0 0, .int .i64 0, .string ⟨#[]⟩] ∧ Orw tyc 52 2 W w5.heap.size l.v u ∧ Orw tyc 52 2 W w5.heap.size s.v vv ∧ Dis s l),
    (fun v W => ∃ (X : Nat) (c l s : Sl), v = .pointer (some ⟨X, 0, none⟩) ∧ w5.heap.size ≤ X ∧ W.heap[X]? = some (.cells #[.slice ca cn cc, .slice pa pn pc, .int .i64 bk.kind, .string ⟨bk.name.toArray⟩, .int .i64 at0, .int .i64 o1, .int .i64 a1, .int .i64 b, .slice c.a c.n c.c, .slice l.a l.n l.c, .slice s.a s.n s.c, .slice none 0 0, .int .i64 0, .string ⟨#[]⟩, .slice none 0 0, .int .i64 0, .string ⟨#[]⟩] 85 (0, 0)) ∧ Orw tyc 52 2 W w5.heap.size l.v u ∧ Orw tyc 52 2 W w5.heap.size s.v vv ∧ Dis s l),
    (fun v W => ∃ (X : Nat) (c l s : Sl), v = .pointer (some ⟨X, 0, none⟩) ∧ w5.heap.size ≤ X ∧ W.heap[X]? = some (.cells #[.slice ca cn cc, .slice pa pn pc, .int .i64 bk.kind, .string ⟨bk.name.toArray⟩, .int .i64 at0, .int .i64 o1, .int .i64 a1, .int .i64 b, .slice c.a c.n c.c, .slice l.a l.n l.c, .slice s.a s.n s.c, .slice none 0 0, .int .i64 0, .string ⟨#[]⟩, .slice none 0 0, .int .i64 0, .string ⟨#[]⟩] 85 (0, 0)) ∧ Orw tyc 52 2 W w5.heap.size l.v u ∧ Orw tyc 52 2 W w5.heap.size s.v vv ∧ Dis s l)] 48
    [[], [], [(1, some 16)], [], [], [(4, some 19)], [], [(6, some 21)], [(7, some 22)], [], [(9, some 24)], [(10, some 25)], [(8, some 23), (11, some 26)], [(0, some 15), (2, some 17), (3, some 18), (5, some 20), (12, some 27)], [(13, some 28)], [(14, some 29)]]
    [(0, some 15), (1, some 16), (2, some 17), (3, some 18), (4, some 19), (5, some 20), (6, some 21), (7, some 22), (8, some 23), (9, some 24), (10, some 25), (11, some 26), (12, some 27), (13, some 28), (14, some 29), (15, some 14)] 8 11 12 23 26 (fun v1 v2 W => ∀ l s : Sl, v1 = .slice l.a l.n l.c → v2 = .slice s.a s.n s.c → Dis s l)
    (by kernel_rfl) (by kernel_rfl) rfl (fun _ => Below.refl _ _) (fun _ _ _ h1 h2 => h1.trans (h2.mono h1.size)) ?_ (fun _ _ _ _ h _ => h) ?_ ?_ ?_ ?_
  · intro r hr
    simp only [List.mem_cons, List.not_mem_nil, or_false] at hr
    rcases hr with rfl | rfl | rfl | rfl | rfl | rfl | rfl | rfl | rfl | rfl | rfl | rfl | rfl | rfl | rfl | rfl
    · intro v W W2 h f
      exact h
    · intro v W W2 h f
      exact h
    · intro v W W2 h f
      exact h
    · intro v W W2 h f
      exact h
    · intro v W W2 h f
      exact h
    · intro v W W2 h f
      exact h
    · intro v W W2 h f
      exact h
    · intro v W W2 h f
      exact h
    · intro v W W2 h f
      obtain ⟨s, rfl, h1⟩ := h
      exact ⟨s, rfl, h1.below fun j hj => f.block j (h1.lt j hj).2⟩
    · intro v W W2 h f
      exact h
    · intro v W W2 h f
      exact h
    · intro v W W2 h f
      obtain ⟨s, rfl, h1⟩ := h
      exact ⟨s, rfl, h1.below fun j hj => f.block j (h1.lt j hj).2⟩
    · intro v W W2 h f
      obtain ⟨l, s, rfl, h1, h2, h3⟩ := h
      exact ⟨l, s, rfl, h1.below fun j hj => f.block j (h1.lt j hj).2, h2.below fun j hj => f.block j (h2.lt j hj).2, h3⟩
    · intro v W W2 h f
      obtain ⟨c, l, s, rfl, h1, h2, h3⟩ := h
      exact ⟨c, l, s, rfl, h1.below fun j hj => f.block j (h1.lt j hj).2, h2.below fun j hj => f.block j (h2.lt j hj).2, h3⟩
    · intro v W W2 h f
      obtain ⟨X, c, l, s, rfl, h0, hX, h1, h2, h3⟩ := h
      exact ⟨X, c, l, s, rfl, h0, (f.block _ (lt_of_heap hX)).trans hX, h1.below fun j hj => f.block j (h1.lt j hj).2, h2.below fun j hj => f.block j (h2.lt j hj).2, h3⟩
    · intro v W W2 h f
      obtain ⟨X, c, l, s, rfl, h0, hX, h1, h2, h3⟩ := h
      exact ⟨X, c, l, s, rfl, h0, (f.block _ (lt_of_heap hX)).trans hX, h1.below fun j hj => f.block j (h1.lt j hj).2, h2.below fun j hj => f.block j (h2.lt j hj).2, h3⟩
  · refine ⟨?_, ?_, ?_, ?_, ?_, ?_, ?_, ?_, ?_, ?_, ?_, ?_, ?_, ?_, ?_, ?_, trivial⟩
    ·
      intro W hG
      have HG : Below w5.heap.size w5 W := (Below.refl _ _).drew.trans hG
      simp only [ForDeps, rAt]
      intro hpair
      obtain ⟨p0, p1, p2, ⟨p3, p4, p5, p6, p7⟩, p8, p9⟩ := unhide KB W HG
      refine Tells.yields (v := ?_) (by rfl) (Below.refl _ _) ?_ ?_
      rotate_left
      focus ((go_simp) <;> with_reducible rfl)
      exact rfl
    ·
      intro W hG
      have HG : Below w5.heap.size w5 W := (Below.refl _ _).drew.trans hG
      simp only [ForDeps, rAt]
      intro hpair
      obtain ⟨p0, p1, p2, ⟨p3, p4, p5, p6, p7⟩, p8, p9⟩ := unhide KB W HG
      refine Tells.yields (v := ?_) (by rfl) (Below.refl _ _) ?_ ?_
      rotate_left
      focus ((go_simp) <;> with_reducible rfl)
      exact rfl
    ·
      intro W hG
      have HG : Below w5.heap.size w5 W := (Below.refl _ _).drew.trans hG
      simp only [ForDeps, rAt]
      rintro _ rfl
      intro hpair
      simp only [Act.put, List.setIfInBounds_toArray, List.set_cons_zero, List.set_cons_succ]
      obtain ⟨p0, p1, p2, ⟨p3, p4, p5, p6, p7⟩, p8, p9⟩ := unhide KB W HG
      refine Tells.yields (v := ?_) (by rfl) (Below.refl _ _) ?_ ?_
      rotate_left
      focus ((go_simp) <;> with_reducible rfl)
      exact rfl
    ·
      intro W hG
      have HG : Below w5.heap.size w5 W := (Below.refl _ _).drew.trans hG
      simp only [ForDeps, rAt]
      intro hpair
      obtain ⟨p0, p1, p2, ⟨p3, p4, p5, p6, p7⟩, p8, p9⟩ := unhide KB W HG
      refine Tells.yields (v := ?_) (by rfl) (Below.refl _ _) ?_ ?_
      rotate_left
      focus ((go_simp) <;> with_reducible rfl)
      exact rfl
    ·
      intro W hG
      have HG : Below w5.heap.size w5 W := (Below.refl _ _).drew.trans hG
      simp only [ForDeps, rAt]
      intro hpair
      obtain ⟨p0, p1, p2, ⟨p3, p4, p5, p6, p7⟩, p8, p9⟩ := unhide KB W HG
      refine Tells.yields (v := ?_) (by rfl) (Below.refl _ _) ?_ ?_
      rotate_left
      focus ((go_simp) <;> with_reducible rfl)
      exact rfl
    ·
      intro W hG
      have HG : Below w5.heap.size w5 W := (Below.refl _ _).drew.trans hG
      simp only [ForDeps, rAt]
      rintro _ rfl
      intro hpair
      simp only [Act.put, List.setIfInBounds_toArray, List.set_cons_zero, List.set_cons_succ]
      refine Tells.does (by rfl) (fun K hK => ?_)
      have HC := unhide HPl W HG
      go_simp
      go_wp2_with (go_at_call 36; refine HC.mono ?_; rintro e W' ⟨s, rfl, f⟩)
      exact hK.out _ _ f ⟨s, rfl⟩
    ·
      intro W hG
      have HG : Below w5.heap.size w5 W := (Below.refl _ _).drew.trans hG
      simp only [ForDeps, rAt]
      intro hpair
      obtain ⟨p0, p1, p2, ⟨p3, p4, p5, p6, p7⟩, p8, p9⟩ := unhide KB W HG
      refine Tells.yields (v := ?_) (by rfl) (Below.refl _ _) ?_ ?_
      rotate_left
      focus ((go_simp) <;> with_reducible rfl)
      exact rfl
    ·
      intro W hG
      have HG : Below w5.heap.size w5 W := (Below.refl _ _).drew.trans hG
      simp only [ForDeps, rAt]
      rintro _ rfl
      intro hpair
      simp only [Act.put, List.setIfInBounds_toArray, List.set_cons_zero, List.set_cons_succ]
      obtain ⟨p0, p1, p2, ⟨p3, p4, p5, p6, p7⟩, p8, p9⟩ := unhide KB W HG
      refine Tells.yields (v := ?_) (by rfl) (Below.refl _ _) ?_ ?_
      rotate_left
      focus ((go_simp) <;> with_reducible rfl)
      exact rfl
    ·
      intro W hG
      have HG : Below w5.heap.size w5 W := (Below.refl _ _).drew.trans hG
      simp only [ForDeps, rAt]
      rintro _ rfl
      intro hpair
      simp only [Act.put, List.setIfInBounds_toArray, List.set_cons_zero, List.set_cons_succ]
      refine Tells.does (by rfl) (fun K hK => ?_)
      have HC := unhide HCl W ⟨la, ln, lc⟩ u HG (.inl ⟨rfl, rfl⟩)
      simp only at HC
      go_simp
      go_wp2_with (go_at_call 37; refine HC.mono ?_; rintro e W' ⟨s, rfl, o, f⟩)
      exact hK.out _ _ f ⟨s, rfl, o.base HG.size⟩
    ·
      intro W hG
      have HG : Below w5.heap.size w5 W := (Below.refl _ _).drew.trans hG
      simp only [ForDeps, rAt]
      intro hpair
      obtain ⟨p0, p1, p2, ⟨p3, p4, p5, p6, p7⟩, p8, p9⟩ := unhide KB W HG
      refine Tells.yields (v := ?_) (by rfl) (Below.refl _ _) ?_ ?_
      rotate_left
      focus ((go_simp) <;> with_reducible rfl)
      exact rfl
    ·
      intro W hG
      have HG : Below w5.heap.size w5 W := (Below.refl _ _).drew.trans hG
      simp only [ForDeps, rAt]
      rintro _ rfl
      intro hpair
      simp only [Act.put, List.setIfInBounds_toArray, List.set_cons_zero, List.set_cons_succ]
      obtain ⟨p0, p1, p2, ⟨p3, p4, p5, p6, p7⟩, p8, p9⟩ := unhide KB W HG
      refine Tells.yields (v := ?_) (by rfl) (Below.refl _ _) ?_ ?_
      rotate_left
      focus ((go_simp) <;> with_reducible rfl)
      exact rfl
    ·
      intro W hG
      have HG : Below w5.heap.size w5 W := (Below.refl _ _).drew.trans hG
      simp only [ForDeps, rAt]
      rintro _ rfl
      intro hpair
      simp only [Act.put, List.setIfInBounds_toArray, List.set_cons_zero, List.set_cons_succ]
      refine Tells.does (by rfl) (fun K hK => ?_)
      have HC := unhide HCl W ⟨ta, tn, tc⟩ vv HG (.inr ⟨rfl, rfl⟩)
      simp only at HC
      go_simp
      go_wp2_with (go_at_call 37; refine HC.mono ?_; rintro e W' ⟨s, rfl, o, f⟩)
      exact hK.out _ _ f ⟨s, rfl, o.base HG.size⟩
    ·
      intro W hG
      have HG : Below w5.heap.size w5 W := (Below.refl _ _).drew.trans hG
      simp only [ForDeps, rAt]
      rintro x8 ⟨s8, rfl, h8⟩ x11 ⟨s11, rfl, h11⟩
      intro hpair
      simp only [Act.put, List.setIfInBounds_toArray, List.set_cons_zero, List.set_cons_succ] at hpair ⊢
      obtain ⟨vp, vq, e1, e2, hD⟩ := hpair trivial
      refine Tells.yields (v := .agg #[.slice s8.a s8.n s8.c, .slice s11.a s11.n s11.c]) (by rfl) (Below.refl _ _) ?_ ⟨s8, s11, rfl, h8, h11, hD s8 s11 ?_ ?_⟩
      · go_simp
      · simpa using e1.symm
      · simpa using e2.symm
    ·
      intro W hG
      have HG : Below w5.heap.size w5 W := (Below.refl _ _).drew.trans hG
      simp only [ForDeps, rAt]
      rintro _ rfl _ rfl _ rfl x5 ⟨c5, rfl⟩ x12 ⟨l12, s12, rfl, h12a, h12b, h12c⟩
      intro hpair
      simp only [Act.put, List.setIfInBounds_toArray, List.set_cons_zero, List.set_cons_succ]
      refine Tells.yields (v := .agg #[.slice ca cn cc, .slice pa pn pc, .int .i64 bk.kind, .string ⟨bk.name.toArray⟩, .int .i64 at0, .int .i64 o1, .int .i64 a1, .int .i64 b, .slice c5.a c5.n c5.c, .slice l12.a l12.n l12.c, .slice s12.a s12.n s12.c, .slice none 0 0, .int .i64 0, .string ⟨#[]⟩, .slice none 0 0, .int .i64 0, .string ⟨#[]⟩]) (by rfl) (Below.refl _ _) ?_ ⟨c5, l12, s12, rfl, h12a, h12b, h12c⟩
      go_simp
    ·
      intro W hG
      have HG : Below w5.heap.size w5 W := (Below.refl _ _).drew.trans hG
      simp only [ForDeps, rAt]
      rintro x13 ⟨c13, l13, s13, rfl, h13a, h13b, h13c⟩
      intro hpair
      simp only [Act.put, List.setIfInBounds_toArray, List.set_cons_zero, List.set_cons_succ]
      refine Tells.does (by rfl) (fun K hK => ?_)
      go_simp
      have f := bA (Below.refl _ W) (.cells #[.slice ca cn cc, .slice pa pn pc, .int .i64 bk.kind, .string ⟨bk.name.toArray⟩, .int .i64 at0, .int .i64 o1, .int .i64 a1, .int .i64 b, .slice c13.a c13.n c13.c, .slice l13.a l13.n l13.c, .slice s13.a s13.n s13.c, .slice none 0 0, .int .i64 0, .string ⟨#[]⟩, .slice none 0 0, .int .i64 0, .string ⟨#[]⟩] 85)
      exact hK.out _ _ f ⟨W.heap.size, c13, l13, s13, rfl, HG.size, heap_alloc_last _ _, h13a.below fun j hj => f.block j (h13a.lt j hj).2, h13b.below fun j hj => f.block j (h13b.lt j hj).2, h13c⟩
    ·
      intro W hG
      have HG : Below w5.heap.size w5 W := (Below.refl _ _).drew.trans hG
      simp only [ForDeps, rAt]
      rintro x14 ⟨X14, c14, l14, s14, rfl, h14, h14x, h14a, h14b, h14c⟩
      intro hpair
      simp only [Act.put, List.setIfInBounds_toArray, List.set_cons_zero, List.set_cons_succ]
      refine Tells.yields (v := ?_) (by rfl) (Below.refl _ _) ?_ ?_
      rotate_left
      focus ((go_simp) <;> with_reducible rfl)
      exact ⟨X14, c14, l14, s14, rfl, h14, h14x, h14a, h14b, h14c⟩
  · intro o ho
    injection ho with ho
    subst ho
    intro W hG
    have HG : Below w5.heap.size w5 W := (Below.refl _ _).drew.trans hG
    simp only [ForDeps, rAt, List.getD_cons_succ, List.getD_cons_zero]
    rintro _ rfl
    simp only [Act.put, List.setIfInBounds_toArray, List.set_cons_zero, List.set_cons_succ]
    refine Tells.does (by rfl) (fun K hK => ?_)
    have HC := unhide HCl W ⟨la, ln, lc⟩ u HG (.inl ⟨rfl, rfl⟩)
    simp only at HC
    go_simp
    go_wp2_with (go_at_call 37; refine HC.mono ?_; rintro e W' ⟨s, rfl, o, f⟩)
    refine hK.out _ _ f ⟨⟨s, rfl, o.base HG.size⟩, fun u ⟨s2, hu, o2⟩ l1 s1 e1 e2 j h1 h2 => ?_⟩
    subst hu
    injection e1 with a1 a2 a3
    injection e2 with b1 b2 b3
    have g1 := (o.lt j (by unfold Sl.v at h2 ⊢; rw [a1, a2, a3]; exact h2)).1
    have g2 := (o2.lt j (by unfold Sl.v at h1 ⊢; rw [b1, b2, b3]; exact h1)).2
    omega
  · intro o ho
    injection ho with ho
    subst ho
    intro W hG
    have HG : Below w5.heap.size w5 W := (Below.refl _ _).drew.trans hG
    simp only [ForDeps, rAt, List.getD_cons_succ, List.getD_cons_zero]
    rintro _ rfl
    simp only [Act.put, List.setIfInBounds_toArray, List.set_cons_zero, List.set_cons_succ]
    refine Tells.does (by rfl) (fun K hK => ?_)
    have HC := unhide HCl W ⟨ta, tn, tc⟩ vv HG (.inr ⟨rfl, rfl⟩)
    simp only at HC
    go_simp
    go_wp2_with (go_at_call 37; refine HC.mono ?_; rintro e W' ⟨s, rfl, o, f⟩)
    refine hK.out _ _ f ⟨⟨s, rfl, o.base HG.size⟩, fun u ⟨s2, hu, o2⟩ l1 s1 e1 e2 j h1 h2 => ?_⟩
    subst hu
    injection e1 with a1 a2 a3
    injection e2 with b1 b2 b3
    have g1 := (o2.lt j (by unfold Sl.v at h2 ⊢; rw [a1, a2, a3]; exact h2)).2
    have g2 := (o.lt j (by unfold Sl.v at h1 ⊢; rw [b1, b2, b3]; exact h1)).1
    omega
  · intro W hG
    have HG : Below w5.heap.size w5 W := (Below.refl _ _).drew.trans hG
    simp only [ForDeps, rAt]
    intro x0 h0 x1 h1 x2 h2 x3 h3 x4 h4 x5 h5 x6 h6 x7 h7 x8 h8 x9 h9 x10 h10 x11 h11 x12 h12 x13 h13 x14 h14 x15 h15
    simp only [Act.put, List.setIfInBounds_toArray, List.set_cons_zero, List.set_cons_succ]
    clear h0 h1 h2 h3 h4 h5 h6 h7 h8 h9 h10 h11 h12 h13 h14
    obtain ⟨X, c, l, q, rfl, hX, bX, ol, os, dsl⟩ := h15
    obtain ⟨f5, hz5, hb4⟩ := unhide X5
    have H := unhide HH
    obtain ⟨C, hC⟩ : ∃ C : Wcx, C = ⟨X, w5, ca, cn, cc, ⟨pa, pn, pc⟩, ⟨cl, en, bk, o1, a1⟩, at0, b, c⟩ := ⟨_, rfl⟩
    have eX : C.X = X := by rw [hC]
    have ew : C.w0 = w5 := by rw [hC]
    have ep : C.p = ⟨cl, en, bk, o1, a1⟩ := by rw [hC]
    have hCok : Cok C := by rw [hC]; exact ⟨H.cl.below f5, H.cn⟩
    have hPok : Pok C := by rw [hC]; exact ⟨H.es.below f5, H.pn, H.fit, unhide HAF⟩
    have hbk : nmOk C.p.bk := by rw [ep]; exact H.bk
    obtain ⟨x0, hx0⟩ : ∃ x0 : Wst, x0 = ⟨vv, u, [], ty0, [], ty0⟩ := ⟨_, rfl⟩
    have dn : ∀ q : Sl, Dis q ⟨none, 0, 0⟩ := fun q j _ h2 => by cases h2
    have dn' : ∀ q : Sl, Dis ⟨none, 0, 0⟩ q := fun q j h1 _ => by cases h1
    have k0 : WK C x0 W := by
      rw [hx0, hC]
      exact ⟨⟨H.fr.sok, H.fr.lok, by simp, by unfold nmOk ty0; simp, by simp, by unfold nmOk ty0; simp⟩, l, q, ⟨none, 0, 0⟩, ⟨none, 0, 0⟩, ⟨bX, ol, os, Orw.nil _ _ _ _ _, Orw.nil _ _ _ _ _, dsl, dn q, dn q, dn l, dn l, dn' _, HG, hX⟩⟩
    have hbd : Bd 900 false x0 := by
      rw [hx0]
      have e1 := H.fr.ll.1
      have e2 := H.fr.sl.1
      have e3 := H.ln
      have e4 := H.sn
      simp only at e1 e2 e3 e4
      exact ⟨by simp only [List.length_nil]; omega, by simp only; omega, by simp, fun e => by cases e⟩
    obtain ⟨tk, tl⟩ := tab_ok C hCok hPok hbk
    have hdo : doD ((tabP C.X C.p).map Prod.snd) x0 = doD ((tabP 0 ⟨cl, en, bk, o1, a1⟩).map Prod.snd) ⟨vv, u, [], ty0, [], ty0⟩ := by rw [tab_snd, ep, hx0]
    have HDe := hide (deeds_any C x0 W k0)
    have HDo : Hid (∀ w' v, Below W.heap.size W w' → Orw vf 103 1 w' W.heap.size v ((tabP C.X C.p).map Prod.fst) → Calls Tryz.prog 38 #[v] w' fun e w2 => Dp C w' (doD ((tabP C.X C.p).map Prod.snd) x0) e w2) := fun w' v f o => p11done_any C w' _ x0 v W.heap.size o tl false tk 900 (by omega) hbd (k0.below f)
    rw [hdo] at HDo
    rw [eX] at HDe HDo
    have HRR : Hid (r = (doD ((tabP 0 ⟨cl, en, bk, o1, a1⟩).map Prod.snd) ⟨vv, u, [], ty0, [], ty0⟩).bind fun y => if most < (wideN y.st : Int) then none else some (y.lo, y.st)) := unhide HR
    have HGR : Hid (∀ y, doD ((tabP 0 ⟨cl, en, bk, o1, a1⟩).map Prod.snd) ⟨vv, u, [], ty0, [], ty0⟩ = some y → y.st.length ≤ 1000000) := fun y hy => doD_len C tk ⟨tl, by omega⟩ hbd (hdo.trans hy)
    have HCC := hide (And.intro eX ew)
    have hBX : w.heap.size + 1 + 1 + 1 + 1 < w5.heap.size := by omega
    clear k0 hbd tk tl hdo hx0 hC hCok hPok hbk H bX ol os dsl ep eX ew hG HG dn dn' HR HPl HCl KB HAF
    generalize doD ((tabP 0 ⟨cl, en, bk, o1, a1⟩).map Prod.snd) ⟨vv, u, [], ty0, [], ty0⟩ = D at *
    generalize (tabP C.X C.p).map Prod.fst = fs at *
    go_wp2_with fail
    refine (unhide HDe).mono ?_
    rintro e w6 ⟨v6, rfl, o6, f6⟩
    have HDo6 := hide (unhide HDo w6 v6 f6 o6)
    clear o6 f6 HDe HDo
    cases D with
    | none =>
      go_wp2_with fail
      refine (unhide HDo6).mono ?_
      rintro e w7 ⟨rfl, ⟨x7, k7⟩, _⟩
      obtain ⟨eX, ew⟩ := unhide HCC
      have f7 := k7.bel.1
      rw [ew] at f7
      have b7 := (f7.block _ (lt_of_heap hb4)).trans hb4
      have y0 := bx_cell b7 0 _ rfl
      have y1 := bx_cell b7 1 _ rfl
      have yt := fun q => bx_thaw b7 q
      have F7 := hide (f5.trans (f7.mono f5.size))
      have B7 := hide b7
      have HRn : Hid (r = none) := unhide HRR
      clear k7 f7 b7 HDo6
      go_wp2
      refine bodyPost_ret (fr_ret2 Tryz.results20 _ (w.heap.size + 1 + 1 + 1 + 1) _ _ (ty_set _ _ (unhide B7)) _ rfl) rfl ?_
      rw [unhide HRn]
      exact ⟨ty_bel _ _ (unhide F7) (by omega), rfl⟩
    | some y =>
      have hyl := unhide HGR y rfl
      go_wp2_with fail
      refine (unhide HDo6).mono ?_
      rintro e w7 ⟨rfl, k7, _⟩
      obtain ⟨eX, ew⟩ := unhide HCC
      obtain ⟨ok7, ⟨l1, l2, l3⟩, ⟨s1, s2, s3⟩, h7, a7, k7⟩ := k7
      have f7 := k7.bel
      have o7l := k7.ol
      have o7s := k7.os
      obtain ⟨_, _, _, c9, c10, _, _⟩ := k7.cells
      have hsn := (WK.len k7).2.1
      rw [ew] at f7 o7l o7s
      rw [eX] at c9 c10
      simp only at c9 c10 hsn
      have b7 := (f7.block _ (lt_of_heap hb4)).trans hb4
      have HWo := hide (p11Words_any w7 (.slice l1 l2 l3) s1 s2 s3 y.st (by have := o7s.ls rkT; exact this) (by omega))
      have K7 := hide (And.intro f7 (And.intro o7l (And.intro o7s (And.intro ok7 b7))))
      clear f7 o7l o7s ok7 b7 k7 HDo6 hsn
      have HRs : Hid (r = if most < (wideN y.st : Int) then none else some (y.lo, y.st)) := unhide HRR
      clear HRR HGR
      generalize (wideN y.st : Int) = wd at *
      go_wp2_with fail
      refine (unhide HWo).mono ?_
      rintro e w8 ⟨rfl, f8⟩
      obtain ⟨f7, o7l, o7s, ok7, b7⟩ := unhide K7
      have g8 := f7.trans (f8.mono f7.size)
      have b8 := (f8.block _ (lt_of_heap b7)).trans b7
      have o8l := o7l.below (w' := w8) fun j hj => f8.block j (o7l.lt j hj).2
      have o8s := o7s.below (w' := w8) fun j hj => f8.block j (o7s.lt j hj).2
      have z0 := bx_cell b8 0 _ rfl
      have z1 := bx_cell b8 1 _ rfl
      have zt := fun q => bx_thaw b8 q
      have c9' := (f8.cell (World.block_lt_of_cell? _ _ c9)).trans c9
      have c10' := (f8.cell (World.block_lt_of_cell? _ _ c10)).trans c10
      have K8 := hide (And.intro (f5.trans (g8.mono f5.size)) (And.intro o8l (And.intro o8s (And.intro ok7 b8))))
      clear f7 o7l o7s ok7 b7 f8 g8 b8 o8l o8s K7 HWo c9 c10
      by_cases hm : most < wd
      · rw [if_pos hm] at HRs
        go_wp2
        obtain ⟨f8, o8l, o8s, ok8, b8⟩ := unhide K8
        refine bodyPost_ret (fr_ret2 Tryz.results20 _ (w.heap.size + 1 + 1 + 1 + 1) _ _ (ty_set _ _ b8) _ rfl) rfl ?_
        rw [unhide HRs]
        exact ⟨ty_bel _ _ f8 (by omega), rfl⟩
      · rw [if_neg hm] at HRs
        go_wp2
        obtain ⟨f8, o8l, o8s, ok8, b8⟩ := unhide K8
        refine bodyPost_ret (fr_ret2 Tryz.results20 _ (w.heap.size + 1 + 1 + 1 + 1) _ _ (ty_set _ _ b8) _ rfl) rfl ?_
        rw [unhide HRs]
        have kp : ∀ {vx : Value} {lx : List Ty} (c0 c1 : Value), Orw tyc 52 2 w8 w5.heap.size vx lx → Orw tyc 52 2 ((w8.setCell ⟨w.heap.size + 1 + 1 + 1 + 1, 0, none⟩ c0).setCell ⟨w.heap.size + 1 + 1 + 1 + 1, 1, none⟩ c1) w.heap.size vx lx := fun {vx lx} c0 c1 o => (o.below fun j hj => (heap_setCell_other _ _ _ _ (row_ne o b8 (by decide) hj)).trans (heap_setCell_other _ _ _ _ (row_ne o b8 (by decide) hj))).base (by omega)
        exact ⟨ty_bel _ _ f8 (by omega), ⟨l1, l2, l3⟩, ⟨s1, s2, s3⟩, rfl, kp _ _ o8l, kp _ _ o8s, ok8.lo, ok8.st⟩
end Go.Proofs.YthenefjoidckkaaGreatDoor
