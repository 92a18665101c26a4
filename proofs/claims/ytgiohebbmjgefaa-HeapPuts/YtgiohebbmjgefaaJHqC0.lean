/- Layer 15, the document's side: Set (written by mk/mkhqc.py). -/
import Derived.Test.YtgiohebbmjgefaaJH3
import Derived.Test.YtgiohebbmjgefaaJHqD
import Derived.Test.YtgiohebbmjgefaaJHpS

namespace Go.Proofs.Ytgiohebbmjgefaa
open Go.RowKit
set_option linter.unusedVariables false
set_option maxRecDepth 100000

set_option maxHeartbeats 3200000 in
theorem rset_any (w : World) (s : Sl) (rs : List ObR) (h : HIn w s rs) (n k : Int) (hn : fitI n) (hk : fitI k) (v : Vl) :
    Calls Try.prog 29 #[s.v, .int .i64 n, .int .i64 k, .agg #[.int .i64 v.kind, .int .i64 v.n]] w (setPost w (rs.map ObR.o) n k v) := by
  have hln := h.ls.1
  have hsm := h.small
  obtain ⟨vk, vn⟩ := v
  obtain ⟨w0, e0, f0, r0⟩ : ∃ w0, w.alloc (.cells #[.int .i64 vk, .int .i64 vn] 33) = w0 ∧ Below w.heap.size w w0 ∧ w0.heap[w.heap.size]? = some (.cells #[.int .i64 vk, .int .i64 vn] 33 (0, 0)) := ⟨_, rfl, (Below.refl _ _).alloc (Nat.le_refl _) _, heap_alloc_last _ _⟩
  have KX : Hid (∀ W, Below w0.heap.size w0 W → W.cell? ⟨w.heap.size, 0, none⟩ = some (.int .i64 vk) ∧ W.cell? ⟨w.heap.size, 1, none⟩ = some (.int .i64 vn)) := fun W f => by
    have r1 := (f.block _ (lt_of_heap r0)).trans r0
    exact ⟨bx_cell r1 0 _ rfl, bx_cell r1 1 _ rfl⟩
  have KH : Hid (∀ W, Below w0.heap.size w0 W → HIn W s rs ∧ Below w.heap.size w W) := fun W f => ⟨h.below (f0.trans (f.mono f0.size)), f0.trans (f.mono f0.size)⟩
  have KB : Hid (∀ {W W2}, Below w0.heap.size w0 W → Below W.heap.size W W2 → Below w0.heap.size w0 W2) := fun f g => f.trans (g.mono f.size)
  have H0 := hide (Below.refl w0.heap.size w0)
  have HZ0 := hide (lt_of_heap r0)
  have HC := hide (rword_any w0 s rs (h.below f0) n k hn hk)
  obtain ⟨a, m, c⟩ := s
  simp only at hln hsm
  have HFN := hide hn
  clear f0 r0 h hn hk
  unfold Sl.v at *
  simp only at HC ⊢
  generalize hPO : setPost w (rs.map ObR.o) n k ⟨vk, vn⟩ = PO
  have HPO := hide hPO
  clear hPO
  go_enter Try.func29, Try.ntmps29
  go_wp2_with fail
  refine (unhide HC).mono ?_
  rintro e w1 ⟨f1, ⟨hw, rfl⟩ | ⟨u, hw, rfl⟩⟩
  · have H1 := hide (unhide KB (unhide H0) f1)
    have HE := hide (setH_none (v := ⟨vk, vn⟩) hw)
    clear f1 hw HC H0 e0
    go_wp2
    rw [← unhide HPO]
    have b1 := (unhide KH _ (unhide H1)).2
    exact ⟨b1.trans (((Below.refl _ _).alloc (Nat.le_refl _) _).mono b1.size), .inl ⟨unhide HE, rfl⟩⟩
  have H1 := hide (unhide KB (unhide H0) f1)
  have H2 := hide (unhide KB (unhide H1) ((Below.refl w1.heap.size w1).alloc (Nat.le_refl _) (.cells #[.int .i64 u.kind, .int .i64 u.n] 33)))
  obtain ⟨p0, p1⟩ := unhide KX _ (unhide H2)
  have HW := hide hw
  clear f1 hw HC H0 e0
  by_cases hkd : u.kind = vk
  case neg =>
    have HE := hide (setH_kind (v := ⟨vk, vn⟩) (unhide HW) hkd)
    have hkd1 : (u.kind == vk) = false := by simpa using hkd
    go_wp2
    rw [← unhide HPO]
    exact ⟨(unhide KH _ (unhide H2)).2, .inl ⟨unhide HE, rfl⟩⟩
  obtain ⟨hc, hn1, hn2, hk0, o, ho, hfo, hou⟩ := wordH_in (unhide HW)
  have HE := hide (setH_some (v := ⟨vk, vn⟩) (unhide HW) hkd ho)
  have hcl := check_len hc
  rw [List.length_map, hln] at hcl
  obtain ⟨uk, un⟩ := u
  simp only at hkd
  subst hkd
  obtain ⟨j, hj⟩ : ∃ j : Nat, n = (j : Int) + 1 := ⟨(n - 1).toNat, by omega⟩
  obtain ⟨q, rfl⟩ : ∃ q : Nat, k = (q : Int) := ⟨k.toNat, by omega⟩
  subst hj
  have hjn : ((j : Int) + 1 - 1).toNat = j := by omega
  have hqn : ((q : Int)).toNat = q := by omega
  have hwr : IntKind.i64.wrap ((j : Int) + 1 - 1) = (j : Int) := by rw [IntKind.wrap_i64]; omega
  have hwr2 : IntKind.i64.wrap (j : Int) = (j : Int) := by rw [IntKind.wrap_i64]; omega
  have hjm : j < m := by omega
  rw [hjn] at ho
  rw [hqn] at hou
  have HH := hide (And.intro hc (And.intro ho hou))
  have HOH := hide (copy_any _ ⟨a, m, c⟩ rs (unhide KH _ (unhide H2)).1)
  simp only [Sl.v] at HOH
  clear hc hn1 hn2 hk0 ho hfo hou
  go_wp2_with fail
  refine (unhide HOH).mono ?_
  rintro e w4 ⟨g, c4, dn, rfl, hown, hd, f4⟩
  have H4 := hide (unhide KB (unhide H2) f4)
  obtain ⟨hc, ho, hou⟩ := unhide HH
  rw [← hd, List.getElem?_map] at ho
  obtain ⟨r, hr, hro⟩ : ∃ r, dn[j]? = some r ∧ r.o = o := by
    cases hr : dn[j]? with
    | none => rw [hr] at ho; cases ho
    | some r =>
      rw [hr] at ho
      injection ho with ho
      exact ⟨r, rfl, ho⟩
  subst hro
  have hown1 := hown.below (Below.refl w4.heap.size w4).drew
  have ow := hown1.each r (List.mem_of_getElem? hr)
  obtain ⟨ty, ⟨sa, sn, sc⟩, ws⟩ := r
  simp only [ObR.o] at hou
  simp only [Sl.v] at ow
  have hql := (List.getElem?_eq_some_iff.1 hou).1
  have hwn : ws.length = sn := by obtain ⟨_, _, e', _⟩ := ow.form; injection e' with _ e2 _; exact e2.symm
  obtain ⟨g2, cur2, rfl, hB2, hh2, hz2, q2⟩ := ow.blkR rkV.len (by omega)
  obtain ⟨g', cur, eg, hB, hh, hz, q1⟩ := hown1.row.blkR rkO.len (by omega)
  injection eg with eg
  injection eg with eg
  subst eg
  have hne : g ≠ g2 := fun e => by
    rw [e, hh2] at hh
    injection hh with hh
    injection hh with _ hh
    cases hh
  have hX : w.heap.size ≠ g2 := by
    have h1 := (unhide KB (unhide H1) (Below.refl _ _)).size
    have h2 := unhide HZ0
    have h3 : w1.heap.size + 1 ≤ g2 := by simpa using hB2
    omega
  have hX1 : w.heap.size ≠ g := by
    have h1 := (unhide KB (unhide H1) (Below.refl _ _)).size
    have h2 := unhide HZ0
    have h3 : w1.heap.size + 1 ≤ g := by simpa using hB
    omega
  have hgw : w.heap.size ≤ g2 := by
    have h1 := (unhide KB (unhide H1) (Below.refl _ _)).size
    have h2 := unhide HZ0
    have h3 : w1.heap.size + 1 ≤ g2 := by simpa using hB2
    omega
  have c1 := q1 j _ hr 1 _ rfl
  have d0 := q2 q _ hou 0 _ rfl
  have d1 := q2 q _ hou 1 _ rfl
  rw [Nat.add_zero] at d0
  obtain ⟨p0, p1⟩ := unhide KX _ (unhide KB (unhide H4) (Below.refl w4.heap.size w4).drew)
  obtain ⟨SS, hSS⟩ : ∃ SS : World → Prop, SS = fun W => W.cell? ⟨g, j * 2 + 1, none⟩ = some (.slice (some ⟨g2, 0, none⟩) sn sc) ∧ W.cell? ⟨w.heap.size, 0, none⟩ = some (.int .i64 uk) ∧ W.cell? ⟨w.heap.size, 1, none⟩ = some (.int .i64 vn) := ⟨_, rfl⟩
  have KS : Hid (∀ W, SS W → W.cell? ⟨g, j * 2 + 1, none⟩ = some (.slice (some ⟨g2, 0, none⟩) sn sc) ∧ W.cell? ⟨w.heap.size, 0, none⟩ = some (.int .i64 uk) ∧ W.cell? ⟨w.heap.size, 1, none⟩ = some (.int .i64 vn)) := fun W h => by rw [hSS] at h; exact h
  have HS0 : Hid (SS w4.drew) := by rw [hSS]; exact ⟨c1, p0, p1⟩
  have HS1 : Hid (SS ((w4.drew.setCell ⟨g2, q * 2, none⟩ (.int .i64 uk)).setCell ⟨g2, q * 2 + 1, none⟩ (.int .i64 vn))) := by
    rw [hSS]
    refine ⟨?_, ?_, ?_⟩
    · rw [World.cell?_setCell_far _ _ _ _ (by exact fun e => hne e.symm), World.cell?_setCell_far _ _ _ _ (by exact fun e => hne e.symm)]; exact c1
    · rw [World.cell?_setCell_far _ _ _ _ (by exact fun e => hX e.symm), World.cell?_setCell_far _ _ _ _ (by exact fun e => hX e.symm)]; exact p0
    · rw [World.cell?_setCell_far _ _ _ _ (by exact fun e => hX e.symm), World.cell?_setCell_far _ _ _ _ (by exact fun e => hX e.symm)]; exact p1
  have hqs : (q : Int) < (sn : Int) := by omega
  have hjm1 : (j : Int) < (m : Int) := by omega
  have z0 := hz2 (q * 2)
  have z1 := hz2 (q * 2 + 1)
  simp only [World.cell?_drew, World.frozen?_drew] at d0 d1 z0 z1
  have HCL := hide (And.intro d0 d1)
  have HR := hide hr
  have HD := hide hd
  have HOU := hide hou
  have HO1 := hide hown1
  clear c1 d0 d1 q1 q2 p0 p1 hr hd hou hown hown1 ow hh hh2 hz hz2 hB hB2 ho hc HH f4 hSS
  go_wp2
  refine wp_region_txt SS [9] (List.range 10) (by kernel_rfl) (by kernel_rfl) (unhide HS0) ?_
  repeat (first
    | (refine Txt.reads (v := ?_) (by rfl) (by rfl) (by rfl) ?_ ?_; rotate_left; (focus ((intro W hSW; obtain ⟨c1, p0, p1⟩ := unhide KS W hSW; go_simp) <;> with_reducible rfl)); simp only [Act.put, List.setIfInBounds_toArray, List.set_cons_zero, List.set_cons_succ]))
  refine Txt.acts (by rfl) (by rfl) (by rfl) (fun K hK => ?_)
  obtain ⟨d0, d1⟩ := unhide HCL
  go_simp
  refine hK.out _ _ (unhide HS1) ?_
  refine Txt.done ?_
  have HG2 := hide hgw
  have HQ := hide (And.intro hjn (And.intro hqn hql))
  clear hgw hjn hqn hql d0 d1 z0 z1 hne hX hX1 hwr hwr2 hjm1 hqs hK
  go_wp2
  rw [← unhide HPO]
  obtain ⟨hjn, hqn, hql⟩ := unhide HQ
  have hW := (unhide HO1).word (unhide HR) hql ⟨uk, vn⟩
  have hmap : (dn.set j ⟨ty, ⟨some ⟨g2, 0, none⟩, sn, sc⟩, ws.set q ⟨uk, vn⟩⟩).map ObR.o = (rs.map ObR.o).set j ⟨ty, ws.set q ⟨uk, vn⟩⟩ := by
    rw [List.map_set, unhide HD]
    rfl
  have hE := unhide HE
  rw [hjn, hqn] at hE
  have b4 := (unhide KH _ (unhide H4)).2
  have hws : ws.length ≤ 65536 := by
    have h1 := wordsH_mem (List.mem_map_of_mem (f := ObR.o) (List.mem_of_getElem? (unhide HR)))
    rw [unhide HD] at h1
    simp only [ObR.o] at h1
    omega
  have hdl : dn.length = rs.length := by
    have := congrArg List.length (unhide HD)
    simpa using this
  refine ⟨((b4.setCell (p := ⟨g2, q * 2, none⟩) (unhide HG2) _).setCell (p := ⟨g2, q * 2 + 1, none⟩) (unhide HG2) _).drew, .inr ⟨_, ⟨some ⟨g, 0, none⟩, m, c4⟩, _, hE, hW.hin ?_ ?_, hmap, rfl⟩⟩
  · rw [List.length_set]
    omega
  · rw [hmap]
    have h1 := wordsH_set (rs.map ObR.o) j ⟨ty, ws.set q ⟨uk, vn⟩⟩
    simp only [List.length_set] at h1
    omega
end Go.Proofs.Ytgiohebbmjgefaa
