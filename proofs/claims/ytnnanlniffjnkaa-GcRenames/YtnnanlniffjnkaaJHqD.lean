/- Layer 15, the document's side: Get, Word. -/
import Derived.Test.YtnnanlniffjnkaaJY2
import Derived.Test.YtnnanlniffjnkaaJY3
import Derived.Test.YtnnanlniffjnkaaJY1

namespace Go.Proofs.Ytnnanlniffjnkaa
open Go.RowKit
set_option linter.unusedVariables false
set_option maxRecDepth 100000

theorem hIn_sub {w : World} {b o n c : Nat} {rs : List ObR} (h : HIn w ⟨some ⟨b, o, none⟩, n, c⟩ rs) {j : Nat} {r : ObR} (hr : rs[j]? = some r) : HIn w ⟨some ⟨b, o + j * 2, none⟩, 1, c - j⟩ [r] := by
  have hln := h.ls.1
  have hrm := h.room
  have hmo := h.most
  have hj := (List.getElem?_eq_some_iff.1 hr).1
  simp only at hln hrm hmo
  refine ⟨⟨rfl, .inr ⟨b, o + j * 2, rfl, ?_, fun k x hx q u hu => ?_⟩⟩, ?_, ?_, (fun e => by cases e), by simp, fun x hx => ?_⟩
  · rcases h.ls.2 with h0 | ⟨b', o', e, hb, _⟩
    · simp only at h0; omega
    · injection e with e; injection e with e; subst e; exact hb
  · cases k with
    | succ k => simp at hx
    | zero =>
      simp at hx
      subst hx
      rcases h.ls.2 with h0 | ⟨b', o', e, hb, hc⟩
      · simp only at h0; omega
      · injection e with e
        injection e with e1 e2
        subst e1 e2
        have := hc j r hr q u hu
        rw [Nat.zero_mul, Nat.add_zero]
        exact this
  · simp only; omega
  · simp only; omega
  · simp at hx
    subst hx
    exact h.each _ (List.mem_of_getElem? hr)
set_option maxHeartbeats 3200000 in
theorem rget_any (w : World) (s : Sl) (rs : List ObR) (h : HIn w s rs) (n : Int) (hn : fitI n) :
    Calls Try.prog 22 #[s.v, .int .i64 n] w (getPost w (rs.map ObR.o) n) := by
  have hln := h.ls.1
  have hsm := h.small
  have hrm := h.room
  have hmo := h.most
  obtain ⟨w0, e0, f0, r0⟩ : ∃ w0, w.alloc (.cells #[.string ⟨#[]⟩, .slice none 0 0] 43) = w0 ∧ Below w.heap.size w w0 ∧ w0.heap[w.heap.size]? = some (.cells #[.string ⟨#[]⟩, .slice none 0 0] 43 (0, 0)) := ⟨_, rfl, (Below.refl _ _).alloc (Nat.le_refl _) _, heap_alloc_last _ _⟩
  have HC := hide (rcheck_any w0 s rs (h.below f0))
  have KH : Hid (∀ W, Below w.heap.size w W → HIn W s rs) := fun W f => h.below f
  obtain ⟨a, m, c⟩ := s
  simp only at hln hsm hrm hmo
  have HS0 := hide (And.intro f0 r0)
  have hfn : -9223372036854775808 ≤ n ∧ n ≤ 9223372036854775807 := hn
  clear h hn f0 r0
  unfold Sl.v at *
  simp only at HC ⊢
  generalize hPO : getPost w (rs.map ObR.o) n = PO
  have HPO := hide hPO
  clear hPO
  go_enter Try.func22, Try.ntmps22
  go_wp2_with fail
  refine (unhide HC).mono ?_
  rintro e w1 ⟨rfl, f1⟩
  obtain ⟨f0, r0⟩ := unhide HS0
  have r1 := (f1.block _ (lt_of_heap r0)).trans r0
  have F1 := hide (f0.trans (f1.mono f0.size))
  have z0 := bx_thaw r1 0
  have z1 := bx_thaw r1 1
  have k0 := bx_cell r1 0 _ rfl
  have k1 := bx_cell r1 1 _ rfl
  have R1 := hide r1
  clear f0 r0 f1 r1 HC HS0 e0
  have END : Hid (∀ W2, W2 = (w1.setCell ⟨w.heap.size, 0, none⟩ (.string ⟨#[]⟩)).setCell ⟨w.heap.size, 1, none⟩ (.slice none 0 0) → W2.heap[w.heap.size]? = some (.cells #[.string ⟨#[]⟩, .slice none 0 0] 43 (0, 0)) ∧ Below w.heap.size w W2) := hide fun W2 e => by
    rw [e]
    exact ⟨bx_set2 _ _ (unhide R1), ((unhide F1).setCell (p := ⟨w.heap.size, 0, none⟩) (Nat.le_refl _) _).setCell (p := ⟨w.heap.size, 1, none⟩) (Nat.le_refl _) _⟩
  by_cases hc : checkH (rs.map ObR.o) = true
  case neg =>
    rw [checkE_no hc]
    have HG := hide (getH_bad (n := n) hc)
    clear hc
    go_wp2
    rw [← unhide HPO]
    exact bodyPost_ret (res_ot Try.results22 _ w.heap.size (.string ⟨#[]⟩) (.slice none 0 0) (unhide END _ rfl).1 _ rfl) rfl ⟨(unhide END _ rfl).2, .inl ⟨unhide HG, rfl⟩⟩
  rw [checkE_yes hc]
  have HCK := hide hc
  clear hc
  by_cases h1 : n < 1
  · have HG := hide (getH_out (l := rs.map ObR.o) (n := n) (by omega))
    go_wp2
    rw [← unhide HPO]
    exact bodyPost_ret (res_ot Try.results22 _ w.heap.size (.string ⟨#[]⟩) (.slice none 0 0) (unhide END _ rfl).1 _ rfl) rfl ⟨(unhide END _ rfl).2, .inl ⟨unhide HG, rfl⟩⟩
  by_cases h2 : (m : Int) < n
  · have HG := hide (getH_out (l := rs.map ObR.o) (n := n) (by rw [List.length_map]; omega))
    go_wp2
    rw [← unhide HPO]
    exact bodyPost_ret (res_ot Try.results22 _ w.heap.size (.string ⟨#[]⟩) (.slice none 0 0) (unhide END _ rfl).1 _ rfl) rfl ⟨(unhide END _ rfl).2, .inl ⟨unhide HG, rfl⟩⟩
  obtain ⟨j, hj⟩ : ∃ j : Nat, n = (j : Int) + 1 := ⟨(n - 1).toNat, by omega⟩
  subst hj
  have hjm : j < m := by omega
  have hjn : ((j : Int) + 1 - 1).toNat = j := by omega
  have hwr : IntKind.i64.wrap ((j : Int) + 1 - 1) = (j : Int) := by rw [IntKind.wrap_i64]; omega
  have hwr2 : IntKind.i64.wrap (j : Int) = (j : Int) := by rw [IntKind.wrap_i64]; omega
  obtain ⟨r, hr⟩ : ∃ r, rs[j]? = some r := ⟨_, List.getElem?_eq_getElem (by omega)⟩
  obtain ⟨b, o, ea, q⟩ := memb_row (unhide KH w (Below.refl _ _)) hr
  simp only at ea
  subst ea
  have q1 := q (unhide F1)
  have d0 := q1.zero
  have hty := ty_nil r.ty
  have hg := getH_at (n := (j : Int) + 1) (unhide HCK) (by omega) (by rw [hjn]; exact hr)
  have hjm1 : (j : Int) < (m : Int) := by omega
  have hj0 : (0 : Int) ≤ (j : Int) := by omega
  have hsub := hIn_sub (unhide KH w1 (unhide F1)) hr
  have HCP := hide (copy_any w1 _ [r] hsub)
  have hwi := ((unhide KH w (Below.refl _ _)).each _ (List.mem_of_getElem? hr))
  have hwl : r.ws.length * 16 ≤ 140737488351232 := by
    have h1 := hwi.ls.1
    have h2 := hwi.small
    omega
  have HG := hide (And.intro hg hwl)
  obtain ⟨ty, ⟨sa, sn, sc⟩, ws⟩ := r
  simp only [Sl.v] at HCP HG hty
  clear q q1 hr hg hsub hwi hwl
  generalize hst : (⟨ty.toArray⟩ : ByteArray) = st at *
  cases ht : ty.isEmpty with
  | true =>
    rw [ht] at hty
    have hty2 : st.toList = [] := by simpa using hty
    go_wp2
    rw [← unhide HPO]
    have hg := (unhide HG).1
    rw [ht, if_pos rfl] at hg
    exact bodyPost_ret (res_ot Try.results22 _ w.heap.size (.string ⟨#[]⟩) (.slice none 0 0) (unhide END _ rfl).1 _ rfl) rfl ⟨(unhide END _ rfl).2, .inl ⟨hg, rfl⟩⟩
  | false =>
    rw [ht] at hty
    have hty2 : ¬ st.toList = [] := by simpa using hty
    have hjc : (j : Int) + 1 ≤ (c : Int) := by omega
    have hsz : ((j : Int) + 1 - (j : Int)).toNat = 1 := by omega
    clear END
    go_wp2_with fail
    refine (unhide HCP).mono ?_
    rintro e w2 ⟨g, c2, dn, rfl, hown, hd, f2⟩
    simp only [List.map_cons, List.map_nil, ObR.o] at hd
    obtain ⟨y, rfl, hyt, hyw⟩ : ∃ y, dn = [y] ∧ y.ty = ty ∧ y.ws = ws := by
      match dn, hd with
      | [y], hd =>
        simp only [List.map_cons, List.map_nil, List.cons.injEq, and_true, ObR.o, Ob.mk.injEq] at hd
        exact ⟨y, rfl, hd.1, hd.2⟩
      | [], hd => simp at hd
      | _ :: _ :: _, hd => simp at hd
    subst hyt hyw
    obtain ⟨yty, ⟨ya, yn, yc⟩, yws⟩ := y
    simp only at hst hown HG ⊢
    have r2 := (f2.block _ (lt_of_heap (unhide R1))).trans (unhide R1)
    have F2 := hide ((unhide F1).trans (f2.mono (unhide F1).size))
    obtain ⟨g', cur, eg, _, _, _, q⟩ := hown.row.blkR rkO.len (by decide)
    injection eg with eg
    injection eg with eg
    subst eg
    have d0 := q 0 _ rfl 0 _ rfl
    have d1 := q 0 _ rfl 1 _ rfl
    simp only [Sl.v, hst, Nat.zero_mul, Nat.zero_add] at d0 d1
    have o3 := (hown.each _ (List.mem_singleton.2 rfl)).base (base' := w.heap.size + 1) (lt_of_heap (unhide R1))
    have O3 := hide o3
    simp only [Sl.v] at O3
    have z0 := bx_thaw r2 0
    have z1 := bx_thaw r2 1
    have k0 := bx_cell r2 0 _ rfl
    have k1 := bx_cell r2 1 _ rfl
    have R2 := hide r2
    clear hown hd f2 r2 q o3 HCP R1
    go_wp2
    rw [← unhide HPO]
    obtain ⟨hg, hwl⟩ := unhide HG
    rw [ht, if_neg (by decide)] at hg
    refine bodyPost_ret (res_ot Try.results22 _ w.heap.size (.string st) (.slice ya yn yc) (bx_set2 _ _ (unhide R2)) _ rfl) rfl ⟨?_, .inr ⟨_, ⟨ya, yn, yc⟩, hg, ?_, ?_⟩⟩
    · exact ((unhide F2).setCell (p := ⟨w.heap.size, 0, none⟩) (Nat.le_refl _) _).setCell (p := ⟨w.heap.size, 1, none⟩) (Nat.le_refl _) _
    · have o4 := (unhide O3).below (w' := (w2.setCell ⟨w.heap.size, 0, none⟩ (.string st)).setCell ⟨w.heap.size, 1, none⟩ (.slice ya yn yc)) (fun k hk => by
        have hlt := ((unhide O3).lt k hk).1
        rw [Below.heap_setCell _ _ _ _ (by simp only; omega), Below.heap_setCell _ _ _ _ (by simp only; omega)])
      exact Orw.linR (s := ⟨ya, yn, yc⟩) rkV o4 hwl (fun _ _ => trivial)
    · simp only [ObR.o, hst]
      rfl
end Go.Proofs.Ytnnanlniffjnkaa
