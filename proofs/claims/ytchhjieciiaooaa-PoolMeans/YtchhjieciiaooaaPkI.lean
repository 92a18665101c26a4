/- The landed pool: a pool that grows: text. -/
import Derived.Test.YtchhjieciiaooaaPkH
namespace Go.Proofs.Ytchhjieciiaooaa
open Go.RowKit Go.Maps
set_option linter.unusedVariables false

theorem klaw : Keyed Try.prog 9 := string_keyed Try.underlying9
theorem kzero (w : World) : (zeroValue 3).run Try.prog w = .ok (.int .i64 0) w := by kernel_rfl
theorem kkey {s : List UInt8} (h : s.length ≤ 140737488355328) : keyOf Try.prog 9 (.string ⟨s.toArray⟩) = some (.string s) := by
  have := WideMaps.keyOf_string_mk (P := Try.prog) (s := ⟨s.toArray⟩) Try.underlying9 (by unfold maxLen; simp [ByteArray.size]; omega)
  simpa using this

theorem int_wf {n : Int} (h : -9223372036854775808 ≤ n ∧ n ≤ 9223372036854775807) : (Lit.int .i64 n).wf = true := by
  have h1 := wrap64_wf n
  have h2 : wrap64 n = n := by unfold wrap64; omega
  rw [h2] at h1
  exact h1

/-- What a step of a growing pool leaves. -/
def GrTo (w : World) (B g m : Nat) (v : Value) (L : List Ent) (w' : World) : Prop :=
  ∃ v' N' D', GrR w' B g m v' N' D' L ∧ TX L L.length D' ∧ (v'.ownBlock = v.ownBlock ∨ ∀ k, v'.ownBlock = some k → w.heap.size ≤ k) ∧ Fr6 (fun k => k = g ∨ k = m ∨ v.ownBlock = some k) B w w'
theorem GrTo.refl {w : World} {B g m N : Nat} {v : Value} {D : DataW Unit} {l : List Ent} (h : GrR w B g m v N D l) (tx : TX l l.length D) : GrTo w B g m v l w := ⟨v, N, D, h, tx, .inl rfl, Below.refl _ _, fun _ _ _ => rfl⟩
theorem grTo_trans {w w1 w2 : World} {B g m : Nat} {v v1 : Value} {L : List Ent} (f : Fr6 (fun k => k = g ∨ k = m ∨ v.ownBlock = some k) B w w1) (hv : v1.ownBlock = v.ownBlock ∨ ∀ k, v1.ownBlock = some k → w.heap.size ≤ k) (h : GrTo w1 B g m v1 L w2) : GrTo w B g m v L w2 := by
  obtain ⟨v', N', D', h1, h2, h3, h4⟩ := h
  refine ⟨v', N', D', h1, h2, ?_, fr6_trans f h4 (fun k hk => ?_)⟩
  · rcases h3 with e | e
    · rw [e]
      exact hv
    · exact .inr (fun k hk => Nat.le_trans f.below.size (e k hk))
  · rcases hk with e | e | e
    · exact .inl (.inl e)
    · exact .inl (.inr (.inl e))
    · rcases hv with e1 | e1
      · rw [e1] at e
        exact .inl (.inr (.inr e))
      · exact .inr (e1 k e)
/-- Behind a step that turns nothing that was there. -/
theorem grTo_below {w w0 w2 : World} {B g m : Nat} {v : Value} {L : List Ent} (f : Below w.heap.size w w0) (hB : B ≤ w.heap.size) (h : GrTo w0 B g m v L w2) : GrTo w B g m v L w2 := grTo_trans (Fr6.of_below f hB) (.inl rfl) h

set_option maxHeartbeats 1600000 in
theorem kgtext_any (w : World) (B g m N : Nat) (v : Value) (D : DataW Unit) (l : List Ent) (h : GrR w B g m v N D l) (tx : TX l l.length D) (h0 : l[0]? = some ent0) (s : List UInt8) (hs : s.length ≤ 140737488355328) (hl : l.length ≤ 10000) (hB : B ≤ w.heap.size) :
    Calls Try.prog 70 #[.pointer (some ⟨g, 0, none⟩), .string ⟨s.toArray⟩] w fun e w' => e = .returned (.int .i64 ((addE l (eUtf s)).2 : Int)) ∧ GrTo w B g m v (addE l (eUtf s)).1 w' := by
  have c1 := h.c1
  have hkey := kkey hs
  obtain ⟨hno, hyes⟩ := tx.find h0 s
  cases hh : has D (.string s)
  case true =>
    obtain ⟨hat, hf⟩ := hyes hh
    have e1 : Hid (addE l (eUtf s) = (l, findE l (eUtf s))) := if_neg hf
    have HG := hide (GrTo.refl h tx)
    have hown := h.map
    generalize (⟨s.toArray⟩ : ByteArray) = st at *
    clear h tx hno hyes hf
    go_enter Try.func70, Try.ntmps70
    go_wp2_with (first
      | (at_lookup; refine wpList_lookup_own_ok_int _ rfl _ _ 83 rfl 9 3 .i64 klaw Try.underlying83 Try.underlying3 (kzero _) m N D rfl hown _ _ rfl hkey ?_; intro cc hcc hwc; rw [hat] at hcc; injection hcc with hcc; injection hcc with _ hcc; subst hcc; rw [hh])
      | go_in)
    go_ret
    rw [unhide e1]
    exact ⟨rfl, unhide HG⟩
  case false =>
    have hf := hno hh
    have hw : withE l (eUtf s) = l ++ [eUtf s] := rfl
    have e1 : addE l (eUtf s) = (l ++ [eUtf s], l.length) := if_pos hf
    rw [e1]
    have HP := hide (kgput_any w B g m N v D l h (eUtf s) hl hB)
    have HT := hide (tx.text (s0 := s) h.map.isMap hh)
    have hown := h.map
    have hN := h.room
    clear h tx hno hyes hf e1
    unfold entV at HP
    have HS : Hid ((⟨s.toArray⟩ : ByteArray) = ⟨s.toArray⟩) := rfl
    go_enter Try.func70, Try.ntmps70
    go_wp2_with (first
      | (at_lookup; refine wpList_lookup_own_ok_int _ rfl _ _ 83 rfl 9 3 .i64 klaw Try.underlying83 Try.underlying3 (kzero _) m N D rfl hown _ _ rfl hkey ?_; intro cc hcc hwc; clear hcc; rw [hh])
      | fail)
    refine (unhide HP).mono ?_
    rintro e w1 ⟨rfl, v1, p1, hv1, f1⟩
    rw [hw] at p1
    have c11 := p1.c1
    have hown1 := p1.map
    have hN1 : N < maxLen := by unfold maxLen; omega
    have P1 := hide p1
    have F1 := hide f1
    have V1 := hide hv1
    clear p1 f1 hv1 HP c1 hown hw HS
    have hval := plainElem_int (H := Unit) (P := Try.prog) Try.underlying3 (a := (l.length : Int)) (q := .i64) (int_wf (by omega))
    go_wp2_with (first
      | (at_mapUpdate; refine wpList_mapUpdate_own _ rfl _ _ _ 83 rfl 9 3 klaw Try.underlying83 _ m N D rfl hown1 hN1 _ _ _ rfl rfl hkey _ [] hval ?_)
      | fail)
    intro w2 hown2 hg2
    have hb2 : ∀ k, k < w1.heap.size → k ≠ m → w2.heap[k]? = w1.heap[k]? := fun k hk hkm => hg2.block k hk (fun e => hkm (by injection e))
    have Q2 : Hid (GrTo w B g m v (l ++ [eUtf s]) w2) := by
      have p1 := unhide P1
      refine grTo_trans (unhide F1) (unhide V1) ⟨v1, N + 1, _, ⟨p1.hg, p1.hm, p1.gm, p1.vg, p1.vm, (hb2 g p1.glt p1.gm).trans p1.blk, ?_, hown2, by simp; omega⟩, unhide HT, .inl rfl, ?_, fun k hk hF => hb2 k hk (fun e => hF (.inr (.inl e)))⟩
      · refine own_of_block p1.row (fun k hk => hb2 k (p1.row.lt k hk).2 (fun e => ?_))
        subst e
        exact p1.vm hk
      · exact (Below.refl B w1).grown hg2 (Nat.le_trans hB (unhide F1).below.size) (fun k hk => by injection hk with hk; subst hk; exact p1.hm)
    clear hown2 hg2 hb2 P1 F1 V1 HT hown1 c11
    go_wp2
    go_ret
    exact ⟨rfl, unhide Q2⟩

end Go.Proofs.Ytchhjieciiaooaa
