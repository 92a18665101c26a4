/- Layer 16: what Sweep and Canon answer, as what came in; heaps and values that came in, opened. -/
import Derived.Test.YtnnanlniffjnkaaJUsB
import Derived.Test.YtnnanlniffjnkaaJY4

namespace Go.Proofs.Ytnnanlniffjnkaa
open Go.ChangeShapes Go.WideShapes Go.ChangeAt Go.RowKit
set_option linter.unusedVariables false
set_option maxRecDepth 100000

theorem own_hin {w W : World} {B : Nat} {s s0 : Sl} {rs dn : List ObR} (h : HOwn W B s.v dn) (hs : dn.map ObR.o = rs.map ObR.o) (h0 : HIn w s0 rs) : HIn W s dn := by
  have hl : dn.length = rs.length := by have := congrArg List.length hs; simpa using this
  have h1 := h0.ls.1
  have h2 := h0.small
  refine h.row.linR rkO (by omega) fun r hr => ?_
  have hm : r.o ∈ rs.map ObR.o := hs ▸ List.mem_map_of_mem (f := ObR.o) hr
  obtain ⟨r', hr', he⟩ := List.mem_map.1 hm
  have hw : r'.ws = r.ws := congrArg Ob.ws he
  have h3 := (h0.each r' hr').ls.1
  have h4 := (h0.each r' hr').small
  rw [hw] at h3
  exact (h.each r hr).linR rkV (by omega) (fun _ _ => trivial)
theorem swept_words {l : List Ob} {q : List Nat} : ∀ M, M ≤ l.length → wordsH (sweptL l q M) ≤ wordsH (l.take M)
  | 0, _ => by simp [sweptL, wordsH]
  | M + 1, h => by
    have ih := swept_words (l := l) (q := q) M (by omega)
    obtain ⟨o, ho⟩ : ∃ o, l[M]? = some o := ⟨_, List.getElem?_eq_getElem (by omega)⟩
    rw [wordsH_succ ho]
    have hs : sweptL l q (M + 1) = sweptL l q M ++ [if M + 1 ∈ q then ⟨tyOf l (M + 1), wordsOf l (M + 1)⟩ else zeroO] := by
      unfold sweptL
      rw [List.range_succ, List.map_append]
      rfl
    have hw : wordsOf l (M + 1) = o.ws := by
      unfold wordsOf
      have e1 : l[M + 1 - 1]? = some o := by simpa using ho
      rw [e1]
      rfl
    rw [hs, wordsH_append]
    split
    · simp only [wordsH, hw]; omega
    · simp only [wordsH, zeroO, List.length_nil]; omega
theorem sweepL_small (l : List Ob) (roots : List Vl) : (sweepL l roots).length ≤ l.length ∧ wordsH (sweepL l roots) ≤ wordsH l := by
  have hq := reach_in l roots
  have hle : maxQ (reachH l roots) ≤ l.length := maxQ_le (fun n hn => (liveN_le (hq.2 n hn)).2.1)
  refine ⟨by unfold sweepL; rw [sweptL_len]; exact hle, Nat.le_trans (swept_words _ hle) (wordsH_take _ _)⟩
def sweepV (l : List Ob) (roots : List Vl) : List Ob := if checkE l = 0 then sweepL l roots else []
def goneV (l : List Ob) (roots : List Vl) : Int := if checkE l = 0 then goneN l roots else 0
def canonOV (l : List Ob) (roots : List Vl) : List Ob := if checkE l = 0 then canonO l roots else []
def canonVV (l : List Ob) (roots : List Vl) : List Vl := if checkE l = 0 then canonV l roots else []
theorem swept_in {W : World} {B : Nat} {g k c : Nat} {dn : List ObR} {l : List Ob} {vs : List Vl} (hc : checkE l = 0) (h : HOwn W B (.slice (some ⟨g, 0, none⟩) k c) dn) (hs : dn.map ObR.o = sweepL l vs) : HIn W ⟨some ⟨g, 0, none⟩, k, c⟩ dn := by
  obtain ⟨h1, h2⟩ := check_fit hc
  obtain ⟨e1, e2⟩ := sweepL_small l vs
  rw [← hs] at e1 e2
  rw [List.length_map] at e1
  exact HOwn.hin (s := ⟨some ⟨g, 0, none⟩, k, c⟩) h (by omega) (by omega)
def sweepPost (w : World) (l : List Ob) (vs : List Vl) (e : Ending) (w' : World) : Prop := (∃ (s : Sl) (dn : List ObR), e = .returned (.tuple #[s.v, .int .i64 (goneV l vs), .int .i64 (checkE l)]) ∧ HIn w' s dn ∧ dn.map ObR.o = sweepV l vs) ∧ Below w.heap.size w w'
theorem Sweep_in (w : World) (s t : Sl) (rs : List ObR) (h : HIn w s rs) (vs : List Vl) (hv : WsIn w t vs) : Calls Try.prog 13 #[s.v, t.v] w (sweepPost w (rs.map ObR.o) vs) := by
  refine (Sweep_any w rs h t vs hv).mono ?_
  rintro e w' ⟨f, ⟨h0, rfl⟩ | ⟨h0, g, k, dn, rfl, ho, hs⟩⟩
  · refine ⟨⟨⟨none, 0, 0⟩, [], ?_, hIn_nil _, ?_⟩, f⟩
    · unfold goneV; rw [if_neg h0]; rfl
    · unfold sweepV; rw [if_neg h0]; rfl
  · refine ⟨⟨⟨some ⟨g, 0, none⟩, k, k⟩, dn, ?_, swept_in h0 ho hs, ?_⟩, f⟩
    · unfold goneV; rw [if_pos h0, h0]; rfl
    · unfold sweepV; rw [if_pos h0]; exact hs
theorem rSweep_in (w : World) (s t : Sl) (rs : List ObR) (h : HIn w s rs) (vs : List Vl) (hv : WsIn w t vs) : Calls Try.prog 14 #[s.v, t.v] w (sweepPost w (rs.map ObR.o) vs) := by
  refine (rSweep_any w s rs h t vs hv).mono ?_
  rintro e w' ⟨f, ⟨h0, rfl⟩ | ⟨h0, g, k, c, dn, rfl, ho, hs⟩⟩
  · refine ⟨⟨⟨none, 0, 0⟩, [], ?_, hIn_nil _, ?_⟩, f⟩
    · unfold goneV; rw [if_neg h0]; rfl
    · unfold sweepV; rw [if_neg h0]; rfl
  · refine ⟨⟨⟨some ⟨g, 0, none⟩, k, c⟩, dn, ?_, swept_in h0 ho hs, ?_⟩, f⟩
    · unfold goneV; rw [if_pos h0, h0]; rfl
    · unfold sweepV; rw [if_pos h0]; exact hs
def canonPost (w : World) (l : List Ob) (vs : List Vl) (e : Ending) (w' : World) : Prop := (∃ (s t : Sl) (dn : List ObR), e = .returned (.tuple #[s.v, t.v, .int .i64 (checkE l)]) ∧ HIn w' s dn ∧ dn.map ObR.o = canonOV l vs ∧ WsIn w' t (canonVV l vs)) ∧ Below w.heap.size w w'
theorem canon_post {w : World} {l : List Ob} {vs : List Vl} (hv : vs.length * 16 ≤ 140737488351232) {e : Ending} {w' : World} (f : Below w.heap.size w w') (h : (checkE l ≠ 0 ∧ e = .returned (.tuple #[.slice none 0 0, .slice none 0 0, .int .i64 (checkE l)])) ∨ (checkE l = 0 ∧ ∃ v u dn, e = .returned (.tuple #[v, u, .int .i64 0]) ∧ HOwn w' w.heap.size v dn ∧ dn.map ObR.o = canonO l vs ∧ Orw vlc 47 2 w' w.heap.size u (canonV l vs))) : canonPost w l vs e w' := by
  rcases h with ⟨h0, rfl⟩ | ⟨h0, v, u, dn, rfl, ho, hs, hu⟩
  · refine ⟨⟨⟨none, 0, 0⟩, ⟨none, 0, 0⟩, [], rfl, hIn_nil _, ?_, ?_⟩, f⟩
    · unfold canonOV; rw [if_neg h0]; rfl
    · unfold canonVV; rw [if_neg h0]; exact wsIn_nil _
  · obtain ⟨s, t, rfl, rfl, h1, h2⟩ := canon_in h0 hv ho hs hu
    refine ⟨⟨s, t, dn, by rw [h0], h1, ?_, ?_⟩, f⟩
    · unfold canonOV; rw [if_pos h0]; exact hs
    · unfold canonVV; rw [if_pos h0]; exact h2
theorem Canon_in (w : World) (s t : Sl) (rs : List ObR) (h : HIn w s rs) (vs : List Vl) (hv : WsIn w t vs) (hfr : ∀ r ∈ rs, VFit r.ws) (hfv : VFit vs) : Calls Try.prog 18 #[s.v, t.v] w (canonPost w (rs.map ObR.o) vs) :=
  (Canon_any w rs h t vs hv hfr hfv).mono fun e w' ⟨f, hh⟩ => canon_post (by have := hv.ls.1; have := hv.small; omega) f hh
theorem vl_cells16 {H : Type} {enc : TypeId × Value → H} {w : World} {base : Nat} (n : Nat) (cs : List Value) (x : DataW H × List MemPlace)
    (h : DataW.trod enc Try.prog w base (fun _ => true) true n 47 cs = some x) (hw : ∀ m ∈ x.1.weights Try.prog 47, m ≤ reachBytes) :
    ∃ y : Vl, cs = vlc y ∧ fitI y.n := by
  have hl : cs.length = 2 := st_len Try.underlying47 (by kernel_rfl) h
  obtain ⟨_, y0, g0, w0⟩ := st_field Try.underlying47 h hw (i := 0) rfl
  obtain ⟨v0, c0, f0⟩ := int_leaf (o := 0) g0
  obtain ⟨_, y1, g1, w1⟩ := st_field Try.underlying47 h hw (i := 1) rfl
  obtain ⟨v1, c1, f1⟩ := int_leaf (o := 1) g1
  refine ⟨⟨v0, v1⟩, ?_, f1⟩
  apply List.ext_getElem?
  intro i
  match i with
  | 0 => rw [c0]; rfl
  | 1 => rw [c1]; rfl
  | k + 2 => rw [List.getElem?_eq_none (by omega)]; rfl
theorem ws_fit {w : World} {s : Sl} {l : List Vl} (h : LIn 2 16 vlc (fun v => fitI v.n) w s l) : WsIn w s l ∧ VFit l := ⟨⟨h.ls, h.room, h.most, h.nil, h.small, fun _ _ => trivial⟩, h.each⟩
theorem ob_cells16 {H : Type} {enc : TypeId × Value → H} {w : World} {base : Nat} (n : Nat) (cs : List Value) (x : DataW H × List MemPlace)
    (h : DataW.trod enc Try.prog w base (fun _ => true) true n 43 cs = some x) (hw : ∀ m ∈ x.1.weights Try.prog 43, m ≤ reachBytes) :
    ∃ y : ObR, cs = obc y ∧ (WsIn w y.s y.ws ∧ VFit y.ws) := by
  have hl : cs.length = 2 := st_len Try.underlying43 (by kernel_rfl) h
  obtain ⟨_, y0, g0, w0⟩ := st_field Try.underlying43 h hw (i := 0) rfl
  obtain ⟨v0, c0, f0⟩ := str_leaf (o := 0) g0 w0
  obtain ⟨_, y1, g1, w1⟩ := st_field Try.underlying43 h hw (i := 1) rfl
  obtain ⟨v1, c1, t1⟩ := sl_leaf (o := 1) Try.underlying23 (by kernel_rfl) g1
  obtain ⟨l1, h1⟩ := lin_open (size := 2) (by_ := 16) Try.underlying23 (by kernel_rfl) (by kernel_rfl) (by decide) (fun _ => rfl) (fun _ => ⟨_, rfl⟩) vl_cells16 t1 w1
  refine ⟨⟨v0, v1, l1⟩, ?_, ws_fit h1⟩
  apply List.ext_getElem?
  intro i
  match i with
  | 0 => rw [c0]; rfl
  | 1 => rw [c1]; rfl
  | k + 2 => rw [List.getElem?_eq_none (by omega)]; rfl
theorem objs16_arg {H : Type} {enc : TypeId × Value → H} {w : World} {base : Nat} {a : Option Addr} {len cap : Nat} {d : DataW H} {p : List MemPlace} (h : DataW.Trod enc Try.prog w base (fun _ => true) true 22 (.slice a len cap) d p) (hw : ∀ m ∈ d.weights Try.prog 22, m ≤ reachBytes) : ∃ l, HIn w ⟨a, len, cap⟩ l ∧ ∀ r ∈ l, VFit r.ws := by
  obtain ⟨l, h⟩ := lin_open (size := 2) (by_ := 40) Try.underlying22 (by kernel_rfl) (by kernel_rfl) (by decide) (fun _ => rfl) (fun _ => ⟨_, rfl⟩) ob_cells16 (s := ⟨a, len, cap⟩) h hw
  exact ⟨l, ⟨h.ls, h.room, h.most, h.nil, h.small, fun r hr => (h.each r hr).1⟩, fun r hr => (h.each r hr).2⟩
theorem vals16_arg {H : Type} {enc : TypeId × Value → H} {w : World} {base : Nat} {a : Option Addr} {len cap : Nat} {d : DataW H} {p : List MemPlace} (h : DataW.Trod enc Try.prog w base (fun _ => true) true 23 (.slice a len cap) d p) (hw : ∀ m ∈ d.weights Try.prog 23, m ≤ reachBytes) : ∃ l, WsIn w ⟨a, len, cap⟩ l ∧ VFit l := by
  obtain ⟨l, h⟩ := lin_open (size := 2) (by_ := 16) Try.underlying23 (by kernel_rfl) (by kernel_rfl) (by decide) (fun _ => rfl) (fun _ => ⟨_, rfl⟩) vl_cells16 (s := ⟨a, len, cap⟩) h hw
  exact ⟨l, ws_fit h⟩
end Go.Proofs.Ytnnanlniffjnkaa
