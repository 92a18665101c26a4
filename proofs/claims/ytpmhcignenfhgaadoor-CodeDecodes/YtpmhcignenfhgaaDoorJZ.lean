/- Joined: CgY CgZ ChA. -/
import Derived.Test.YtpmhcignenfhgaaDoorJCgX
import Derived.Test.YtpmhcignenfhgaaDoorJX
import Derived.Test.YtpmhcignenfhgaaDoorJT
import Derived.Test.YtpmhcignenfhgaaDoorJW
import Derived.Test.YtpmhcignenfhgaaDoorJCgI
import Derived.Test.YtpmhcignenfhgaaDoorJCgJ
import Derived.Deep.OwnRows

/- The document's reader of a code: what it keeps in memory. -/
namespace Go.Proofs.YtpmhcignenfhgaaDoor
open Go.RowKit
set_option linter.unusedVariables false
set_option maxRecDepth 100000

theorem tabR_len {bs : List UInt8} {at_ : Int} : ∀ (n : Nat) (key : Int) (i : Nat) (l : List Cas) (j : Nat), tabR bs at_ n key i = some (l, j) → l.length = n
  | 0, _, i, l, j, h => by injection h with h; injection h with h _; rw [← h]; rfl
  | n + 1, key, i, l, j, h => by
    unfold tabR at h
    obtain ⟨⟨x, j1⟩, h1, h⟩ := Option.bind_eq_some_iff.1 h
    obtain ⟨⟨r, j2⟩, h2, h⟩ := Option.bind_eq_some_iff.1 h
    injection h with h
    injection h with h _
    rw [← h, List.length_cons, tabR_len n _ _ _ _ h2]
theorem seaR_len {bs : List UInt8} {at_ : Int} : ∀ (n i : Nat) (l : List Cas) (j : Nat), seaR bs at_ n i = some (l, j) → l.length = n
  | 0, i, l, j, h => by injection h with h; injection h with h _; rw [← h]; rfl
  | n + 1, i, l, j, h => by
    unfold seaR at h
    obtain ⟨⟨k, j0⟩, h0, h⟩ := Option.bind_eq_some_iff.1 h
    obtain ⟨⟨x, j1⟩, h1, h⟩ := Option.bind_eq_some_iff.1 h
    obtain ⟨⟨r, j2⟩, h2, h⟩ := Option.bind_eq_some_iff.1 h
    injection h with h
    injection h with h _
    rw [← h, List.length_cons, seaR_len n _ _ _ h2]
theorem casO_len {bs : List UInt8} {at_ op : Int} {q : Nat} {A B : Int} {cs : List Cas} {j : Nat} (h : casO bs at_ op q = some (A, B, cs, j)) : cs.length ≤ 256 := by
  unfold casO at h
  obtain ⟨⟨x, j0⟩, h0, h⟩ := Option.bind_eq_some_iff.1 h
  simp only at h
  split at h
  · obtain ⟨⟨y, j1⟩, h1, h⟩ := Option.bind_eq_some_iff.1 h
    obtain ⟨⟨z, j2⟩, h2, h⟩ := Option.bind_eq_some_iff.1 h
    simp only at h
    split at h
    · rename_i hb
      obtain ⟨⟨r, j3⟩, h3, h⟩ := Option.bind_eq_some_iff.1 h
      have hl := tabR_len _ _ _ _ _ h3
      injection h with h; injection h with _ h; injection h with _ h; injection h with h _
      rw [← h, hl]
      omega
    · cases h
  · obtain ⟨⟨y, j1⟩, h1, h⟩ := Option.bind_eq_some_iff.1 h
    simp only at h
    split at h
    · rename_i hb
      obtain ⟨⟨r, j3⟩, h3, h⟩ := Option.bind_eq_some_iff.1 h
      have hl := seaR_len _ _ _ _ h3
      split at h
      · injection h with h; injection h with _ h; injection h with _ h; injection h with h _
        rw [← h, hl]
        omega
      · cases h
    · cases h
theorem insR_few {bs : List UInt8} {i : Nat} {x : Ins} {j : Nat} (h : insR bs i = some (x, j)) : x.cs.length ≤ 256 := by
  cases h0 : gR bs i 1 false with
  | none => unfold insR at h; rw [h0] at h; cases h
  | some o =>
    obtain ⟨op, j0⟩ := o
    have hf := form_lt op
    have hf' : formP op = 0 ∨ formP op = 1 ∨ formP op = 2 ∨ formP op = 3 ∨ formP op = 4 ∨ formP op = 5 ∨ formP op = 6 ∨ formP op = 7 ∨ formP op = 8 ∨ formP op = 9 := by omega
    rcases hf' with hf | hf | hf | hf | hf | hf | hf | hf | hf | hf
    · rw [insR_f0 h0 hf] at h; cases h
    · rw [insR_f1 h0 hf] at h; injection h with h; injection h with h _; rw [← h]; simp
    · rw [insR_f2 h0 hf] at h; obtain ⟨y, _, h⟩ := Option.bind_eq_some_iff.1 h; injection h with h; injection h with h _; rw [← h]; simp
    · rw [insR_f3 h0 hf] at h; obtain ⟨y, _, h⟩ := Option.bind_eq_some_iff.1 h; injection h with h; injection h with h _; rw [← h]; simp
    · rw [insR_f4 h0 hf] at h; obtain ⟨y, _, h⟩ := Option.bind_eq_some_iff.1 h; injection h with h; injection h with h _; rw [← h]; simp
    · rw [insR_f5 h0 hf] at h; obtain ⟨y, _, h⟩ := Option.bind_eq_some_iff.1 h; injection h with h; injection h with h _; rw [← h]; simp
    · rw [insR_f6 h0 hf] at h; obtain ⟨y, _, h⟩ := Option.bind_eq_some_iff.1 h; obtain ⟨z, _, h⟩ := Option.bind_eq_some_iff.1 h; injection h with h; injection h with h _; rw [← h]; simp
    · rw [insR_f7 h0 hf] at h; obtain ⟨y, _, h⟩ := Option.bind_eq_some_iff.1 h; injection h with h; injection h with h _; rw [← h]; simp
    all_goals
      rw [insR_cas h0 (by omega)] at h
      obtain ⟨q, _, h⟩ := Option.bind_eq_some_iff.1 h
      obtain ⟨⟨A, B, cs, j'⟩, h1, h⟩ := Option.bind_eq_some_iff.1 h
      injection h with h; injection h with h _; rw [← h]
      exact casO_len h1
/-- The list, the cases, what begins where. -/
structure Dm (w : World) (G n : Nat) (v : Value) (rs : List InR) (W : World) : Prop where
  own : Orw inc 38 5 W w.heap.size v rs
  all : ∀ r ∈ rs, Orw cac 51 2 W w.heap.size r.s.v r.x.cs
  few : ∀ r ∈ rs, r.x.cs.length ≤ 256
  bg : W.rowIs G 4 n (fun p => .bool ((rs.map InR.x).any fun y => decide (y.at_ = (p : Int))))
  bel : Below w.heap.size w W
  hG : w.heap.size ≤ G
theorem Dm.below {w : World} {G n : Nat} {v : Value} {rs : List InR} {W W' : World} (h : Dm w G n v rs W) (f : Below W.heap.size W W') : Dm w G n v rs W' :=
  ⟨h.own.below fun k hk => f.block k (h.own.lt k hk).2, fun r hr => (h.all r hr).below fun k hk => f.block k ((h.all r hr).lt k hk).2, h.few, h.bg.of_block (f.block _ h.bg.lt), h.bel.trans (f.mono h.bel.size), h.hG⟩
theorem orw_ne {α : Type} {cs : α → List Value} {e t : TypeId} {sz : Nat} {W : World} {base : Nat} {v : Value} {l : List α} (h : Orw cs e sz W base v l) {G n : Nat} {f : Nat → Value} (hb : W.rowIs G t n f) (hne : e ≠ t) {k : Nat} (hk : v.ownBlock = some k) : k ≠ G := by
  intro hkG
  obtain ⟨X, fr, hX, _⟩ := orw_blk0 h hk
  obtain ⟨c, hc, _⟩ := hb
  rw [hkG, hc] at hX
  injection hX with hX
  injection hX with _ hX
  exact hne hX.symm
theorem Dm.push {w : World} {G n : Nat} {v : Value} {rs : List InR} {W : World} (h : Dm w G n v rs W) {r : InR} {j : Nat} (hj : j < n) (hr : r.x.at_ = (j : Int)) (hc : Orw cac 51 2 W w.heap.size r.s.v r.x.cs) (hf : r.x.cs.length ≤ 256) {X : Obj} {v' : Value} {w3 : World}
    (o3 : Orw inc 38 5 w3 w.heap.size v' (rs ++ [r])) (g3 : ((W.setCell ⟨G, j, none⟩ (.bool true)).alloc X).grownBy w3 v.ownBlock) : Dm w G n v' (rs ++ [r]) w3 := by
  have hGlt := h.bg.lt
  have ho : ∀ k, k ≠ G → (W.setCell ⟨G, j, none⟩ (.bool true)).heap[k]? = W.heap[k]? := fun k hk => heap_setCell_other _ _ _ _ hk
  have hsz : (W.setCell ⟨G, j, none⟩ (.bool true)).heap.size = W.heap.size := by simp [World.setCell]
  have hk3 : ∀ k, k < W.heap.size → v.ownBlock ≠ some k → w3.heap[k]? = (W.setCell ⟨G, j, none⟩ (.bool true)).heap[k]? := fun k hk hne => (g3.block k (by simp; omega) (fun e => hne e.symm)).trans (heap_alloc_old _ _ (by rw [hsz]; exact hk))
  have hcas : ∀ {v0 : Value} {l0 : List Cas}, Orw cac 51 2 W w.heap.size v0 l0 → Orw cac 51 2 w3 w.heap.size v0 l0 := fun {v0 l0} h0 => h0.below fun k hk => by
    rw [hk3 k (h0.lt k hk).2 (fun e => ?_), ho k (orw_ne h0 h.bg (by decide) hk)]
    obtain ⟨X1, f1, h1, _⟩ := orw_blk0 h0 hk
    obtain ⟨X2, f2, h2, _⟩ := orw_blk0 h.own e
    rw [h1] at h2
    injection h2 with h2
    injection h2 with _ h2
    exact absurd h2 (by decide)
  refine ⟨o3, fun q hq => ?_, fun q hq => ?_, ?_, ?_, h.hG⟩
  · rcases List.mem_append.1 hq with hq | hq
    · exact hcas (h.all q hq)
    · rw [List.mem_singleton.1 hq]; exact hcas hc
  · rcases List.mem_append.1 hq with hq | hq
    · exact h.few q hq
    · rw [List.mem_singleton.1 hq]; exact hf
  · refine ((h.bg.set j (.bool true)).of_block (hk3 G hGlt (fun e => orw_ne h.own h.bg (by decide) e rfl))).congr fun p hp => ?_
    rw [List.map_append, List.any_append]
    by_cases hpj : p = j
    · rw [if_pos hpj]
      simp [hr, hpj]
    · rw [if_neg hpj]
      have : decide (r.x.at_ = (p : Int)) = false := by rw [hr]; simp; omega
      simp [this]
  · have h1 : Below w.heap.size w (W.setCell ⟨G, j, none⟩ (.bool true)) := h.bel.setCell (p := ⟨G, j, none⟩) h.hG _
    exact (bA h1 X).grown g3 (bA h1 X).size (fun k hk => (h.own.lt k hk).1)
end Go.Proofs.YtpmhcignenfhgaaDoor

/- The document's reader of a code. -/
namespace Go.Proofs.YtpmhcignenfhgaaDoor
open Go.RowKit
set_option linter.unusedVariables false
set_option maxRecDepth 100000

/-- What the document's decoded answers. -/
def dcd_post (bs : List UInt8) (w : World) (e : Ending) (w' : World) : Prop :=
  ∃ (s : Sl) (rs : List InR), e = .returned s.v ∧ Orw inc 38 5 w' w.heap.size s.v rs ∧ (∀ r ∈ rs, Orw cac 51 2 w' w.heap.size r.s.v r.x.cs) ∧ Below w.heap.size w w' ∧ ((codeP bs = some (rs.map InR.x) ∧ rs ≠ []) ∨ (rs = [] ∧ codeP bs = none))
theorem dcd_none {bs : List UInt8} {w W : World} (hc : codeP bs = none) (hb : Below w.heap.size w W) : dcd_post bs w (.returned (.slice none 0 0)) W :=
  ⟨⟨none, 0, 0⟩, [], rfl, Orw.nil _ _ _ _ _, (fun r hr => by cases hr), hb, .inr ⟨rfl, hc⟩⟩
theorem Dm.fin {bs : List UInt8} {w : World} {G n : Nat} {va : Option Addr} {L vc : Nat} {rs : List InR} {W : World} (h : Dm w G n (.slice va L vc) rs W) {j : Nat} (hM : ML bs (rs.map InR.x) j false) (hd : ¬ j < bs.length) (hl : leadsP (rs.map InR.x) = true) : dcd_post bs w (.returned (.slice va L vc)) W := by
  have hc := (hM.code (.inl hd)).2
  by_cases he : rs = []
  · refine ⟨⟨va, L, vc⟩, rs, rfl, h.own, h.all, h.bel, .inr ⟨he, ?_⟩⟩
    rw [hc, if_neg]
    rintro ⟨_, h1, _⟩
    exact h1 (by rw [he]; rfl)
  · refine ⟨⟨va, L, vc⟩, rs, rfl, h.own, h.all, h.bel, .inl ⟨?_, he⟩⟩
    rw [hc, if_pos ⟨rfl, by simpa using he, hl⟩]
theorem lead_no {bs : List UInt8} {rs : List InR} {j : Nat} (hM : ML bs (rs.map InR.x) j false) (hd : ¬ j < bs.length) {r : InR} (hr : r ∈ rs) {t : Int} (ht : t ∈ targP r.x) (h : ((rs.map InR.x).any fun y => decide (y.at_ = t)) = false) : codeP bs = none := by
  rw [(hM.code (.inl hd)).2, if_neg]
  rintro ⟨_, _, hc⟩
  unfold leadsP at hc
  rw [List.all_eq_true] at hc
  have := hc r.x (List.mem_map_of_mem hr)
  rw [List.all_eq_true] at this
  have := this t ht
  rw [h] at this
  cases this
theorem lead_yes {rs : List InR} (h : ∀ r ∈ rs, ∀ t ∈ targP r.x, ((rs.map InR.x).any fun y => decide (y.at_ = t)) = true) : leadsP (rs.map InR.x) = true := by
  unfold leadsP
  rw [List.all_eq_true]
  intro x hx
  obtain ⟨r, hr, rfl⟩ := List.mem_map.1 hx
  rw [List.all_eq_true]
  exact fun t ht => h r hr t ht
/-- Where nothing begins. -/
theorem lead_out {bs : List UInt8} {rs : List InR} {j : Nat} (hM : ML bs (rs.map InR.x) j false) (hd : ¬ j < bs.length) {t : Int} (ht : t < 0 ∨ (bs.length : Int) ≤ t) : ((rs.map InR.x).any fun y => decide (y.at_ = t)) = false := by
  have h1 := (hM.code (.inl hd)).1 rfl
  rw [List.any_eq_false]
  intro x hx he
  have := insL_at _ _ _ h1 x hx
  simp only [decide_eq_true_eq] at he
  omega
theorem infoBool : (Tryd.prog.info? 4).map (fun i => (i.zero, i.size, i.bytes)) = some (some (.bool false), 1, 1) := by kernel_rfl
theorem Dm.start (w : World) (n : Nat) : Dm w (w.heap.size + 1) n (.slice (some ⟨w.heap.size, 0, none⟩) 0 0) [] ((w.alloc (.cells #[] 38)).alloc (.cells (madeCells #[.bool false] n) 4)) := by
  refine ⟨orw_al9 (Orw.made inc 38 5 w w.heap.size (Nat.le_refl _)) _, (fun r hr => by cases hr), (fun r hr => by cases hr), ?_, bA (bA (Below.refl _ _) _) _, by omega⟩
  have h := World.rowIs_made (w.alloc (.cells #[] 38)) (.bool false) n 4
  have e : (w.alloc (.cells #[] 38)).heap.size = w.heap.size + 1 := by simp
  rw [e] at h
  exact h.congr fun p _ => rfl
set_option maxHeartbeats 8000000 in
theorem o9decoded_any (w : World) (a : Option Addr) (n c : Nat) (bs : List UInt8) (hb : Arg w a n c bs) (hn : n ≤ 4097) :
    Calls Tryd.prog 28 #[.slice a n c] w (dcd_post bs w) := by
  have hbl := hb.bs.1
  have HB := hide hb
  obtain ⟨i0, hi, hz0, hz1, hz2⟩ := info_parts infoBool
  obtain ⟨w1, hw1⟩ : ∃ w1, w1 = (w.alloc (.cells #[] 38)).alloc (.cells (madeCells #[.bool false] n) 4) := ⟨_, rfl⟩
  have HD1 : Hid (Dm w (w.heap.size + 1) n (.slice (some ⟨w.heap.size, 0, none⟩) 0 0) [] w1) := by rw [hw1]; exact Dm.start w n
  have HW1 := hide hw1
  obtain ⟨G, hG⟩ : ∃ G, G = w.heap.size + 1 := ⟨_, rfl⟩
  rw [← hG] at HD1
  have HGG := hide hG
  have HBL := hide hbl
  clear hb hw1 hG hbl
  generalize hPO : dcd_post bs w = PO
  have KN : Hid (∀ {W : World}, codeP bs = none → Below w.heap.size w W → PO (.returned (.slice none 0 0)) W) := by
    intro W hc hb
    rw [← hPO]
    exact dcd_none hc hb
  have KF : Hid (∀ {va : Option Addr} {L vc : Nat} {rs : List InR} {W : World} (h : Dm w G n (.slice va L vc) rs W) {j : Nat} (hM : ML bs (rs.map InR.x) j false) (hd : ¬ j < bs.length) (hl : leadsP (rs.map InR.x) = true), PO (.returned (.slice va L vc)) W) := by
    intro va L vc rs W h j hM hd hl
    rw [← hPO]
    exact h.fin hM hd hl
  clear hPO
  go_enter Tryd.func28, Tryd.ntmps28
  go_wp2_with (at_make; refine wpList_make_row _ rfl (.tmp 14) (.tmp 14) 76 rfl 4 i0 (.bool false) Tryd.underlying76 hi hz0 hz1 rfl .i64 .i64 n rfl rfl (by rw [hz2]; omega) (by omega) ?_)
  rw [← unhide HW1, ← unhide HGG]
  clear hi hz0 hz1 hz2 HW1 HGG
  go_loopw [3, 5, 6, 7, 8] (fun v3 v5 _ _ _ W => ∃ (rs : List InR) (j : Nat), Dm w G n v3 rs W ∧ ML bs (rs.map InR.x) j false ∧ v5 = .int .i64 (j : Int)) (fun _ v5 _ _ _ _ => n - (intOf v5).toNat)
  case atStart => exact ⟨[], 0, unhide HD1, ML.start _, rfl⟩
  case round =>
    obtain ⟨rs, j, hD, hM, rfl⟩ := hrel
    obtain ⟨va, vc, hv3, _, _, _⟩ := hD.own.form
    subst hv3
    obtain ⟨L, hL⟩ : ∃ L, L = rs.length := ⟨_, rfl⟩
    rw [← hL] at hD ⊢
    have hLn : L ≤ 4097 := by have h1 := hM.lenf rfl; have h2 := hM.hj; have h3 := unhide HBL; simp only [List.length_map] at h1; omega
    have HL := hide hL
    have HM := hide hM
    have hjn : j ≤ n := by have h2 := hM.hj; have h3 := unhide HBL; omega
    clear hL hM
    by_cases hlt : j < n
    · have hlt1 : (j : Int) < (n : Int) := by omega
      have HONE := hide (o9one_any wr a n c bs ((unhide HB).below hD.bel) hn j hlt)
      have HD := hide hD
      clear hD
      go_wp2_with fail
      refine (unhide HONE).mono ?_
      rintro e w2 ⟨op, A, B, ⟨sa, sn, sc⟩, cs, nx, ok, rfl, row2, b2, hc2⟩
      simp only at row2
      clear HONE
      cases ok with
      | false =>
        have HEND : Hid (codeP bs = none) := by
          rcases hc2 with ⟨h1, _⟩ | ⟨_, h2⟩
          · cases h1
          · have hm := (unhide HM).next (by have := unhide HBL; omega) (x := ⟨0, 0, 0, 0, []⟩) (j' := j) (w' := true) ⟨(fun e => by cases e), (fun _ => .inr ⟨h2, rfl⟩)⟩ (Nat.le_refl _) (fun e => by cases e) (unhide HM).hj
            show _ = _
            rw [(hm.code (.inr rfl)).2, if_neg (by simp)]
        have HB2 := hide ((unhide HD).below (b2.trans ((bA (Below.refl _ _) (.cells #[.int .i64 (j : Int), .int .i64 op, .int .i64 A, .int .i64 B, .slice sa sn sc] 38)).mono b2.size)) : Dm w G n _ _ _).bel
        clear hc2 row2 b2 HM HD
        go_wp2
        exact unhide KN (unhide HEND) (unhide HB2)
      | true =>
        obtain ⟨j', hnx, hi⟩ : ∃ j' : Nat, nx = j' ∧ insR bs j = some (⟨j, op, A, B, cs⟩, j') := by
          rcases hc2 with ⟨_, h⟩ | ⟨h, _⟩
          · exact h
          · cases h
        subst hnx
        have his := insR_some hi
        obtain ⟨r, hr⟩ : ∃ r : InR, r = ⟨⟨j, op, A, B, cs⟩, ⟨sa, sn, sc⟩⟩ := ⟨_, rfl⟩
        have hM4 : ML bs ((rs ++ [r]).map InR.x) j' false := by
          rw [List.map_append, hr]
          exact (unhide HM).next (by have := unhide HBL; omega) (j' := j') (w' := false) ⟨(fun e => by cases e), (fun _ => .inl ⟨hi, rfl⟩)⟩ (by omega) (fun _ => his.1) his.2.1
        have D2 := (unhide HD).below b2
        obtain ⟨X, hX⟩ : ∃ X : Obj, X = .cells #[.int .i64 (j : Int), .int .i64 op, .int .i64 A, .int .i64 B, .slice sa sn sc] 38 := ⟨_, rfl⟩
        have D3 := D2.below (bA (Below.refl _ _) X)
        have g0 := D3.bg.cell hlt
        have g1 := D3.bg.frozen j
        have row3 : Orw cac 51 2 (w2.alloc X) w.heap.size r.s.v r.x.cs := by
          rw [hr]
          exact orw_al9 (row2.base (by have := (unhide HD).bel.size; omega)) _
        have O5 : Orw inc 38 5 (((w2.alloc X).setCell ⟨G, j, none⟩ (.bool true)).alloc X) w.heap.size (.slice va L vc) rs := orw_al9 (D3.own.below fun k hk => heap_setCell_other _ _ _ _ (orw_ne D3.own D3.bg (by decide) hk)) _
        have hsz2 : ((w2.alloc X).setCell ⟨G, j, none⟩ (.bool true)).heap.size = w2.heap.size + 1 := by simp [World.setCell]
        have L5 : Ls 5 inc (((w2.alloc X).setCell ⟨G, j, none⟩ (.bool true)).alloc X) (some ⟨w2.heap.size + 1, 0, none⟩) 1 [r] := by
          have h := ls_one (cs := inc) (sz := 5) ((w2.alloc X).setCell ⟨G, j, none⟩ (.bool true)) #[.int .i64 (j : Int), .int .i64 op, .int .i64 A, .int .i64 B, .slice sa sn sc] 38 r (by rw [hr]; rfl)
          rw [hsz2, ← hX] at h
          exact h
        have S5 : w.heap.size ≤ (((w2.alloc X).setCell ⟨G, j, none⟩ (.bool true)).alloc X).heap.size := by
          have h1 := D2.bel.size
          have h2 : (((w2.alloc X).setCell ⟨G, j, none⟩ (.bool true)).alloc X).heap.size = w2.heap.size + 2 := by simp [World.setCell]
          omega
        have hl5 : rs.length = L := (unhide HL).symm
        have hne : ¬ G = w2.heap.size := by have := D2.bg.lt; omega
        have hne2 : ¬ w2.heap.size = G := fun e => hne e.symm
        have HPUSH : Hid (∀ v' w3, Orw inc 38 5 w3 w.heap.size v' (rs ++ [r]) → (((w2.alloc X).setCell ⟨G, j, none⟩ (.bool true)).alloc X).grownBy w3 (Value.slice va L vc).ownBlock → Dm w G n v' (rs ++ [r]) w3) := fun v' w3 o g => D3.push hlt (by rw [hr]) row3 (by rw [hr]; exact insR_few hi) o g
        have HO5 := hide O5
        have HL5 := hide L5
        have HS5 := hide S5
        have HM4 := hide hM4
        have HIS := hide his
        have HLL := hide (And.intro (show (rs.length + 1) * 56 ≤ 140737488355328 by omega) (show rs.length + 1 ≤ 140737488355328 by omega))
        clear hc2 row2 b2 HM D2 D3 row3 O5 L5 S5 hr hM4 hi his hsz2 hl5
        subst hX
        go_wp2_with (at_builtin; refine listR_append rkN9 rfl _ _ rfl w.heap.size _ rs rfl (unhide HO5) _ 1 1 [r] rfl (unhide HL5) (fun e => by cases e) (unhide HLL).1 (unhide HLL).2 (unhide HS5) ?_)
        intro v6 w6 o6 g6
        have HD6 := hide (unhide HPUSH v6 w6 o6 g6)
        clear o6 g6
        go_wp2
        go_roundw
        case rel => exact ⟨rs ++ [r], j', unhide HD6, unhide HM4, rfl⟩
        case measure => have := unhide HIS; have := unhide HBL; simp [intOf]; omega
    · obtain rfl : j = n := by omega
      have hd : ¬ j < bs.length := by have := unhide HBL; omega
      have HLS := hide (hD.own.ls rkN9)
      have HD := hide hD
      have HDD := hide hd
      clear hD hd
      go_wp2
      go_loopw [9, 10, 11] (fun vk _ _ W => ∃ k : Nat, k ≤ L ∧ vk = .int .i64 k ∧ Below wr.heap.size wr W ∧ Hid (∀ (p : Nat) r, p < k → rs[p]? = some r → ∀ t ∈ targP r.x, ((rs.map InR.x).any fun y => decide (y.at_ = t)) = true)) (fun vk _ _ _ => L - (intOf vk).toNat)
      case atStart => exact ⟨0, by omega, rfl, Below.refl _ _, fun p r h => by omega⟩
      case round =>
        obtain ⟨k, hk, rfl, hF, HQ⟩ := hrel
        have HF := hide hF
        have HDW := hide ((unhide HD).below hF)
        clear hF
        by_cases hkl : k < L
        · have hkl1 : (k : Int) < (L : Int) := by omega
          obtain ⟨b1, o1, h1a, g1⟩ := Ls.row (unhide HLS) (w' := wr) (by omega)
          obtain ⟨r, hr⟩ : ∃ r, rs[k]? = some r := ⟨_, List.getElem?_eq_getElem (by have := unhide HL; omega)⟩
          have g := g1 (unhide HF) k r hr
          have c0 := g.zero
          have c1 := g 1 _ rfl
          have c2 := g 2 _ rfl
          have c3 := g 3 _ rfl
          have c4 := g 4 _ rfl
          have hmem := List.mem_of_getElem? hr
          have hfew := (unhide HD).few r hmem
          have hcl : Ls 2 cac wr r.s.a r.s.n r.x.cs := ((unhide HDW).all r hmem).ls rkC
          have HTG := hide (o9Targets_any wr r.x.at_ r.x.op r.x.a r.x.b r.s r.x.cs hcl (by have := hcl.1; omega))
          have HHR := hide hr
          have HMEM := hide hmem
          have HFEW := hide hfew
          clear g1 g hr hcl hmem hfew
          obtain ⟨x, ⟨sa, sn, sc⟩⟩ := r
          unfold Sl.v at HTG c4
          simp only at HTG c0 c1 c2 c3 c4
          subst h1a
          go_wp2_with fail
          refine (unhide HTG).mono ?_
          rintro e w3 ⟨v, rfl, o3, f3⟩
          obtain ⟨ta, tc, rfl, _, _, _⟩ := o3.form
          have HLT := hide (o3.ls rkI)
          have HF3 := hide ((unhide HF).trans (f3.mono (unhide HF).size))
          have HD3 := hide ((unhide HDW).below f3)
          have hTT : targP ⟨x.at_, x.op, x.a, x.b, x.cs⟩ = targP x := rfl
          rw [hTT] at HLT ⊢
          obtain ⟨T, hT⟩ : ∃ T, T = targP x := ⟨_, rfl⟩
          rw [← hT] at HLT ⊢
          have HTX := hide hT
          obtain ⟨m, hm⟩ : ∃ m, m = T.length := ⟨_, rfl⟩
          rw [← hm] at HLT ⊢
          have HMM := hide hm
          have hmb : m ≤ 1000000000000 := by
            have h1 := unhide HFEW
            rw [hm, hT]
            unfold targP
            split
            · simp
            · split
              · simp; omega
              · simp
          clear f3 o3 HTG hTT hT hm HDW
          go_wp2
          go_loopw [11] (fun vj W2 => ∃ q : Nat, q ≤ m ∧ vj = .int .i64 q ∧ Below w3.heap.size w3 W2 ∧ Hid (∀ (p : Nat) t, p < q → T[p]? = some t → ((rs.map InR.x).any fun y => decide (y.at_ = t)) = true)) (fun vj _ => m - (intOf vj).toNat)
          case atStart => exact ⟨0, by omega, rfl, Below.refl _ _, fun p r h => by omega⟩
          case round =>
            obtain ⟨q, hq, rfl, hF4, HQ2⟩ := hrel
            have HF4 := hide hF4
            have HW4 := hide ((unhide HF3).trans (hF4.mono (unhide HF3).size))
            have hD4 := (unhide HD3).below hF4
            by_cases hqm : q < m
            · have hqm1 : (q : Int) < (m : Int) := by omega
              obtain ⟨b3, o3, h3a, g3⟩ := Ls.row (unhide HLT) (w' := wr) (by omega)
              subst h3a
              obtain ⟨t, ht⟩ : ∃ t, T[q]? = some t := ⟨_, List.getElem?_eq_getElem (by have := unhide HMM; omega)⟩
              have d0 := (g3 hF4 q t ht).zero
              rw [Nat.mul_one] at d0
              have HTM : Hid (t ∈ targP x) := by show t ∈ targP x; rw [← unhide HTX]; exact List.mem_of_getElem? ht
              have HHT := hide ht
              clear g3 hF4 ht
              have HBAD : Hid (((rs.map InR.x).any fun y => decide (y.at_ = t)) = false → PO (.returned (.slice none 0 0)) wr) := fun h => unhide KN (lead_no (unhide HM) (unhide HDD) (unhide HMEM) (unhide HTM) h) hD4.bel
              have HOUT : Hid (t < 0 ∨ (bs.length : Int) ≤ t → ((rs.map InR.x).any fun y => decide (y.at_ = t)) = false) := fun h => lead_out (unhide HM) (unhide HDD) h
              have HD4 := hide hD4
              clear hD4
              by_cases ht0 : t < 0
              · have HEND := hide (unhide HBAD (unhide HOUT (.inl ht0)))
                clear HQ2 HHT HBAD HOUT
                go_wp2
                exact unhide HEND
              have ht0b : decide (t < 0) = false := by simpa using ht0
              by_cases htn : (j : Int) ≤ t
              · have HEND := hide (unhide HBAD (unhide HOUT (.inr (by have := unhide HBL; omega))))
                clear HQ2 HHT HBAD HOUT
                go_wp2
                exact unhide HEND
              have htnb : decide ((j : Int) ≤ t) = false := by simpa using htn
              obtain ⟨u, hu⟩ : ∃ u : Nat, t = (u : Int) := ⟨t.toNat, by omega⟩
              subst hu
              have hun : u < j := by omega
              have e0 := (unhide HD4).bg.cell hun
              generalize hany : ((rs.map InR.x).any fun y => decide (y.at_ = (u : Int))) = R at *
              have HANY := hide hany
              clear hany
              cases R with
              | true =>
                have HQ3 : Hid (∀ (p : Nat) t, p < q + 1 → T[p]? = some t → ((rs.map InR.x).any fun y => decide (y.at_ = t)) = true) := fun p t' hp ht' => by
                  by_cases hpe : p = q
                  · subst hpe
                    rw [unhide HHT] at ht'
                    injection ht' with ht'
                    rw [← ht']
                    exact unhide HANY
                  · exact unhide HQ2 p t' (by omega) ht'
                clear HQ2 HHT HANY HBAD HOUT
                go_wp2
                go_roundw
                case rel => exact ⟨q + 1, by omega, by go_num, unhide HF4, HQ3⟩
                case measure => simp [intOf]; omega
              | false =>
                have HEND := hide (unhide HBAD rfl)
                clear HQ2 HHT HANY HBAD HOUT
                go_wp2
                exact unhide HEND
            · obtain rfl : q = m := by omega
              have HQ' : Hid (∀ (p : Nat) r, p < k + 1 → rs[p]? = some r → ∀ t ∈ targP r.x, ((rs.map InR.x).any fun y => decide (y.at_ = t)) = true) := fun p r' hp hr' t ht => by
                by_cases hpe : p = k
                · subst hpe
                  rw [unhide HHR] at hr'
                  injection hr' with hr'
                  subst hr'
                  simp only at ht
                  rw [← unhide HTX] at ht
                  obtain ⟨q', hq'⟩ := List.getElem?_of_mem ht
                  exact unhide HQ2 q' t (by have := (List.getElem?_eq_some_iff.1 hq').1; have := unhide HMM; omega) hq'
                · exact unhide HQ p r' (by omega) hr' t ht
              clear HQ HQ2 hF4 hD4
              go_wp2
              go_roundw
              case rel => exact ⟨k + 1, by omega, by go_num, unhide HW4, HQ'⟩
              case measure => simp [intOf]; omega
        · obtain rfl : k = L := by omega
          have HEND := hide (unhide KF (unhide HDW) (unhide HM) (unhide HDD) (lead_yes fun r hr t ht => by
            obtain ⟨p, hp⟩ := List.getElem?_of_mem hr
            exact unhide HQ p r (by have := (List.getElem?_eq_some_iff.1 hp).1; have := unhide HL; omega) hp t ht))
          clear HQ
          go_wp2
          exact unhide HEND
/-- What the document's Decode answers. -/
def odec_post (bs : List UInt8) (w : World) (e : Ending) (w' : World) : Prop :=
  ∃ (s : Sl) (rs : List InR) (er : Int), e = .returned (.tuple #[s.v, .int .i64 er]) ∧ Orw inc 38 5 w' w.heap.size s.v rs ∧ (∀ r ∈ rs, Orw cac 51 2 w' w.heap.size r.s.v r.x.cs) ∧ Below w.heap.size w w' ∧
    ((er = 0 ∧ bs.length ≤ 4096 ∧ codeP bs = some (rs.map InR.x)) ∨ (rs = [] ∧ er = 3 ∧ 4096 < bs.length) ∨ (rs = [] ∧ er = 90 ∧ bs.length ≤ 4096 ∧ codeP bs = none))
set_option maxHeartbeats 800000 in
theorem o9Decode_any (w : World) (a : Option Addr) (n c : Nat) (bs : List UInt8) (h : Arg w a n c bs) (hn : n ≤ 4097) :
    Calls Tryd.prog 11 #[.slice a n c] w (odec_post bs w) := by
  have hlen := h.bs.1
  by_cases hl : 4096 < n
  · have hl1 : (4096 : Int) < (n : Int) := by omega
    have HEND : Hid (odec_post bs w (.returned (.tuple #[.slice none 0 0, .int .i64 3])) w) := ⟨⟨none, 0, 0⟩, [], 3, rfl, Orw.nil _ _ _ _ _, (fun r hr => by cases hr), Below.refl _ _, .inr (.inl ⟨rfl, rfl, by omega⟩)⟩
    clear h
    go_enter Tryd.func11, Tryd.ntmps11
    go_wp2
    go_ret2
    exact unhide HEND
  · have hl1 : ¬ (4096 : Int) < (n : Int) := by omega
    have HI := hide (o9decoded_any w a n c bs h hn)
    clear h
    go_enter Tryd.func11, Tryd.ntmps11
    go_wp2_with fail
    refine (unhide HI).mono ?_
    rintro e w1 ⟨⟨sa, sn, sc⟩, rs, rfl, o1, e1, B1, hc⟩
    unfold Sl.v at o1 ⊢
    simp only at o1
    have hsl : rs.length = sn := by obtain ⟨a', c', e', _⟩ := o1.form; injection e' with _ e2 _; exact e2.symm
    rcases hc with ⟨hc, hne⟩ | ⟨hne, hc⟩
    · have hsn : ((sn : Int) == 0) = false := by
        have : rs.length ≠ 0 := fun e => hne (List.eq_nil_of_length_eq_zero e)
        simp
        omega
      have HEND : Hid (odec_post bs w (.returned (.tuple #[.slice sa sn sc, .int .i64 0])) w1) := ⟨⟨sa, sn, sc⟩, rs, 0, rfl, o1, e1, B1, .inl ⟨rfl, by omega, hc⟩⟩
      clear o1 e1 B1 hc hsl
      go_wp2
      go_ret2
      exact unhide HEND
    · have hs0 : sn = 0 := by rw [← hsl, hne]; rfl
      subst hs0
      have HEND : Hid (odec_post bs w (.returned (.tuple #[.slice none 0 0, .int .i64 90])) w1) := ⟨⟨none, 0, 0⟩, [], 90, rfl, Orw.nil _ _ _ _ _, (fun r hr => by cases hr), B1, .inr (.inr ⟨rfl, rfl, by omega, hc⟩)⟩
      clear o1 e1 B1 hc hsl
      go_wp2
      go_ret2
      exact unhide HEND
end Go.Proofs.YtpmhcignenfhgaaDoor

/- The walk of CodeDecodes. -/
namespace Go.Proofs.YtpmhcignenfhgaaDoor
open Go.RowKit
set_option linter.unusedVariables false
set_option maxRecDepth 100000

theorem gBytes9 {w W : World} {a : Option Addr} {n cap : Nat} {l : List UInt8} (f : Below w.heap.size w W) (h : Arg w a n cap l) (hn : n ≤ 4097) :
    Calls Tryd.prog 9 #[.slice a n cap] W fun e w' => ∃ a1 c1, e = .returned (.slice a1 n c1) ∧ w'.ownsRow W.heap.size 5 1 (.slice a1 n c1) n (bv l) ∧ Arg w' a1 n c1 l ∧ Below w.heap.size w w' ∧ Below W.heap.size W w' := by
  refine (Bytes_arg (h.below f) (by omega)).mono ?_
  rintro e w' ⟨v, rfl, o, f'⟩
  obtain ⟨a1, c1, rfl, _⟩ := own_form o
  exact ⟨a1, c1, rfl, o, arg_of_own h.bs.1 o, f.trans (f'.mono f.size), f'⟩
/-- Both answer the same. -/
theorem both_dec {bs : List UInt8} {rs qs : List InR} {er eq : Int} (h1 : (er = 0 ∧ bs.length ≤ 4096 ∧ codeP bs = some (rs.map InR.x)) ∨ (rs = [] ∧ er = 3 ∧ 4096 < bs.length) ∨ (rs = [] ∧ er = 90 ∧ bs.length ≤ 4096 ∧ codeP bs = none))
    (h2 : (eq = 0 ∧ bs.length ≤ 4096 ∧ codeP bs = some (qs.map InR.x)) ∨ (qs = [] ∧ eq = 3 ∧ 4096 < bs.length) ∨ (qs = [] ∧ eq = 90 ∧ bs.length ≤ 4096 ∧ codeP bs = none)) :
    er = eq ∧ rs.map InR.x = qs.map InR.x ∧ rs.length ≤ bs.length := by
  have hlen : ∀ {l : List InR}, codeP bs = some (l.map InR.x) → l.length ≤ bs.length := fun {l} h => by
    have h3 := insL_count (codeP_some h).1
    simp only [List.length_map] at h3
    omega
  rcases h1 with ⟨a1, a2, a3⟩ | ⟨a1, a2, a3⟩ | ⟨a1, a2, a3, a4⟩ <;> rcases h2 with ⟨b1, b2, b3⟩ | ⟨b1, b2, b3⟩ | ⟨b1, b2, b3, b4⟩
  · rw [a3] at b3; injection b3 with b3; exact ⟨by rw [a1, b1], b3, hlen a3⟩
  · omega
  · rw [a3] at b4; cases b4
  · omega
  · exact ⟨by rw [a2, b2], by rw [a1, b1], by rw [a1]; simp⟩
  · omega
  · rw [b3] at a4; cases a4
  · omega
  · exact ⟨by rw [a2, b2], by rw [a1, b1], by rw [a1]; simp⟩
set_option maxHeartbeats 1600000 in
theorem cdecodes_walk (w : World) (hT : Tab9 w) (hS : Tab9s w) (a : Option Addr) (n c : Nat) (bs : List UInt8) (hA : Arg w a n c bs) :
    Calls Tryd.prog 3 #[.slice a n c] w fun e w' => e = .returned (.bool true) ∧ Below w.heap.size w w' := by
  have hbl := hA.bs.1
  have HT := hide (And.intro hT hS)
  have HA := hide hA
  clear hT hS hA
  go_enter Tryd.func3, Tryd.ntmps3
  go_upto_if 10 with fail
  go_cut [0] from 11 (fun v0 wr => ∃ (m : Nat) (l : List UInt8), v0 = .slice a m c ∧ Arg w a m c l ∧ m ≤ 4097 ∧ wr = w)
  case first =>
    by_cases hn : 4097 < n
    · have hn1 : (4097 : Int) < (n : Int) := by omega
      have hc : n ≤ c := (unhide HA).room
      have hc1 : (4097 : Int) ≤ (c : Int) := by omega
      have HT4 := hide (arg_take9 (unhide HA) (k := 4097) (by omega) (by omega))
      obtain ⟨b1, o1, ha⟩ : ∃ b1 o1, a = some ⟨b1, o1, none⟩ := by
        rcases (unhide HA).bs.2 with h1 | ⟨b, o, e, h1⟩
        · omega
        · exact ⟨b, o, e⟩
      subst ha
      go_wp2
      go_meet
      case rel => exact ⟨4097, _, by simp, unhide HT4, by omega, rfl⟩
    · have hn1 : ¬ (4097 : Int) < (n : Int) := by omega
      go_wp2
      go_meet
      case rel => exact ⟨n, bs, rfl, unhide HA, by omega, rfl⟩
  case rest =>
    obtain ⟨m, l, rfl, hA2, hm, rfl⟩ := hcut
    clear HA hbl
    have hll := hA2.bs.1
    have HA2 := hide hA2
    have HBY := hide (gBytes9 (Below.refl _ _) hA2 hm)
    clear hA2
    go_wp2_with fail
    refine (unhide HBY).mono ?_
    rintro e w1 ⟨a1, c1, rfl, own1, A1, f1, _⟩
    have HD := hide (hDecode_any w1 a1 m c1 l A1 ((unhide HT).1.below f1))
    have HA1 := hide A1
    have F1 := hide f1
    clear own1 A1 f1 HBY
    go_wp2_with fail
    refine (unhide HD).mono ?_
    rintro e w2 ⟨⟨sa, sn, sc⟩, rs, er, rfl, o2, e2, b2, hc2⟩
    have F2 := hide ((unhide F1).trans (b2.mono (unhide F1).size))
    have HD2 := hide (o9Decode_any w2 a m c l ((unhide HA2).below (unhide F2)) hm)
    have HB2 := hide b2
    have HX2 := hide (And.intro o2 (And.intro e2 hc2))
    clear o2 e2 b2 hc2 HD
    unfold Sl.v
    go_wp2_with fail
    refine (unhide HD2).mono ?_
    rintro e w3 ⟨⟨ta, tn, tc⟩, qs, eq, rfl, o3, e3, b3, hc3⟩
    obtain ⟨o2, e2, hc2⟩ := unhide HX2
    obtain ⟨hee, hmap, hlr⟩ := both_dec hc2 hc3
    subst hee
    have hsn : rs.length = sn := by obtain ⟨a', c', e', _⟩ := o2.form; injection e' with _ e2 _; exact e2.symm
    have htn : qs.length = tn := by obtain ⟨a', c', e', _⟩ := o3.form; injection e' with _ e2 _; exact e2.symm
    have hst : sn = tn := by have := congrArg List.length hmap; simp only [List.length_map] at this; omega
    subst hst
    have HSI := hide (SameInstrs_same w3 sa ta sn sc tc rs qs ((o2.ls rkN9).below b3) (o3.ls rkN9) hmap (fun r hr => ((e2 r hr).ls.1).below b3) (fun r hr => (e3 r hr).ls rkC) (by omega) (fun r hr => by have := (e2 r hr).ls.2; omega))
    have F3 := hide ((unhide F2).trans (b3.mono (unhide F2).size))
    have HA3 := hide ((unhide HA1).below ((unhide HB2).trans (b3.mono (unhide HB2).size)))
    clear HX2 o2 e2 hc2 o3 e3 b3 hc3 HD2 hmap hsn htn HA1 HB2
    unfold Sl.v
    go_wp2_with fail
    refine (unhide HSI).mono ?_
    rintro e w4 ⟨rfl, f4⟩
    have F4 := hide ((unhide F3).trans (f4.mono (unhide F3).size))
    have HSB := hide (SameBytes_same w4 a1 a l m c1 c ((unhide HA3).below f4).bs ((unhide HA2).below (unhide F4)).bs)
    have HW := hide (works9_any w4 ((unhide HT).1.below (unhide F4)) ((unhide HT).2.below (unhide F4)))
    clear f4 HSI HA3
    go_wp2_with fail
    refine (unhide HSB).mono ?_
    rintro e w5 ⟨rfl, rfl⟩
    go_wp2_with fail
    refine (unhide HW).mono ?_
    rintro e w6 ⟨rfl, f6⟩
    have F6 := hide ((unhide F4).trans (f6.mono (unhide F4).size))
    clear f6
    go_wp2
    go_ret
    exact ⟨rfl, unhide F6⟩
end Go.Proofs.YtpmhcignenfhgaaDoor
