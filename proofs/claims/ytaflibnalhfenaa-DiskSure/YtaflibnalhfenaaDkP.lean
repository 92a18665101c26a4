/- A disk behind stores and barriers: the contract of stored. -/
import Derived.Test.YtaflibnalhfenaaDkN
namespace Go.Proofs.Ytaflibnalhfenaa
open Go.RowKit
set_option linter.unusedVariables false

def Sec.flush (s : Sec) : Sec := ⟨s.last, []⟩
structure LAct where
  kind : Int
  at_ : Int
  byte : UInt8
def Dk.bar (D : Dk) : Dk := { D.moved with secs := D.secs.map Sec.flush }
def Dk.sto (D : Dk) (i : Nat) (x : List UInt8) : Dk := D.moved.put i ((D.secs.getD i ⟨[], []⟩).add x)
def dstep (D : Dk) (a : LAct) : Dk := if among a.kind 4 = 3 then D.bar else D.sto (among a.at_ 4) (allOf a.byte)
def runA (l : List LAct) (D : Dk) : Dk := l.foldl dstep D

/-- A disk of four sectors without a trip, no cache longer than k. -/
structure Good (D : Dk) (k : Nat) : Prop where
  four : D.secs.length = 4
  trip : D.trip = -1
  dark : D.dark = false
  few : ∀ (i : Nat) (s : Sec), D.secs[i]? = some s → s.wait.length ≤ k

theorem Good.can {D : Dk} {k : Nat} (h : Good D k) : D.can = true := by simp [Dk.can, h.trip, h.dark]
theorem Good.moved {D : Dk} {k : Nat} (h : Good D k) : D.moved = { D with moves := wrap64 (D.moves + 1) } := by simp [Dk.moved, h.trip, h.dark]
theorem Good.fresh : Good (Dk.fresh 4) 0 := by
  refine ⟨rfl, rfl, rfl, fun i s hi => ?_⟩
  have := List.eq_of_mem_replicate (List.mem_of_getElem? hi)
  subst this
  simp
theorem Good.bar {D : Dk} {k : Nat} (h : Good D k) : Good D.bar (k + 1) := by
  refine ⟨by simp [Dk.bar, h.four], by simp [Dk.bar, h.moved, h.trip], by simp [Dk.bar, h.moved, h.dark], fun i s hi => ?_⟩
  simp only [Dk.bar, List.getElem?_map, Option.map_eq_some_iff] at hi
  obtain ⟨t, _, rfl⟩ := hi
  simp [Sec.flush]
theorem Good.sto {D : Dk} {k : Nat} (h : Good D k) (i : Nat) (x : List UInt8) : Good (D.sto i x) (k + 1) := by
  have e : (D.sto i x) = { D with moves := wrap64 (D.moves + 1), secs := D.secs.set i ((D.secs.getD i ⟨[], []⟩).add x) } := by
    simp only [Dk.sto, Dk.put, h.moved]
  rw [e]
  refine ⟨by simp [h.four], h.trip, h.dark, fun j s hj => ?_⟩
  simp only [List.getElem?_set] at hj
  split at hj
  · split at hj
    · rename_i e0 hlt
      have := (Option.some.inj hj).symm
      subst this
      simp only [Sec.add, List.length_append, List.length_cons, List.length_nil]
      have := h.few i _ (List.getElem?_eq_getElem hlt)
      rw [List.getD_eq_getElem?_getD, List.getElem?_eq_getElem hlt]
      simpa using this
    · cases hj
  · have := h.few j s hj
    omega
theorem Good.step {D : Dk} {k : Nat} (h : Good D k) (a : LAct) : Good (dstep D a) (k + 1) := by
  unfold dstep; split
  · exact h.bar
  · exact h.sto _ _
theorem Good.mono {D : Dk} {k m : Nat} (h : Good D k) (hkm : k ≤ m) : Good D m := ⟨h.four, h.trip, h.dark, fun i s hi => Nat.le_trans (h.few i s hi) hkm⟩

theorem part_bar {D D' : Dk} (h : Part D Gbar D.cached.length D') : D' = { D with secs := D.secs.map Sec.flush } := by
  have e : D'.secs = D.secs.map Sec.flush := by
    apply List.ext_getElem?
    intro i
    rw [List.getElem?_map]
    cases hi : D.secs[i]? with
    | none =>
      have := List.getElem?_eq_none_iff.1 hi
      rw [List.getElem?_eq_none (by rw [h.len]; exact this)]
      rfl
    | some s =>
      obtain ⟨r, hr, hG, hs⟩ := h.all i s hi
      rw [hs]
      have er : r = s.wait.length := by
        cases hw : waits D i with
        | true => exact hG hw
        | false =>
          have h0 : s.wait = [] := by
            unfold waits at hw
            rw [hi] at hw
            simpa using hw
          rw [h0] at hr ⊢
          simpa using hr
      rw [er]
      rfl
  cases D'
  have h1 := h.moves
  have h2 := h.trip
  have h3 := h.dark
  simp only at e h1 h2 h3
  subst e h1 h2 h3
  rfl

theorem Barrier_bar (w : World) (B p g : Nat) (vs : Nat → Value) (D : Dk) (hD : IsDisk w B p g vs D) (hc : D.can = true) :
    Calls Try.prog 19 #[.pointer (some ⟨p, 0, none⟩)] w fun e w' => e = .returned (.int .i64 0) ∧ (∃ vs', IsDisk w' B p g vs' D.bar) ∧ Fr B w w' := by
  refine (Barrier_ok w B p g vs D hD hc).mono ?_
  rintro e w' ⟨rfl, ⟨vs', D', h1, h2⟩, h3⟩
  have := part_bar h2
  subst this
  refine ⟨rfl, ⟨vs', ?_⟩, h3⟩
  simpa [Dk.bar, Dk.moved_secs] using h1

theorem Store_sto (w : World) (B p g : Nat) (vs : Nat → Value) (D : Dk) (hD : IsDisk w B p g vs D) (k : Nat) (hG : Good D k) (hk : k ≤ 1000000) (i : Nat) (hi : i < 4) (q c : Nat) (b : UInt8)
    (hq : w.heap[q]? = some (.cells (bv (allOf b)).toArray 5 (0, 0))) :
    Calls Try.prog 16 #[.pointer (some ⟨p, 0, none⟩), .int .i64 i, .slice (some ⟨q, 0, none⟩) 256 c] w fun e w' => e = .returned (.int .i64 0) ∧ (∃ vs', IsDisk w' B p g vs' (D.sto i (allOf b))) ∧ Fr B w w' := by
  have hil : i < D.secs.length := by rw [hG.four]; exact hi
  have hs := List.getElem?_eq_getElem hil
  have hne : q ≠ p := by intro e; subst e; have := hq.symm.trans hD.blk; simp at this
  refine (Store_ok w B p g vs D hD i _ hs ⟨q, 0, none⟩ c hG.can (Nat.le_trans (hG.few i _ hs) hk) (allOf b) (allOf_len b) (World.news_of_block hq) hne).mono ?_
  rintro e w' ⟨rfl, h1, h2⟩
  have e2 : D.sto i (allOf b) = D.moved.put i (D.secs[i].add (allOf b)) := by
    unfold Dk.sto; rw [List.getD_eq_getElem?_getD, hs]; rfl
  rw [e2]
  exact ⟨rfl, h1, h2⟩

/-- At ⟨b, o⟩ lie the acts l. -/
def ActsAt (w : World) (b o : Nat) (l : List LAct) : Prop := ∀ (j : Nat) (x : LAct), l[j]? = some x → w.cell? ⟨b, o + j * 6, none⟩ = some (.int .i64 x.kind) ∧ w.cell? ⟨b, o + j * 6 + 1, none⟩ = some (.int .i64 x.at_) ∧ w.cell? ⟨b, o + j * 6 + 3, none⟩ = some (.int .u8 (x.byte.toNat : Int))

theorem runA_snoc (l : List LAct) (D : Dk) (k : Nat) (x : LAct) (h : l[k]? = some x) : runA (l.take (k + 1)) D = dstep (runA (l.take k) D) x := by
  obtain ⟨hk, rfl⟩ := List.getElem?_eq_some_iff.1 h
  unfold runA
  rw [List.take_succ_eq_append_getElem hk, List.foldl_append]
  rfl

structure SRel (w : World) (B p g : Nat) (D : Dk) (k : Nat) (wr : World) : Prop where
  ex : ∃ vs, IsDisk wr B p g vs D
  good : Good D k
  fr : Below B w wr

theorem keep_acts {w2 w3 : World} {B b o1 o3 : Nat} {v1 v3 : Value} {X : Obj} (cb : b < B) (hb : B ≤ w2.heap.size) (c1 : w2.cell? ⟨b, o1, none⟩ = some v1) (c3 : w2.cell? ⟨b, o3, none⟩ = some v3) (f : Fr B (w2.alloc X).drew w3) :
    w3.cell? ⟨b, o1, none⟩ = some v1 ∧ w3.cell? ⟨b, o3, none⟩ = some v3 :=
  ⟨(f.below.cell (p := ⟨b, o1, none⟩) cb).trans (cell_alloc c1 X), (f.below.cell (p := ⟨b, o3, none⟩) cb).trans (cell_alloc c3 X)⟩

set_option maxHeartbeats 800000 in
set_option maxRecDepth 100000 in
theorem stored_at (w : World) (b o c : Nat) (l : List LAct) (hl : l.length ≤ 9223372036854775807) (hA : ActsAt w b o l) :
    Calls Try.prog 37 #[.slice (some ⟨b, o, none⟩) l.length c] w fun e w' => e = .returned (.pointer (some ⟨w.heap.size + 1, 0, none⟩)) ∧
      (∃ g vs, IsDisk w' w.heap.size (w.heap.size + 1) g vs (runA (l.take 80) (Dk.fresh 4))) ∧ Good (runA (l.take 80) (Dk.fresh 4)) 80 ∧ Below w.heap.size w w' := by
  have HA := hide hA
  clear hA
  go_enter Try.func37, Try.ntmps37
  go_wp2_with fail
  refine (Make_ok 4 _ (by omega) (by omega)).mono ?_
  rintro e w1 ⟨rfl, d1, b1⟩
  have hR0 : SRel w w.heap.size (w.heap.size + 1) w.heap.size (runA (l.take 0) (Dk.fresh 4)) 0 w1 := ⟨⟨_, d1⟩, Good.fresh, b1⟩
  clear d1 b1
  go_wp2
  go_loopw [5] (fun i wr => ∃ k : Nat, k ≤ l.length ∧ k ≤ 80 ∧ i = .int .i64 k ∧ SRel w w.heap.size (w.heap.size + 1) w.heap.size (runA (l.take k) (Dk.fresh 4)) k wr) (fun i _ => l.length - (intOf i).toNat)
  case atStart => exact ⟨0, by omega, by omega, rfl, hR0⟩
  case round =>
    clear hR0
    obtain ⟨k, hk, hk80, rfl, hR⟩ := hrel
    by_cases hlt : k < l.length ∧ k < 80
    · obtain ⟨h1, h2⟩ := hlt
      have hx := List.getElem?_eq_getElem h1
      obtain ⟨c0, c1, c3⟩ := unhide HA k _ hx
      have hbs := hR.fr.size
      have cb := World.block_lt_of_cell? w _ c0
      have c0' := (hR.fr.cell cb).trans c0
      have c1' := (hR.fr.cell (p := ⟨b, o + k * 6 + 1, none⟩) cb).trans c1
      have c3' := (hR.fr.cell (p := ⟨b, o + k * 6 + 3, none⟩) cb).trans c3
      obtain ⟨vs, hD⟩ := hR.ex
      have hsn := hide (runA_snoc l (Dk.fresh 4) k _ hx)
      generalize l[k] = x at *
      clear c0 c1 c3 hx
      by_cases h3 : among x.kind 4 = 3
      · have h3' : ((among x.kind 4 : Int) == 3) = true := by rw [h3]; rfl
        go_wp2_with fail
        refine (Among_any _ _ 4 (by omega) (by omega)).mono ?_
        rintro e w2 ⟨rfl, rfl⟩
        go_wp2_with fail
        refine (Barrier_bar _ _ _ _ vs _ hD hR.good.can).mono ?_
        rintro e w3 ⟨rfl, hx3, f3⟩
        have R : SRel w w.heap.size (w.heap.size + 1) w.heap.size (runA (l.take (k + 1)) (Dk.fresh 4)) (k + 1) w3 := by
          rw [unhide hsn]
          refine ⟨?_, hR.good.step x, hR.fr.trans f3.below⟩
          unfold dstep; rw [if_pos h3]; exact hx3
        clear hx3 f3 hD hR hbs c0' c1' c3' hsn h3 h3'
        go_wp2
        go_roundw
        case rel => exact ⟨k + 1, by omega, by omega, by go_num, R⟩
        case measure => simp [intOf]; omega
      · have h3' : ((among x.kind 4 : Int) == 3) = false := by rw [beq_eq_false_iff_ne]; omega
        have hin := among_lt x.at_ 4 (by omega)
        go_wp2_with fail
        refine (Among_any _ _ 4 (by omega) (by omega)).mono ?_
        rintro e w2 ⟨rfl, rfl⟩
        have hki : (k : Int) < l.length := by omega
        have b2 : Below w2.heap.size w2 (w2.alloc (.cells (bv (allOf x.byte)).toArray 5)).drew := ((Below.refl _ _).alloc (Nat.le_refl _) _).drew
        have HS := hide (Store_sto _ _ _ _ vs _ (hD.below b2) k hR.good (by omega) (among x.at_ 4) hin w2.heap.size 256 x.byte (heap_alloc_last w2 _))
        have HK := hide (fun (w3 : World) (f3 : Fr w.heap.size (w2.alloc (.cells (bv (allOf x.byte)).toArray 5)).drew w3) => keep_acts (w2 := w2) cb hbs c1' c3' f3)
        have HR := hide hR
        have HD := hide hD
        clear b2 hD hR c0'
        go_wp2_with fail
        go_region_held (fun w' => w'.cell? ⟨b, o + k * 6 + 1, none⟩ = some (.int .i64 x.at_) ∧ w'.cell? ⟨b, o + k * 6 + 3, none⟩ = some (.int .u8 (x.byte.toNat : Int))) (go_keep)
          (first
            | (go_at_call 14; refine (Among_any _ _ 4 (by omega) (by omega)).mono ?_; rintro e w3 ⟨rfl, rfl⟩)
            | (go_at_call 15; refine (of_any _ _).mono ?_; rintro e w3 ⟨rfl, rfl⟩)
            | (go_at_call 16; refine (unhide HS).mono ?_; rintro e w3 ⟨rfl, hx3, f3⟩; have k1 := (unhide HK w3 f3).1; have k3 := (unhide HK w3 f3).2))
        have R : SRel w w.heap.size (w.heap.size + 1) w.heap.size (runA (l.take (k + 1)) (Dk.fresh 4)) (k + 1) w3 := by
          rw [unhide hsn]
          refine ⟨?_, (unhide HR).good.step x, ((unhide HR).fr.trans (((Below.refl _ _).alloc hbs _).drew)).trans f3.below⟩
          unfold dstep; rw [if_neg h3]; exact hx3
        clear hx3 f3 HD HR HS HK hbs c1' c3' hsn h3 h3' k1 k3
        go_wp2
        go_roundw
        case rel => exact ⟨k + 1, by omega, by omega, by go_num, R⟩
        case measure => simp [intOf]; omega
    · have he : l.take k = l.take 80 := by
        by_cases h1 : k < l.length
        · have : k = 80 := by omega
          rw [this]
        · rw [List.take_of_length_le (by omega), List.take_of_length_le (by omega)]
      rw [he] at hR
      have hG := hR.good.mono hk80
      obtain ⟨vs, hD⟩ := hR.ex
      have HG := hide hG
      have HD := hide hD
      have HF := hide hR.fr
      clear hR he hG hD
      by_cases h1 : k < l.length
      · have h80 : ¬ ((k : Int) < 80) := by omega
        have h80' : decide ((k : Int) < 80) = false := by simpa using h80
        go_wp2
        go_ret
        exact ⟨rfl, ⟨_, _, unhide HD⟩, unhide HG, unhide HF⟩
      · have h1' : decide ((k : Int) < (l.length : Int)) = false := by simp; omega
        go_wp2
        go_ret
        exact ⟨rfl, ⟨_, _, unhide HD⟩, unhide HG, unhide HF⟩

end Go.Proofs.Ytaflibnalhfenaa
