/- Joined: CrM CrN CrO CrP CrQ CrR CrS. -/
import Derived.Test.YthhdfokcciibmaaGreatDoorJL
import Derived.Test.YthhdfokcciibmaaGreatDoorJN
import Derived.Test.YthhdfokcciibmaaGreatDoorJClW
import Derived.Test.YthhdfokcciibmaaGreatDoorJCkP

/- The landed class: its reader: code, method. -/
namespace Go.Proofs.YthhdfokcciibmaaGreatDoor
open Go.RowKit
set_option linter.unusedVariables false
set_option maxRecDepth 100000

structure MdOk (l : List Ent) (w : World) (base : Nat) (r : MdR) : Prop where
  own : MdOwn w base r
  acc : fitI r.m.acc
  nm : Txt8 l r.m.name
  ty : Txt8 l r.m.type
  st : fitI r.m.code.stack
  lo : fitI r.m.code.locals
  hs : ∀ h ∈ r.m.code.hs, HdFit h
  mp : ∀ x ∈ r.mr, MpOk l w base x
  nb : r.m.code.bytes.length ≤ 1000000
  nh : r.m.code.hs.length ≤ 4294967296
  np : r.mr.length ≤ 65536
theorem MdOk.keep {l : List Ent} {w w' : World} {base : Nat} {r : MdR} (h : MdOk l w base r) (f : ∀ (k : Nat) (Z : Array Value) (T : TypeId), w.heap[k]? = some (.cells Z T (0, 0)) → T = 5 ∨ T = 93 ∨ T = 52 ∨ T = 143 → w'.heap[k]? = w.heap[k]?) : MdOk l w' base r :=
  ⟨h.own.keepAll fun k X t _ ht hX => f k X t hX ht, h.acc, h.nm, h.ty, h.st, h.lo, h.hs, fun x hx => (h.mp x hx).keep fun k Z hk => f k Z _ hk (.inr (.inr (.inr rfl))), h.nb, h.nh, h.np⟩
theorem MdOk.base {l : List Ent} {w : World} {base base' : Nat} {r : MdR} (h : MdOk l w base r) (hb : base' ≤ base) : MdOk l w base' r := ⟨h.own.base hb, h.acc, h.nm, h.ty, h.st, h.lo, h.hs, fun x hx => (h.mp x hx).base hb, h.nb, h.nh, h.np⟩
theorem codeR_by (l : List Ent) (s : List UInt8) : codeR l s = (uR 2 s).bind fun a => (uR 2 a.2).bind fun b => (bytesR b.2).bind fun x => (listR hdR x.2).bind fun h => (tableR l h.2).bind fun t => some (⟨a.1, b.1, x.1, h.1, t.1⟩, t.2) := by
  unfold codeR bytesR listR
  simp only [Option.bind_assoc, hdsR_many]
def code_post (C : Cr) (i : Nat) (en : Bool) (w : World) (e : Ending) (w' : World) : Prop :=
  ∃ (c : Cd) (b h p : Sl) (mr : List MpR) (i' : Nat) (en' : Bool), e = .returned (.agg #[.int .i64 c.stack, .int .i64 c.locals, b.v, h.v, p.v]) ∧ MdOk C.l w' w.heap.size ⟨⟨0, [], [], c⟩, b, h, p, mr⟩ ∧ Got (codeR C.l) C.bs i en c i' en' ∧ Rd8 C i' en' w' ∧ FX C w w'
theorem sizeCode8 : (Tryz.prog.info? 47).map (·.size) = some 5 := by kernel_rfl
theorem sizeMethod9 : (Tryz.prog.info? 49).map (·.size) = some 8 := by kernel_rfl

set_option maxHeartbeats 1600000 in
theorem rCode_any (C : Cr) (i : Nat) (en : Bool) (w : World) (h : Rd8 C i en w) (hT : Tab8 w) :
    Calls Tryz.prog 133 #[.pointer (some ⟨C.X, 0, none⟩)] w (code_post C i en w) := by
  have hB := h.hB
  have hB1 := h.one
  obtain ⟨w0, e0, f0, r0⟩ : ∃ w0, w.alloc (.cells #[.int .i64 0, .int .i64 0, .slice none 0 0, .slice none 0 0, .slice none 0 0] 47) = w0 ∧ Below w.heap.size w w0 ∧ w0.heap[w.heap.size]? = some (.cells #[.int .i64 0, .int .i64 0, .slice none 0 0, .slice none 0 0, .slice none 0 0] 47 (0, 0)) := ⟨_, rfl, (Below.refl _ _).alloc (Nat.le_refl _) _, heap_alloc_new w _⟩
  have R0 := h.below f0
  have F0 : FX C w w0 := (FX.refl C w).on f0 hB
  have HN := hide (rNumber_any C i en w0 R0 2 (by omega))
  have H0 := hide (And.intro R0 (And.intro F0 (And.intro r0 (hT.below f0))))
  have hmf : ∀ (fn : Fn) (first cap : Array Value) (w : World), (Instr.makeFunc fn first cap).run Tryz.prog w = .ok (.func fn first cap) w := fun _ _ _ _ => rfl
  clear h f0 r0 R0 F0 hT
  go_enter Tryz.func133, Tryz.ntmps133
  go_wp2_with fail
  refine (unhide HN).mono ?_
  rintro e w1 ⟨n1, j1, e1, rfl, b1, g1, R1, f1⟩
  clear HN
  have HN := hide (rNumber_any C j1 e1 w1 R1 2 (by omega))
  have H1 := hide (And.intro b1 (And.intro g1 (And.intro R1 f1)))
  clear b1 g1 R1 f1 e0
  go_wp2_with fail
  refine (unhide HN).mono ?_
  rintro e w2 ⟨n2, j2, e2, rfl, b2, g2, R2, f2⟩
  clear HN
  have HN := hide (rBytes_any C j2 e2 w2 R2)
  have H2 := hide (And.intro b2 (And.intro g2 (And.intro R2 f2)))
  clear b2 g2 R2 f2
  go_wp2_with fail
  refine (unhide HN).mono ?_
  rintro e w3 ⟨⟨ba, bn, bc⟩, x3, j3, e3, rfl, ⟨o3, l3⟩, g3, R3, f3⟩
  clear HN
  obtain ⟨R0, F0, r0, T0⟩ := unhide H0
  obtain ⟨b1, g1, R1, f1⟩ := unhide H1
  obtain ⟨b2, g2, R2, f2⟩ := unhide H2
  have T3 := (f1.trans (f2.trans f3)).tab hB1 T0
  have HN := hide (rlH_any C j3 e3 w3 R3 T3)
  have H3 := hide (And.intro o3 (And.intro l3 (And.intro g3 (And.intro R3 (And.intro f3 T3)))))
  clear R0 F0 r0 T0 b1 g1 R1 f1 b2 g2 R2 f2 o3 l3 g3 R3 f3 T3
  go_wp2_with fail
  refine (unhide HN).mono ?_
  rintro e w4 ⟨⟨ha, hn, hc⟩, x4, j4, e4, rfl, ⟨o4, k4, l4⟩, g4, R4, f4⟩
  clear HN
  obtain ⟨o3, l3, g3, R3, f3, T3⟩ := unhide H3
  have HN := hide (rMaps_any C j4 e4 w4 R4 (f4.tab hB1 T3))
  have H4 := hide (And.intro o4 (And.intro k4 (And.intro l4 (And.intro g4 (And.intro R4 f4)))))
  clear o3 l3 g3 R3 f3 T3 o4 k4 l4 g4 R4 f4
  go_wp2_with fail
  refine (unhide HN).mono ?_
  rintro e w5 ⟨⟨pa, pn, pc⟩, x5, j5, e5, rfl, ⟨o5, k5, l5⟩, g5, R5, f5⟩
  clear HN
  obtain ⟨R0, F0, r0, T0⟩ := unhide H0
  obtain ⟨b1, g1, R1, f1⟩ := unhide H1
  obtain ⟨b2, g2, R2, f2⟩ := unhide H2
  obtain ⟨o3, l3, g3, R3, f3, T3⟩ := unhide H3
  obtain ⟨o4, k4, l4, g4, R4, f4⟩ := unhide H4
  have fall := f1.trans (f2.trans (f3.trans (f4.trans f5)))
  have r5 := R0.blk fall r0 (by decide) (by decide)
  have s1 := f1.size
  have s2 := f2.size
  have s3 := f3.size
  have s4 := f4.size
  have hlt := lt_of_heap r0
  have O3 : Orw byc 5 1 w5 (w.heap.size + 1) (.slice ba bn bc) x3 := Orw.base (R3.orw (f4.trans f5) o3 (by decide) (by decide)) (by omega)
  have O4 : Orw hdc 93 4 w5 (w.heap.size + 1) (.slice ha hn hc) x4 := Orw.base (R4.orw f5 o4 (by decide) (by decide)) (by omega)
  have O5 : Orw mpc 52 3 w5 (w.heap.size + 1) (.slice pa pn pc) x5 := Orw.base o5 (by omega)
  have K5 : ∀ x ∈ x5, MpOk C.l w5 (w.heap.size + 1) x := fun x hx => (k5 x hx).base (by omega)
  have q0 : w5.cell? ⟨w.heap.size, 0, none⟩ = some (.int .i64 0) := bx_cell r5 0 _ rfl
  have q1 : w5.cell? ⟨w.heap.size, 1, none⟩ = some (.int .i64 0) := bx_cell r5 1 _ rfl
  have q2 : w5.cell? ⟨w.heap.size, 2, none⟩ = some (.slice none 0 0) := bx_cell r5 2 _ rfl
  have q3 : w5.cell? ⟨w.heap.size, 3, none⟩ = some (.slice none 0 0) := bx_cell r5 3 _ rfl
  have q4 : w5.cell? ⟨w.heap.size, 4, none⟩ = some (.slice none 0 0) := bx_cell r5 4 _ rfl
  have z0 := bx_thaw r5 0
  have z1 := bx_thaw r5 1
  have z2 := bx_thaw r5 2
  have z3 := bx_thaw r5 3
  have z4 := bx_thaw r5 4
  have HG : Hid (Got (codeR C.l) C.bs i en ⟨n1, n2, x3, x4, x5.map MpR.m⟩ j5 e5) := hide ⟨fun e => g5.1 (g4.1 (g3.1 (g2.1 (g1.1 e)))), fun e v0 r hr => by
    rw [codeR_by] at hr
    obtain ⟨k1, hr⟩ := got_bind g1 e hr
    obtain ⟨k2, hr⟩ := got_bind g2 k1 hr
    obtain ⟨k3, hr⟩ := got_bind g3 k2 hr
    obtain ⟨k4, hr⟩ := got_bind g4 k3 hr
    obtain ⟨k5, hr⟩ := got_bind g5 k4 hr
    obtain ⟨h1, h2⟩ := got_end hr
    exact ⟨h1, k5, h2⟩⟩
  have HM : Hid (∀ W, (∀ k, k ≠ w.heap.size → W.heap[k]? = w5.heap[k]?) → MdOk C.l W w.heap.size ⟨⟨0, [], [], ⟨n1, n2, x3, x4, x5.map MpR.m⟩⟩, ⟨ba, bn, bc⟩, ⟨ha, hn, hc⟩, ⟨pa, pn, pc⟩, x5⟩) := hide fun W hW => by
    have hk : ∀ {v : Value} {α : Type} {cs : α → List Value} {e : TypeId} {sz : Nat} {l : List α}, Orw cs e sz w5 (w.heap.size + 1) v l → Orw cs e sz W w.heap.size v l := fun o => (o.below fun k hk => hW k (by have := (o.lt k hk).1; omega)).base (by omega)
    exact ⟨⟨hk O3, hk O4, hk O5, fun x hx => ⟨hk (K5 x hx).own.loc, hk (K5 x hx).own.stk⟩, rfl⟩, by unfold fitI; simp, .inl rfl, .inl rfl, fit4 b1, fit4 b2, k4, fun x hx => ⟨⟨hk (K5 x hx).own.loc, hk (K5 x hx).own.stk⟩, (K5 x hx).fit, (K5 x hx).loc, (K5 x hx).stk, (K5 x hx).nl, (K5 x hx).ns⟩, l3, l4, l5⟩
  have HR := hide (And.intro R5 (And.intro (F0.trans fall) r5))
  clear H0 H1 H2 H3 H4 R0 F0 r0 T0 b1 g1 R1 f1 b2 g2 R2 f2 o3 l3 g3 R3 f3 T3 o4 k4 l4 g4 R4 f4 o5 k5 l5 g5 R5 f5 fall r5 s1 s2 s3 s4 hlt O3 O4 O5 K5
  unfold Sl.v
  simp only
  go_wp2_with fail
  obtain ⟨R5, F5, r5⟩ := unhide HR
  have r6 := bx_whole [.int .i64 0, .int .i64 0, .slice none 0 0, .slice none 0 0, .slice none 0 0] [.int .i64 n1, .int .i64 n2, .slice ba bn bc, .slice ha hn hc, .slice pa pn pc] r5 rfl
  refine bodyPost_ret (v := .agg #[.int .i64 n1, .int .i64 n2, .slice ba bn bc, .slice ha hn hc, .slice pa pn pc]) ?_ rfl ⟨⟨n1, n2, x3, x4, x5.map MpR.m⟩, ⟨ba, bn, bc⟩, ⟨ha, hn, hc⟩, ⟨pa, pn, pc⟩, x5, j5, e5, rfl, unhide HM _ (fun k hk => heap_cells_other _ [.int .i64 n1, .int .i64 n2, .slice ba bn bc, .slice ha hn hc, .slice pa pn pc] 0 _ _ hk), unhide HG, R5.cells r5 (by decide) 0 [.int .i64 n1, .int .i64 n2, .slice ba bn bc, .slice ha hn hc, .slice pa pn pc], F5.cells (Nat.le_refl _) hB 0 [.int .i64 n1, .int .i64 n2, .slice ba bn bc, .slice ha hn hc, .slice pa pn pc]⟩
  exact results_cell_row Tryz.results133 _ _ w.heap.size 47 _ (0, 0) _ rfl r6 Tryz.underlying47 rfl sizeCode8
end Go.Proofs.YthhdfokcciibmaaGreatDoor

/- The landed class: its reader: method. -/
namespace Go.Proofs.YthhdfokcciibmaaGreatDoor
open Go.RowKit
set_option linter.unusedVariables false
set_option maxRecDepth 100000

def method_post (C : Cr) (i : Nat) (en : Bool) (w : World) (e : Ending) (w' : World) : Prop :=
  ∃ (x : MdR) (i' : Nat) (en' : Bool), e = .returned (.agg (mdc x).toArray) ∧ MdOk C.l w' w.heap.size x ∧ Got (methodR C.l) C.bs i en x.m i' en' ∧ Rd8 C i' en' w' ∧ FX C w w'
theorem passR_224 {l : List Ent} {s s1 s2 s3 : List UInt8} {a c : Int} {t : List UInt8} (h1 : uR 2 s = some (a, s1)) (h2 : utfR l s1 = some (t, s2)) (h3 : uR 4 s2 = some (c, s3)) : passR [2, 2, 4] s = some ((), s3) := by
  unfold utfR at h2
  obtain ⟨⟨m3, s4⟩, ha3, ha4⟩ := Option.bind_eq_some_iff.1 h2
  have hs : s4 = s2 := by
    simp only at ha4
    split at ha4
    · exact (got_end ha4).2
    · cases ha4
  subst hs
  show (uR 2 s).bind _ = _
  rw [h1, Option.bind_some]
  show (uR 2 s1).bind _ = _
  rw [ha3, Option.bind_some]
  show (uR 4 s4).bind _ = _
  rw [h3]
  rfl

set_option maxHeartbeats 1600000 in
theorem rMethod_any (C : Cr) (i : Nat) (en : Bool) (w : World) (h : Rd8 C i en w) (hT : Tab8 w) :
    Calls Tryz.prog 103 #[.pointer (some ⟨C.X, 0, none⟩)] w (method_post C i en w) := by
  have hB := h.hB
  have hB1 := h.one
  obtain ⟨w0, e0, f0, r0⟩ : ∃ w0, w.alloc (.cells #[.int .i64 0, .string ⟨#[]⟩, .string ⟨#[]⟩, .int .i64 0, .int .i64 0, .slice none 0 0, .slice none 0 0, .slice none 0 0] 49) = w0 ∧ Below w.heap.size w w0 ∧ w0.heap[w.heap.size]? = some (.cells #[.int .i64 0, .string ⟨#[]⟩, .string ⟨#[]⟩, .int .i64 0, .int .i64 0, .slice none 0 0, .slice none 0 0, .slice none 0 0] 49 (0, 0)) := ⟨_, rfl, (Below.refl _ _).alloc (Nat.le_refl _) _, heap_alloc_new w _⟩
  have R0 := h.below f0
  have F0 : FX C w w0 := (FX.refl C w).on f0 hB
  have HN := hide (rNumber_any C i en w0 R0 2 (by omega))
  have H0 := hide (And.intro R0 (And.intro F0 (And.intro r0 (hT.below f0))))
  clear h f0 r0 R0 F0 hT
  go_enter Tryz.func103, Tryz.ntmps103
  go_wp2_with fail
  refine (unhide HN).mono ?_
  rintro e w1 ⟨n1, j1, e1, rfl, b1, g1, R1, f1⟩
  clear HN
  have H1 := hide (And.intro b1 (And.intro g1 (And.intro R1 f1)))
  have HN := hide (rText_any C j1 e1 w1 R1)
  clear b1 g1 R1 f1 e0
  go_wp2_with fail
  refine (unhide HN).mono ?_
  rintro e w2 ⟨n2, j2, e2, rfl, b2, g2, R2, f2⟩
  clear HN
  have H2 := hide (And.intro b2 (And.intro g2 (And.intro R2 f2)))
  have HN := hide (rText_any C j2 e2 w2 R2)
  clear b2 g2 R2 f2
  go_wp2_with fail
  refine (unhide HN).mono ?_
  rintro e w3 ⟨n3, j3, e3, rfl, b3, g3, R3, f3⟩
  clear HN
  have H3 := hide (And.intro b3 (And.intro g3 (And.intro R3 f3)))
  clear b3 g3 R3 f3
  go_wp2_with fail
  obtain ⟨b3, g3, R3, f3⟩ := unhide H3
  obtain ⟨w4, e4, b4, r4, s4⟩ : ∃ w4, w3.alloc (.cells #[.int .i64 n1, .string ⟨n2.toArray⟩, .string ⟨n3.toArray⟩, .int .i64 0, .int .i64 0, .slice none 0 0, .slice none 0 0, .slice none 0 0] 49) = w4 ∧ Below w3.heap.size w3 w4 ∧ w4.heap[w3.heap.size]? = some (.cells #[.int .i64 n1, .string ⟨n2.toArray⟩, .string ⟨n3.toArray⟩, .int .i64 0, .int .i64 0, .slice none 0 0, .slice none 0 0, .slice none 0 0] 49 (0, 0)) ∧ w4.heap.size = w3.heap.size + 1 := ⟨_, rfl, (Below.refl _ _).alloc (Nat.le_refl _) _, heap_alloc_new w3 _, by simp⟩
  rw [e4]
  have R4 := R3.below b4
  have b5 : Below w4.heap.size w4 (w4.alloc (.cells #[.int .i64 2, .int .i64 2, .int .i64 4] 3)) := (Below.refl _ _).alloc (Nat.le_refl _) _
  have R5 := R4.below b5
  have r5 := (b5.block _ (lt_of_heap r4)).trans r4
  have F5 : FX C w3 (w4.alloc (.cells #[.int .i64 2, .int .i64 2, .int .i64 4] 3)) := ((FX.refl C w3).on b4 R3.hB).on b5 R3.hB
  have i5 : (w4.alloc (.cells #[.int .i64 2, .int .i64 2, .int .i64 4] 3)).heap[w3.heap.size + 1]? = some (.cells #[.int .i64 2, .int .i64 2, .int .i64 4] 3 (0, 0)) := by
    rw [← s4]
    exact heap_alloc_new w4 _
  refine Calls.mono (rPass_any C j3 e3 _ R5 [2, 2, 4] (by simp) (w3.heap.size + 1) 3 3 rfl (by omega) i5) ?_
  rintro e w6 ⟨j6, e6, rfl, g6, R6, f6⟩
  obtain ⟨R0, F0, r0, T0⟩ := unhide H0
  obtain ⟨b1, g1, R1, f1⟩ := unhide H1
  obtain ⟨b2, g2, R2, f2⟩ := unhide H2
  have f36 := F5.trans f6
  have l6 := R5.blk f6 r5 (by decide) (by decide)
  have T6 := (f1.trans (f2.trans (f3.trans f36))).tab hB1 T0
  have HN := hide (rCode_any C j6 e6 w6 R6 T6)
  have H6 := hide (And.intro g6 (And.intro R6 (And.intro f36 l6)))
  clear b3 g3 R3 f3 b4 r4 R4 b5 R5 r5 F5 g6 R6 f6 f36 l6 T6 R0 F0 r0 T0 b1 g1 R1 f1 b2 g2 R2 f2 e4 i5
  go_wp2_with fail
  refine (unhide HN).mono ?_
  rintro e w7 ⟨c7, ⟨ba, bn, bc⟩, ⟨ha, hn, hc⟩, ⟨pa, pn, pc⟩, mr, j7, e7, rfl, ok7, g7, R7, f7⟩
  clear HN
  obtain ⟨R0, F0, r0, T0⟩ := unhide H0
  obtain ⟨b1, g1, R1, f1⟩ := unhide H1
  obtain ⟨b2, g2, R2, f2⟩ := unhide H2
  obtain ⟨b3, g3, R3, f3⟩ := unhide H3
  obtain ⟨g6, R6, f36, l6⟩ := unhide H6
  have f37 := f36.trans f7
  have fall := f1.trans (f2.trans (f3.trans f37))
  have r7 := R0.blk fall r0 (by decide) (by decide)
  have l7 := R6.blk f7 l6 (by decide) (by decide)
  have hlt := lt_of_heap r0
  have s1 := f1.size
  have s2 := f2.size
  have s3 := f3.size
  have s6 := f36.size
  have hl3 : w.heap.size < w3.heap.size := by omega
  have hne1 : ¬ w3.heap.size = w.heap.size := by omega
  have hne2 : ¬ w.heap.size = w3.heap.size := by omega
  have hl67 := lt_of_heap l6
  obtain ⟨w8, e8, l8, k8⟩ : ∃ w8, w7.setCells w3.heap.size 3 [.int .i64 c7.stack, .int .i64 c7.locals, .slice ba bn bc, .slice ha hn hc, .slice pa pn pc] = w8 ∧ w8.heap[w3.heap.size]? = some (.cells #[.int .i64 n1, .string ⟨n2.toArray⟩, .string ⟨n3.toArray⟩, .int .i64 c7.stack, .int .i64 c7.locals, .slice ba bn bc, .slice ha hn hc, .slice pa pn pc] 49 (0, 0)) ∧ ∀ k, k ≠ w3.heap.size → w8.heap[k]? = w7.heap[k]? :=
    ⟨_, rfl, bx_cells [.int .i64 c7.stack, .int .i64 c7.locals, .slice ba bn bc, .slice ha hn hc, .slice pa pn pc] [.int .i64 n1, .string ⟨n2.toArray⟩, .string ⟨n3.toArray⟩] [.int .i64 0, .int .i64 0, .slice none 0 0, .slice none 0 0, .slice none 0 0] w7 l7 rfl, fun k hk => heap_cells_other _ _ _ _ _ hk⟩
  have e8' : ((((w7.setCell ⟨w3.heap.size, 3, none⟩ (.int .i64 c7.stack)).setCell ⟨w3.heap.size, 4, none⟩ (.int .i64 c7.locals)).setCell ⟨w3.heap.size, 5, none⟩ (.slice ba bn bc)).setCell ⟨w3.heap.size, 6, none⟩ (.slice ha hn hc)).setCell ⟨w3.heap.size, 7, none⟩ (.slice pa pn pc) = w8 := e8
  have R8 : Rd8 C j7 e7 w8 := by rw [← e8]; exact R7.cells l7 (by decide) 3 _
  have F8 : FX C w w8 := by rw [← e8]; exact (F0.trans fall).cells (Nat.le_of_lt hl3) hB 3 _
  have r8 := (k8 w.heap.size (by omega)).trans r7
  have y3 := bx_cell l7 3 _ rfl
  have y4 := bx_cell l7 4 _ rfl
  have y5 := bx_cell l7 5 _ rfl
  have y6 := bx_cell l7 6 _ rfl
  have y7 := bx_cell l7 7 _ rfl
  have t3 := bx_thaw l7 3
  have t4 := bx_thaw l7 4
  have t5 := bx_thaw l7 5
  have t6 := bx_thaw l7 6
  have t7 := bx_thaw l7 7
  have HG : Hid (Got (methodR C.l) C.bs i en ⟨n1, n2, n3, c7⟩ j7 e7) := hide ⟨fun e => g7.1 (g6.1 (g3.1 (g2.1 (g1.1 e)))), fun e v0 r hr => by
    unfold methodR at hr
    obtain ⟨k1, hr⟩ := got_bind g1 e hr
    obtain ⟨k2, hr⟩ := got_bind g2 k1 hr
    obtain ⟨k3, hr⟩ := got_bind g3 k2 hr
    obtain ⟨⟨m1, s1⟩, h1, hr⟩ := Option.bind_eq_some_iff.1 hr
    obtain ⟨⟨m2, s2⟩, h2, hr⟩ := Option.bind_eq_some_iff.1 hr
    obtain ⟨⟨m3, s3⟩, h3, hr⟩ := Option.bind_eq_some_iff.1 hr
    obtain ⟨_, k6, d6⟩ := g6.2 k3 () s3 (passR_224 h1 h2 h3)
    simp only at hr
    rw [← d6] at hr
    obtain ⟨k7, hr⟩ := got_bind g7 k6 hr
    obtain ⟨h4, h5⟩ := got_end hr
    exact ⟨h4, k7, h5⟩⟩
  have hb6 : w3.heap.size + 1 ≤ w6.heap.size := hl67
  have HM : Hid (∀ W, (∀ k, k ≠ w.heap.size → W.heap[k]? = w8.heap[k]?) → MdOk C.l W w.heap.size ⟨⟨n1, n2, n3, c7⟩, ⟨ba, bn, bc⟩, ⟨ha, hn, hc⟩, ⟨pa, pn, pc⟩, mr⟩) := hide fun W hW => by
    have hk : ∀ {v : Value} {α : Type} {cs : α → List Value} {e : TypeId} {sz : Nat} {l : List α}, Orw cs e sz w7 w6.heap.size v l → Orw cs e sz W w.heap.size v l := fun o => (o.below fun k hk => (hW k (by have := (o.lt k hk).1; omega)).trans (k8 k (by have := (o.lt k hk).1; omega))).base (by omega)
    exact ⟨⟨hk ok7.own.bs, hk ok7.own.hs, hk ok7.own.maps, fun x hx => ⟨hk (ok7.own.each x hx).loc, hk (ok7.own.each x hx).stk⟩, ok7.own.same⟩, fit4 b1, b2, b3, ok7.st, ok7.lo, ok7.hs, fun x hx => ⟨⟨hk (ok7.mp x hx).own.loc, hk (ok7.mp x hx).own.stk⟩, (ok7.mp x hx).fit, (ok7.mp x hx).loc, (ok7.mp x hx).stk, (ok7.mp x hx).nl, (ok7.mp x hx).ns⟩, ok7.nb, ok7.nh, ok7.np⟩
  have q0 : w8.cell? ⟨w.heap.size, 0, none⟩ = some (.int .i64 0) := bx_cell r8 0 _ rfl
  have z0 := bx_thaw r8 0
  have d0 : w8.cell? ⟨w3.heap.size, 0, none⟩ = some (.int .i64 n1) := bx_cell l8 0 _ rfl
  have q1 : w8.cell? ⟨w.heap.size, 1, none⟩ = some (.string ⟨#[]⟩) := bx_cell r8 1 _ rfl
  have z1 := bx_thaw r8 1
  have d1 : w8.cell? ⟨w3.heap.size, 1, none⟩ = some (.string ⟨n2.toArray⟩) := bx_cell l8 1 _ rfl
  have q2 : w8.cell? ⟨w.heap.size, 2, none⟩ = some (.string ⟨#[]⟩) := bx_cell r8 2 _ rfl
  have z2 := bx_thaw r8 2
  have d2 : w8.cell? ⟨w3.heap.size, 2, none⟩ = some (.string ⟨n3.toArray⟩) := bx_cell l8 2 _ rfl
  have q3 : w8.cell? ⟨w.heap.size, 3, none⟩ = some (.int .i64 0) := bx_cell r8 3 _ rfl
  have z3 := bx_thaw r8 3
  have d3 : w8.cell? ⟨w3.heap.size, 3, none⟩ = some (.int .i64 c7.stack) := bx_cell l8 3 _ rfl
  have q4 : w8.cell? ⟨w.heap.size, 4, none⟩ = some (.int .i64 0) := bx_cell r8 4 _ rfl
  have z4 := bx_thaw r8 4
  have d4 : w8.cell? ⟨w3.heap.size, 4, none⟩ = some (.int .i64 c7.locals) := bx_cell l8 4 _ rfl
  have q5 : w8.cell? ⟨w.heap.size, 5, none⟩ = some (.slice none 0 0) := bx_cell r8 5 _ rfl
  have z5 := bx_thaw r8 5
  have d5 : w8.cell? ⟨w3.heap.size, 5, none⟩ = some (.slice ba bn bc) := bx_cell l8 5 _ rfl
  have q6 : w8.cell? ⟨w.heap.size, 6, none⟩ = some (.slice none 0 0) := bx_cell r8 6 _ rfl
  have z6 := bx_thaw r8 6
  have d6 : w8.cell? ⟨w3.heap.size, 6, none⟩ = some (.slice ha hn hc) := bx_cell l8 6 _ rfl
  have q7 : w8.cell? ⟨w.heap.size, 7, none⟩ = some (.slice none 0 0) := bx_cell r8 7 _ rfl
  have z7 := bx_thaw r8 7
  have d7 : w8.cell? ⟨w3.heap.size, 7, none⟩ = some (.slice pa pn pc) := bx_cell l8 7 _ rfl
  have HR := hide (And.intro R8 (And.intro F8 r8))
  clear H0 H1 H2 H3 H6 R0 F0 r0 T0 b1 g1 R1 f1 b2 g2 R2 f2 b3 g3 R3 f3 g6 R6 f36 l6 ok7 g7 R7 f7 f37 fall r7 l7 hlt s1 s2 s3 s6 hl67 R8 F8 k8 e8 hb6 l8 r8
  unfold Sl.v
  simp only
  go_wp2_with fail
  obtain ⟨R8, F8, r8⟩ := unhide HR
  have r9 := bx_whole [.int .i64 0, .string ⟨#[]⟩, .string ⟨#[]⟩, .int .i64 0, .int .i64 0, .slice none 0 0, .slice none 0 0, .slice none 0 0] [.int .i64 n1, .string ⟨n2.toArray⟩, .string ⟨n3.toArray⟩, .int .i64 c7.stack, .int .i64 c7.locals, .slice ba bn bc, .slice ha hn hc, .slice pa pn pc] r8 rfl
  refine bodyPost_ret (v := .agg #[.int .i64 n1, .string ⟨n2.toArray⟩, .string ⟨n3.toArray⟩, .int .i64 c7.stack, .int .i64 c7.locals, .slice ba bn bc, .slice ha hn hc, .slice pa pn pc]) ?_ rfl ⟨⟨⟨n1, n2, n3, c7⟩, ⟨ba, bn, bc⟩, ⟨ha, hn, hc⟩, ⟨pa, pn, pc⟩, mr⟩, j7, e7, rfl, unhide HM _ (fun k hk => heap_cells_other _ [.int .i64 n1, .string ⟨n2.toArray⟩, .string ⟨n3.toArray⟩, .int .i64 c7.stack, .int .i64 c7.locals, .slice ba bn bc, .slice ha hn hc, .slice pa pn pc] 0 _ _ hk), unhide HG, R8.cells r8 (by decide) 0 [.int .i64 n1, .string ⟨n2.toArray⟩, .string ⟨n3.toArray⟩, .int .i64 c7.stack, .int .i64 c7.locals, .slice ba bn bc, .slice ha hn hc, .slice pa pn pc], F8.cells (Nat.le_refl _) hB 0 [.int .i64 n1, .string ⟨n2.toArray⟩, .string ⟨n3.toArray⟩, .int .i64 c7.stack, .int .i64 c7.locals, .slice ba bn bc, .slice ha hn hc, .slice pa pn pc]⟩
  exact results_cell_row Tryz.results103 _ _ w.heap.size 49 _ (0, 0) _ rfl r9 Tryz.underlying49 rfl sizeMethod9
end Go.Proofs.YthhdfokcciibmaaGreatDoor

/- The landed class: its reader: the list of methods. -/
namespace Go.Proofs.YthhdfokcciibmaaGreatDoor
open Go.RowKit
set_option linter.unusedVariables false
set_option maxRecDepth 100000

def rlM_post (C : Cr) (i : Nat) (en : Bool) (w : World) (e : Ending) (w' : World) : Prop :=
  ∃ (s : Sl) (xs : List MdR) (i' : Nat) (en' : Bool), e = .returned s.v ∧ (Orw mdc 49 8 w' w.heap.size s.v xs ∧ (∀ x ∈ xs, (MdOk C.l) w' w.heap.size x) ∧ xs.length ≤ 4294967296) ∧ Got (listR (methodR C.l)) C.bs i en (xs.map MdR.m) i' en' ∧ Rd8 C i' en' w' ∧ FX C w w'
set_option maxHeartbeats 1600000 in
theorem rlM_any (C : Cr) (i : Nat) (en : Bool) (w : World) (h : Rd8 C i en w) (hT : Tab8 w) :
    Calls Tryz.prog 102 #[.pointer (some ⟨C.X, 0, none⟩), .func (.func 103) #[.pointer (some ⟨C.X, 0, none⟩)] #[]] w (rlM_post C i en w) := by
  have hB := h.hB
  have hB1 := h.one
  have HN := hide (rNumber_any C i en w h 2 (by omega))
  have HO : Hid (∀ j ej W, Rd8 C j ej W → Tab8 W → Calls Tryz.prog 103 #[.pointer (some ⟨C.X, 0, none⟩)] W fun e w' => ∃ (x : MdR) (i' : Nat) (en' : Bool), e = .returned (.agg (mdc x).toArray) ∧ (MdOk C.l) w' W.heap.size x ∧ Got (methodR C.l) C.bs j ej x.m i' en' ∧ Rd8 C i' en' w' ∧ FX C W w') := hide fun j ej W hW hTW => rMethod_any C j ej W hW hTW
  have KO : Hid (∀ (W W2 : World) (B : Nat) (x : MdR), (MdOk C.l) W B x → (∀ (k : Nat) (Z : Array Value) (T : TypeId), W.heap[k]? = some (.cells Z T (0, 0)) → T = 5 ∨ T = 93 ∨ T = 52 ∨ T = 143 → W2.heap[k]? = W.heap[k]?) → (MdOk C.l) W2 B x) := hide (fun W W2 B x hx f => hx.keep f)
  have HT := hide hT
  clear h hT
  go_enter Tryz.func102, Tryz.ntmps102
  go_wp2_with fail
  refine (unhide HN).mono ?_
  rintro e w1 ⟨n, i1, e1, rfl, hn, g1, R1, f1⟩
  obtain ⟨N, rfl⟩ : ∃ N : Nat, n = N := ⟨n.toNat, by omega⟩
  have HG := hide g1
  have H1 := hide (And.intro R1 f1)
  clear HN g1 R1 f1
  go_wp2
  go_loopw [6] (fun v wr => ∃ xs j ej, Orw mdc 49 8 wr w.heap.size v xs ∧ xs.length ≤ N ∧ (∀ x ∈ xs, (MdOk C.l) wr w.heap.size x) ∧ Mid (methodR C.l) C.bs N e1 (C.bs.drop i1) (xs.map MdR.m) j ej ∧ Rd8 C j ej wr ∧ FX C w wr) (fun v _ => N - slLen v)
  case atStart => exact ⟨[], i1, e1, Orw.nil _ _ _ _ _, Nat.zero_le _, (fun x hx => by cases hx), ⟨fun e => e, fun e vs r hr => ⟨e, vs, rfl, hr⟩⟩, (unhide H1).1, (unhide H1).2⟩
  case round =>
    obtain ⟨xs, j, ej, hO, hN, hE, hM, hR, hF⟩ := hrel
    obtain ⟨a, c, rfl, hf1, hf2, hf3⟩ := hO.form
    obtain ⟨ra, rc, rq, _⟩ := hR.pl
    have cX := bx_cell rq 2 _ rfl
    by_cases hlt : xs.length < N
    · have hlt1 : (xs.length : Int) < (N : Int) := by omega
      cases ej with
      | true =>
        have HD := hide (And.intro hO (And.intro hE (And.intro hM (And.intro hR hF))))
        clear hO hE hM hR hF rq hf1 hf2 hf3
        go_wp2
        go_ret
        obtain ⟨hO, hE, hM, hR, hF⟩ := unhide HD
        exact ⟨⟨a, xs.length, c⟩, xs, j, true, rfl, ⟨hO, hE, by omega⟩, Mid.done (unhide HG) rfl hM (.inr rfl), hR, hF⟩
      | false =>
        have HP := hide (unhide HO j false wr hR (hF.tab hB1 (unhide HT)))
        have HD := hide (And.intro hO (And.intro hE (And.intro hM (And.intro hR hF))))
        clear hO hE hM hR hF rq hf1 hf2 hf3
        go_wp2_with fail
        refine (unhide HP).mono ?_
        rintro e w2 ⟨x, j2, e2, rfl, ok2, g2, R2, f2⟩
        obtain ⟨hO, hE, hM, hR, hF⟩ := unhide HD
        clear HP cX HD
        have hsz := hF.size
        have O2 : Orw mdc 49 8 w2 w.heap.size (.slice a xs.length c) xs := hR.orw f2 hO (by decide) (by decide)
        have F2 := hF.trans f2
        have hE2 : ∀ x ∈ xs, (MdOk C.l) w2 w.heap.size x := fun x hx => unhide KO wr w2 w.heap.size x (hE x hx) fun k Z T hk hT => (hR.blk f2 hk (by rcases hT with rfl | rfl | rfl | rfl <;> decide) (by rcases hT with rfl | rfl | rfl | rfl <;> decide)).trans hk.symm
        have b3 : Below w2.heap.size w2 (w2.alloc (.cells #[.int .i64 x.m.acc, .string ⟨x.m.name.toArray⟩, .string ⟨x.m.type.toArray⟩, .int .i64 x.m.code.stack, .int .i64 x.m.code.locals, x.bs.v, x.hs.v, x.maps.v] 49)) := (Below.refl _ _).alloc (Nat.le_refl _) _
        have O3 : Orw mdc 49 8 (w2.alloc (.cells #[.int .i64 x.m.acc, .string ⟨x.m.name.toArray⟩, .string ⟨x.m.type.toArray⟩, .int .i64 x.m.code.stack, .int .i64 x.m.code.locals, x.bs.v, x.hs.v, x.maps.v] 49)) w.heap.size (.slice a xs.length c) xs := O2.below fun k hk => b3.block k (O2.lt k hk).2
        have l3 := ls_one (cs := mdc) (sz := 8) w2 #[.int .i64 x.m.acc, .string ⟨x.m.name.toArray⟩, .string ⟨x.m.type.toArray⟩, .int .i64 x.m.code.stack, .int .i64 x.m.code.locals, x.bs.v, x.hs.v, x.maps.v] 49 x rfl
        have R3 := R2.below b3
        have F3 := F2.on b3 hB
        have hM2 := hM.next (by simpa using hlt) g2
        have ok3 : ∀ y ∈ xs ++ [x], (MdOk C.l) (w2.alloc (.cells #[.int .i64 x.m.acc, .string ⟨x.m.name.toArray⟩, .string ⟨x.m.type.toArray⟩, .int .i64 x.m.code.stack, .int .i64 x.m.code.locals, x.bs.v, x.hs.v, x.maps.v] 49)) w.heap.size y := fun y hy => by
          rcases List.mem_append.1 hy with hy | hy
          · exact unhide KO w2 _ w.heap.size y (hE2 y hy) fun k Z T hk _ => b3.block k (lt_of_heap hk)
          · simp at hy
            subst hy
            exact unhide KO w2 _ w.heap.size y (ok2.base (Nat.le_trans hsz (Nat.le_refl _))) fun k Z T hk _ => b3.block k (lt_of_heap hk)
        have hln : (xs.length + 1) * 128 ≤ 140737488355328 := by omega
        have hln2 : xs.length + 1 ≤ 140737488355328 := by omega
        have hbs : w.heap.size ≤ (w2.alloc (.cells #[.int .i64 x.m.acc, .string ⟨x.m.name.toArray⟩, .string ⟨x.m.type.toArray⟩, .int .i64 x.m.code.stack, .int .i64 x.m.code.locals, x.bs.v, x.hs.v, x.maps.v] 49)).heap.size := F3.size
        have HO3 := hide O3
        have HL3 := hide l3
        have HLN := hide hln
        have HLN2 := hide hln2
        have HBS := hide hbs
        have HX := hide (And.intro R3 (And.intro F3 (And.intro ok3 hM2)))
        clear hO hE hM hR hF O2 F2 hE2 b3 O3 l3 R3 F3 hM2 ok3 ok2 g2 R2 f2 hln hln2 hbs
        unfold mdc Sl.v at *
        try simp only at *
        go_wp2_with (first
          | (at_builtin; refine listR_append rkM rfl _ _ rfl w.heap.size _ _ rfl (unhide HO3) _ 1 1 [_] rfl (unhide HL3) (fun e => by cases e) (unhide HLN) (unhide HLN2) (unhide HBS) ?_)
          | go_in)
        intro v' w4 o4 g4
        obtain ⟨R3, F3, ok3, hM2⟩ := unhide HX
        obtain ⟨a4, c4, hv4, _⟩ := o4.form
        have R4 := R3.grown (unhide HO3) g4 (by decide)
        have F4 := F3.grown hB (unhide HO3) g4
        have ok4 : ∀ y ∈ xs ++ [x], (MdOk C.l) w4 w.heap.size y := fun y hy => unhide KO _ w4 w.heap.size y (ok3 y hy) fun k Z T hk hT => grown_other g4 (lt_of_heap hk) fun e1 => by
          obtain ⟨Y, h1⟩ := orw_block (unhide HO3) e1
          rw [h1] at hk
          injection hk with hk
          injection hk with _ hk
          subst hk
          rcases hT with hT | hT | hT | hT <;> cases hT
        have HZ := hide (And.intro o4 (And.intro ok4 (And.intro R4 (And.intro F4 hM2))))
        have HV := hide hv4
        clear o4 ok4 R4 F4 R3 F3 ok3 hM2 g4 HX HO3 HL3 HLN HLN2 HBS hv4
        go_wp2
        go_roundw
        case rel =>
          obtain ⟨o4, ok4, R4, F4, hM2⟩ := unhide HZ
          exact ⟨_, j2, e2, o4, by simp; omega, ok4, by rw [List.map_append]; exact hM2, R4, F4⟩
        case measure =>
          rw [unhide HV]
          simp [slLen]
          omega
    · have hlt1 : ¬ (xs.length : Int) < (N : Int) := by omega
      have HD := hide (And.intro hO (And.intro hE (And.intro hM (And.intro hR hF))))
      clear hO hE hM hR hF rq hf1 hf2 hf3
      go_wp2
      go_ret
      obtain ⟨hO, hE, hM, hR, hF⟩ := unhide HD
      exact ⟨⟨a, xs.length, c⟩, xs, j, ej, rfl, ⟨hO, hE, by omega⟩, Mid.done (unhide HG) rfl hM (.inl (by simpa using hlt)), hR, hF⟩

end Go.Proofs.YthhdfokcciibmaaGreatDoor

/- The landed class: what its reader read, as a class that came in. -/
namespace Go.Proofs.YthhdfokcciibmaaGreatDoor
open Go.RowKit
set_option linter.unusedVariables false
set_option maxRecDepth 100000

theorem entsR_fit8 {bs : List UInt8} {n : Nat} (hn : bs.length ≤ 1000000) : ∀ (f : Nat) (l : List Ent) (i : Nat), EntsFit7 l → EntsFit7 (entsR bs n f l i).1
  | 0, l, i, h => h
  | f + 1, l, i, h => by
    rw [entsR]
    split
    · exact h
    · simp only
      split
      · exact h
      · exact entsR_fit8 hn f _ _ (h.more (entR_fit hn))
theorem readP_fit8 {bs : List UInt8} {i : Nat} (hn : bs.length ≤ 1000000) : EntsFit7 (readP bs i).1 := by
  have e0 : EntsFit7 [] := ⟨fun y hy => by simp at hy, fun y hy => by simp at hy⟩
  have e1 : EntsFit7 [ent0] := ⟨fun y hy => by simp at hy; subst hy; decide, fun y hy => by simp at hy; subst hy; exact fit0⟩
  unfold readP
  simp only
  repeat' split
  all_goals first | exact e0 | exact entsR_fit8 hn _ _ _ e1
theorem Txt8.fit {l : List Ent} {s : List UInt8} (h : Txt8 l s) (hl : EntsFit7 l) : fitS s := by
  unfold fitS
  rcases h with rfl | ⟨x, hx, rfl⟩
  · simp
  · exact hl.1 x hx
theorem MpOk.mpIn {l : List Ent} {w : World} {base : Nat} {r : MpR} (h : MpOk l w base r) (hl : EntsFit7 l) : MpIn w r :=
  ⟨h.fit, h.own.loc.lin rkT (by have := h.nl; omega) (fun t ht => ⟨(h.loc t ht).1, (h.loc t ht).2.fit hl⟩), h.own.stk.lin rkT (by have := h.ns; omega) (fun t ht => ⟨(h.stk t ht).1, (h.stk t ht).2.fit hl⟩)⟩
theorem MdOk.mdIn {l : List Ent} {w : World} {base : Nat} {r : MdR} (h : MdOk l w base r) (hl : EntsFit7 l) : MdIn w r := by
  obtain ⟨q1, q2⟩ := orw_arg h.own.bs
  exact ⟨h.acc, h.nm.fit hl, h.ty.fit hl, h.st, h.lo, q1, by have := h.nb; omega, h.own.hs.lin rkH (by have := h.nh; omega) h.hs, h.own.maps.lin rkP (by have := h.np; omega) (fun x hx => (h.mp x hx).mpIn hl), h.own.same⟩
theorem PB.keep {w w' : World} {a : Option Addr} {c : Nat} {l : List Ent} (h : PB w a c l) (f : ∀ (k : Nat) (Z : Array Value), w.heap[k]? = some (.cells Z 55 (0, 0)) → w'.heap[k]? = w.heap[k]?) : PB w' a c l := by
  rcases h with h | ⟨q, e1, e2, h⟩
  · exact .inl h
  · exact .inr ⟨q, e1, e2, (f _ _ h).trans h⟩
theorem PB.ein {w : World} {a : Option Addr} {c : Nat} {l : List Ent} (h : PB w a c l) (hl : EntsFit7 l) (hn : l.length ≤ 1024) : EIn w a l.length c l := by
  refine ⟨⟨⟨rfl, ?_⟩, ?_, ?_, ?_⟩, by omega, hl⟩
  · rcases h with ⟨_, _, h⟩ | ⟨q, e1, e2, h⟩
    · exact .inl (by rw [h]; rfl)
    · exact .inr ⟨q, 0, e1, es_of_block h⟩
  · rcases h with ⟨_, h1, h⟩ | ⟨q, e1, e2, h⟩
    · rw [h]; simp
    · omega
  · rcases h with ⟨_, h1, h⟩ | ⟨q, e1, e2, h⟩
    · omega
    · omega
  · intro e
    rcases h with ⟨_, h1, h⟩ | ⟨q, e1, e2, h⟩
    · exact ⟨by rw [h]; rfl, h1⟩
    · rw [e1] at e
      cases e
/-- The class while it is read: its local L, the answer's place R. -/
structure KS (C : Cr) (w : World) (R L : Nat) (j : Nat) (e : Bool) (Z : Array Value) (W : World) : Prop where
  rd : Rd8 C j e W
  fx : FX C w W
  lb : W.heap[L]? = some (.cells Z 26 (0, 0))
  rb : W.heap[R]? = some (.cells #[.slice none 0 0, .string ⟨#[]⟩, .string ⟨#[]⟩, .slice none 0 0, .slice none 0 0] 26 (0, 0))
theorem KS.call {C : Cr} {w : World} {R L j j' : Nat} {e e' : Bool} {Z : Array Value} {W W' : World} (h : KS C w R L j e Z W) (r : Rd8 C j' e' W') (f : FX C W W') : KS C w R L j' e' Z W' :=
  ⟨r, h.fx.trans f, h.rd.blk f h.lb (by decide) (by decide), h.rd.blk f h.rb (by decide) (by decide)⟩
theorem KS.on {C : Cr} {w : World} {R L j : Nat} {e : Bool} {Z : Array Value} {W W' : World} (h : KS C w R L j e Z W) (hB : C.B ≤ w.heap.size) (f : Below W.heap.size W W') : KS C w R L j e Z W' :=
  ⟨h.rd.below f, h.fx.on f hB, (f.block _ (lt_of_heap h.lb)).trans h.lb, (f.block _ (lt_of_heap h.rb)).trans h.rb⟩
theorem KS.set {C : Cr} {w : World} {R L j : Nat} {e : Bool} {Z : Array Value} {W : World} (h : KS C w R L j e Z W) (hB : C.B ≤ w.heap.size) (hL : w.heap.size ≤ L) (hne : R ≠ L) (o : Nat) (v : Value) : KS C w R L j e (Z.setIfInBounds o v) (W.setCell ⟨L, o, none⟩ v) :=
  ⟨h.rd.set h.lb (by decide) o v, h.fx.cells hL hB o [v], heap_setCell_same W L o _ _ v h.lb, (Below.heap_setCell _ _ _ _ hne).trans h.rb⟩
/-- Rows of other types stay. -/
theorem KS.other {C : Cr} {w : World} {R L j : Nat} {e : Bool} {Z : Array Value} {W : World} (h : KS C w R L j e Z W) (o : Nat) (v : Value) (k : Nat) (Y : Array Value) (T : TypeId) (hk : W.heap[k]? = some (.cells Y T (0, 0))) (hT : T ≠ 26) : (W.setCell ⟨L, o, none⟩ v).heap[k]? = W.heap[k]? := Below.heap_setCell _ _ _ _ fun e1 => by
  simp only at e1
  subst e1
  rw [h.lb] at hk
  injection hk with hk
  injection hk with _ hk
  exact hT hk.symm
theorem passR_422 {bs : List UInt8} (h : 8 ≤ bs.length) : passR [4, 2, 2] bs = some ((), bs.drop 8) := by
  have h1 : ∀ k (s : List UInt8), k ≤ s.length → ∃ n, uR k s = some (n, s.drop k) := fun k s hk => ⟨_, by unfold uR; rw [if_pos hk]⟩
  obtain ⟨a, ha⟩ := h1 4 bs (by omega)
  obtain ⟨b, hb⟩ := h1 2 (bs.drop 4) (by rw [List.length_drop]; omega)
  obtain ⟨c, hc⟩ := h1 2 ((bs.drop 4).drop 2) (by rw [List.length_drop, List.length_drop]; omega)
  show (uR 4 bs).bind _ = _
  rw [ha, Option.bind_some]
  show (uR 2 (bs.drop 4)).bind _ = _
  rw [hb, Option.bind_some]
  show (uR 2 ((bs.drop 4).drop 2)).bind _ = _
  rw [hc, Option.bind_some]
  simp [passR, List.drop_drop]
theorem drop_at {bs : List UInt8} {i j : Nat} (hi : i ≤ bs.length) (hj : j ≤ bs.length) (h : bs.drop i = bs.drop j) : i = j := by
  have := congrArg List.length h
  rw [List.length_drop, List.length_drop] at this
  omega
theorem restR_by (l : List Ent) (s : List UInt8) : restR l s = (uR 2 s).bind fun a => (nameR l a.2).bind fun nm => (superR l nm.2).bind fun sp => (uR 2 sp.2).bind fun z => (listR (fieldR l) z.2).bind fun f => (listR (methodR l) f.2).bind fun ms => some (⟨l, nm.1, sp.1, f.1, ms.1⟩, ms.2) := by
  unfold restR nameR superR listR
  simp only [Option.bind_assoc, fieldsR_many, methodsR_many, Option.bind_some]
/-- All but classes stays. -/
def KeepC (w W : World) : Prop := ∀ (k : Nat) (Z : Array Value) (T : TypeId), w.heap[k]? = some (.cells Z T (0, 0)) → T ≠ 26 → W.heap[k]? = w.heap[k]?
theorem KeepC.refl (w : World) : KeepC w w := fun _ _ _ _ _ => rfl
theorem KeepC.of_below {w W : World} (f : Below w.heap.size w W) : KeepC w W := fun k _ _ hk _ => f.block k (lt_of_heap hk)
theorem KeepC.trans {w W W' : World} (f : KeepC w W) (g : KeepC W W') : KeepC w W' := fun k Z T hk hT => (g k Z T ((f k Z T hk hT).trans hk) hT).trans (f k Z T hk hT)
theorem KeepC.cells {w W : World} (f : KeepC w W) {R : Nat} {Z : Array Value} (hR : W.heap[R]? = some (.cells Z 26 (0, 0))) (o : Nat) (vs : List Value) : KeepC w (W.setCells R o vs) := f.trans fun k Y T hk hT => heap_cells_other _ _ _ _ _ fun e => by
  subst e
  rw [hR] at hk
  injection hk with hk
  injection hk with _ hk
  exact hT hk.symm
def class_post (X x B : Nat) (bs : List UInt8) (w : World) (e : Ending) (w' : World) : Prop :=
  ∃ (r : ClR) (l : List Ent) (i' : Nat) (en' : Bool), e = .returned r.v ∧ (en' = false → ∀ W, KeepC w' W → CIn W r) ∧ (∀ c0, readK bs = some c0 → r.c = c0 ∧ en' = false) ∧ Rd8 ⟨X, x, B, bs, l⟩ i' en' w' ∧ FX ⟨X, x, B, bs, l⟩ w w'
end Go.Proofs.YthhdfokcciibmaaGreatDoor

/- The landed class: its reader: class. -/
namespace Go.Proofs.YthhdfokcciibmaaGreatDoor
open Go.RowKit
set_option linter.unusedVariables false
set_option maxRecDepth 100000

theorem sizeClass9 : (Tryz.prog.info? 26).map (·.size) = some 5 := by kernel_rfl
set_option maxHeartbeats 1600000 in
theorem rClass_any (X x B : Nat) (bs : List UInt8) (w : World) (h : Rd8 ⟨X, x, B, bs, []⟩ 0 false w) (hT : Tab8 w) :
    Calls Tryz.prog 73 #[.pointer (some ⟨X, 0, none⟩)] w (class_post X x B bs w) := by
  have hB : B ≤ w.heap.size := h.hB
  have hB1 : 1 ≤ B := h.one
  have hlen : bs.length ≤ 1000000 := h.len
  obtain ⟨w0, e0, f0, r0⟩ : ∃ w0, w.alloc (.cells #[.slice none 0 0, .string ⟨#[]⟩, .string ⟨#[]⟩, .slice none 0 0, .slice none 0 0] 26) = w0 ∧ Below w.heap.size w w0 ∧ w0.heap[w.heap.size]? = some (.cells #[.slice none 0 0, .string ⟨#[]⟩, .string ⟨#[]⟩, .slice none 0 0, .slice none 0 0] 26 (0, 0)) := ⟨_, rfl, (Below.refl _ _).alloc (Nat.le_refl _) _, heap_alloc_new w _⟩
  have R0 := h.below f0
  have F0 : FX ⟨X, x, B, bs, []⟩ w w0 := (FX.refl _ w).on f0 hB
  have ba : Below w0.heap.size w0 (w0.alloc (.cells #[.int .i64 4, .int .i64 2, .int .i64 2] 3)) := (Below.refl _ _).alloc (Nat.le_refl _) _
  have HN := hide (rPass_any ⟨X, x, B, bs, []⟩ 0 false _ (R0.below ba) [4, 2, 2] (by simp) w0.heap.size 3 3 rfl (by omega) (heap_alloc_new w0 _))
  have HTW := hide hT
  have H0 := hide (And.intro R0 (And.intro F0 (And.intro r0 (And.intro (hT.below f0) ((FX.refl _ w0).on ba R0.hB)))))
  have hmf : ∀ (fn : Fn) (first cap : Array Value) (w : World), (Instr.makeFunc fn first cap).run Tryz.prog w = .ok (.func fn first cap) w := fun _ _ _ _ => rfl
  clear h f0 r0 R0 F0 hT ba
  go_enter Tryz.func73, Tryz.ntmps73
  go_wp2_with fail
  refine (unhide HN).mono ?_
  rintro e w1 ⟨j1, e1, rfl, g1, R1, f1⟩
  clear HN e0
  obtain ⟨R0, F0, r0, T0, Fa⟩ := unhide H0
  have HN := hide (rPool_any ⟨X, x, B, bs, []⟩ rfl j1 e1 w1 R1)
  have H1 := hide (And.intro g1 (And.intro R1 (Fa.trans f1)))
  clear g1 R1 f1 R0 F0 r0 T0 Fa
  go_wp2_with fail
  refine (unhide HN).mono ?_
  rintro e w2 ⟨j2, e2, l, rfl, m2, m3, m4, R2, f2⟩
  clear HN
  obtain ⟨R0, F0, r0, T0, Fa⟩ := unhide H0
  obtain ⟨g1, R1, fa1⟩ := unhide H1
  have f02 := fa1.trans f2
  have r2 := R0.blk f02 r0 (by decide) (by decide)
  have T2 := f02.tab hB1 T0
  have F2 := F0.trans f02
  obtain ⟨pa, pc, q2, pb2⟩ := R2.pl
  have c1 : w2.cell? ⟨X, 1, none⟩ = some (.slice pa l.length pc) := bx_cell q2 1 _ rfl
  have HP := hide (And.intro g1 (And.intro R1.hi (And.intro m2 (And.intro m3 m4))))
  have H2 := hide (And.intro R2 (And.intro F2 (And.intro r2 (And.intro T2 pb2))))
  clear R0 F0 r0 T0 Fa g1 R1 fa1 m2 m3 m4 R2 f2 f02 r2 T2 F2 q2 pb2 H1 H0
  go_wp2_with fail
  clear c1
  obtain ⟨R2, F2, r2, T2, pb2⟩ := unhide H2
  obtain ⟨w3, e3, b3, l3, s3⟩ : ∃ w3, w2.alloc (.cells #[.slice pa l.length pc, .string ⟨#[]⟩, .string ⟨#[]⟩, .slice none 0 0, .slice none 0 0] 26) = w3 ∧ Below w2.heap.size w2 w3 ∧ w3.heap[w2.heap.size]? = some (.cells #[.slice pa l.length pc, .string ⟨#[]⟩, .string ⟨#[]⟩, .slice none 0 0, .slice none 0 0] 26 (0, 0)) ∧ w3.heap.size = w2.heap.size + 1 := ⟨_, rfl, (Below.refl _ _).alloc (Nat.le_refl _) _, heap_alloc_new w2 _, by simp⟩
  rw [e3]
  have hne : w.heap.size ≠ w2.heap.size := by have := lt_of_heap r2; omega
  have hL : w.heap.size ≤ w2.heap.size := Nat.le_of_lt (lt_of_heap r2)
  obtain ⟨C, hC⟩ : ∃ C : Cr, C = ⟨X, x, B, bs, l⟩ := ⟨_, rfl⟩
  have hCB : C.B ≤ w.heap.size := by rw [hC]; exact hB
  have hCB1 : 1 ≤ C.B := by rw [hC]; exact hB1
  have R2' : Rd8 C j2 e2 w2 := by rw [hC]; exact R2
  have F2' : FX C w w2 := by rw [hC]; exact F2
  have HC := hide hC
  have HCX : Hid (C.X = X) := hide (by rw [hC])
  clear hC
  have K3 : KS C w w.heap.size w2.heap.size j2 e2 #[.slice pa l.length pc, .string ⟨#[]⟩, .string ⟨#[]⟩, .slice none 0 0, .slice none 0 0] w3 := ⟨R2'.below b3, F2'.on b3 hCB, l3, (b3.block _ (lt_of_heap r2)).trans r2⟩
  have T3 := T2.below b3
  have P3 : PB w3 pa pc l := pb2.keep fun k Z hk => b3.block k (lt_of_heap hk)
  have b4 : Below w3.heap.size w3 (w3.alloc (.cells #[.int .i64 2] 3)) := (Below.refl _ _).alloc (Nat.le_refl _) _
  have K4 := K3.on hCB b4
  have P4 : PB (w3.alloc (.cells #[.int .i64 2] 3)) pa pc l := P3.keep fun k Z hk => b4.block k (lt_of_heap hk)
  have T4 := T3.below b4
  have i4 : (w3.alloc (.cells #[.int .i64 2] 3)).heap[w2.heap.size + 1]? = some (.cells #[.int .i64 2] 3 (0, 0)) := by
    rw [← s3]
    exact heap_alloc_new w3 _
  have HN := hide (rPass_any C j2 e2 _ K4.rd [2] (by simp) (w2.heap.size + 1) 1 1 rfl (by omega) i4)
  rw [unhide HCX] at HN
  have H4 := hide (And.intro K4 (And.intro T4 P4))
  clear R2 F2 r2 T2 pb2 b3 l3 R2' F2' K3 T3 P3 b4 K4 T4 P4 i4 e3 H2
  refine (unhide HN).mono ?_
  rintro e w5 ⟨j5, e5, rfl, g5, R5, f5⟩
  clear HN
  obtain ⟨K4, T4, P4⟩ := unhide H4
  have K5 := K4.call R5 f5
  have T5 := f5.tab hCB1 T4
  have P5 : PB w5 pa pc l := P4.keep fun k Z hk => (K4.rd.blk f5 hk (by decide) (by decide)).trans hk.symm
  have HN := hide (rName_any C j5 e5 w5 R5)
  rw [unhide HCX] at HN
  have H5 := hide (And.intro g5 (And.intro K5 (And.intro T5 P5)))
  clear K4 T4 P4 g5 R5 f5 K5 T5 P5 H4
  go_wp2_with fail
  refine (unhide HN).mono ?_
  rintro e w6 ⟨nm, j6, e6, rfl, t6, g6, _, R6, f6⟩
  clear HN
  obtain ⟨g5, K5, T5, P5⟩ := unhide H5
  have K6 := K5.call R6 f6
  have T6 := f6.tab hCB1 T5
  have P6 : PB w6 pa pc l := P5.keep fun k Z hk => (K5.rd.blk f6 hk (by decide) (by decide)).trans hk.symm
  obtain ⟨w7, e7⟩ : ∃ w7, w6.setCell ⟨w2.heap.size, 1, none⟩ (.string ⟨nm.toArray⟩) = w7 := ⟨_, rfl⟩
  have K7 : KS C w w.heap.size w2.heap.size j6 e6 #[.slice pa l.length pc, .string ⟨nm.toArray⟩, .string ⟨#[]⟩, .slice none 0 0, .slice none 0 0] w7 := by rw [← e7]; exact K6.set hCB hL hne 1 _
  have P7 : PB w7 pa pc l := by rw [← e7]; exact P6.keep fun k Z hk => K6.other 1 _ k Z _ hk (by decide)
  have T7 : Tab8 w7 := K7.fx.tab hCB1 (unhide HTW)
  have y0 : w6.cell? ⟨w2.heap.size, 1, none⟩ = some (.string ⟨#[]⟩) := bx_cell K6.lb 1 _ rfl
  have y1 := bx_thaw K6.lb 1
  have HN := hide (rName_any C j6 e6 w7 K7.rd)
  rw [unhide HCX] at HN
  have H7 := hide (And.intro g5 (And.intro t6 (And.intro g6 (And.intro K7 (And.intro T7 P7)))))
  clear g5 K5 T5 P5 t6 g6 R6 f6 K6 T6 P6 K7 P7 T7 H5
  go_wp2_with fail
  refine (unhide HN).mono ?_
  rintro e w8 ⟨sp, j8, e8, rfl, t8, _, g8, R8, f8⟩
  clear HN y0 y1 e7
  obtain ⟨g5, t6, g6, K7, T7, P7⟩ := unhide H7
  have K8 := K7.call R8 f8
  have P8 : PB w8 pa pc l := P7.keep fun k Z hk => (K7.rd.blk f8 hk (by decide) (by decide)).trans hk.symm
  obtain ⟨w9, e9⟩ : ∃ w9, w8.setCell ⟨w2.heap.size, 2, none⟩ (.string ⟨sp.toArray⟩) = w9 := ⟨_, rfl⟩
  have K9 : KS C w w.heap.size w2.heap.size j8 e8 #[.slice pa l.length pc, .string ⟨nm.toArray⟩, .string ⟨sp.toArray⟩, .slice none 0 0, .slice none 0 0] w9 := by rw [← e9]; exact K8.set hCB hL hne 2 _
  have P9 : PB w9 pa pc l := by rw [← e9]; exact P8.keep fun k Z hk => K8.other 2 _ k Z _ hk (by decide)
  have ba : Below w9.heap.size w9 (w9.alloc (.cells #[.int .i64 2] 3)) := (Below.refl _ _).alloc (Nat.le_refl _) _
  have Ka := K9.on hCB ba
  have Pa : PB (w9.alloc (.cells #[.int .i64 2] 3)) pa pc l := P9.keep fun k Z hk => ba.block k (lt_of_heap hk)
  have HN := hide (rPass_any C j8 e8 _ Ka.rd [2] (by simp) w9.heap.size 1 1 rfl (by omega) (heap_alloc_new w9 _))
  rw [unhide HCX] at HN
  have y0 : w8.cell? ⟨w2.heap.size, 2, none⟩ = some (.string ⟨#[]⟩) := bx_cell K8.lb 2 _ rfl
  have y1 := bx_thaw K8.lb 2
  have H9 := hide (And.intro g5 (And.intro t6 (And.intro g6 (And.intro t8 (And.intro g8 (And.intro Ka Pa))))))
  clear g5 t6 g6 K7 T7 P7 K8 P8 K9 P9 ba Ka Pa t8 g8 R8 f8 H7
  go_wp2_with fail
  refine (unhide HN).mono ?_
  rintro e wb ⟨jb, eb, rfl, gb, Rb, fb⟩
  clear HN y0 y1 e9
  obtain ⟨g5, t6, g6, t8, g8, Ka, Pa⟩ := unhide H9
  have Kb := Ka.call Rb fb
  have Pb : PB wb pa pc l := Pa.keep fun k Z hk => (Ka.rd.blk fb hk (by decide) (by decide)).trans hk.symm
  have HN := hide (rlF_any C jb eb wb Rb (Kb.fx.tab hCB1 (unhide HTW)))
  rw [unhide HCX] at HN
  have Hb := hide (And.intro g5 (And.intro t6 (And.intro g6 (And.intro t8 (And.intro g8 (And.intro gb (And.intro Kb Pb)))))))
  clear g5 t6 g6 t8 g8 Ka Pa gb Rb fb Kb Pb H9
  go_wp2_with fail
  refine (unhide HN).mono ?_
  rintro e wc ⟨⟨fa, fn, fc⟩, fs, jc, ec_, rfl, ⟨oc, kc, nc⟩, gc, Rc, fc'⟩
  clear HN
  obtain ⟨g5, t6, g6, t8, g8, gb, Kb, Pb⟩ := unhide Hb
  have Kc := Kb.call Rc fc'
  have Pc : PB wc pa pc l := Pb.keep fun k Z hk => (Kb.rd.blk fc' hk (by decide) (by decide)).trans hk.symm
  obtain ⟨wd, ed⟩ : ∃ wd, wc.setCell ⟨w2.heap.size, 3, none⟩ (.slice fa fn fc) = wd := ⟨_, rfl⟩
  have Kd : KS C w w.heap.size w2.heap.size jc ec_ #[.slice pa l.length pc, .string ⟨nm.toArray⟩, .string ⟨sp.toArray⟩, .slice fa fn fc, .slice none 0 0] wd := by rw [← ed]; exact Kc.set hCB hL hne 3 _
  have Pd : PB wd pa pc l := by rw [← ed]; exact Pc.keep fun k Z hk => Kc.other 3 _ k Z _ hk (by decide)
  have Od : Orw fdc 58 3 wd 0 (.slice fa fn fc) fs := by rw [← ed]; exact (Orw.base oc (Nat.zero_le _)).keep fun k Z _ hk => Kc.other 3 _ k Z _ hk (by decide)
  have y0 : wc.cell? ⟨w2.heap.size, 3, none⟩ = some (.slice none 0 0) := bx_cell Kc.lb 3 _ rfl
  have y1 := bx_thaw Kc.lb 3
  have HN := hide (rlM_any C jc ec_ wd Kd.rd (Kd.fx.tab hCB1 (unhide HTW)))
  rw [unhide HCX] at HN
  have Hd := hide (And.intro g5 (And.intro t6 (And.intro g6 (And.intro t8 (And.intro g8 (And.intro gb (And.intro kc (And.intro nc (And.intro gc (And.intro Kd (And.intro Pd Od)))))))))))
  clear g5 t6 g6 t8 g8 gb Kb Pb oc kc nc gc Rc fc' Kc Pc Kd Pd Od Hb
  unfold Sl.v
  simp only
  go_wp2_with fail
  refine (unhide HN).mono ?_
  rintro e we ⟨⟨ma, mn, mc⟩, mr, je, ee, rfl, ⟨oe, ke, ne⟩, ge, Re, fe⟩
  clear HN y0 y1 ed
  obtain ⟨g5, t6, g6, t8, g8, gb, kc, nc, gc, Kd, Pd, Od⟩ := unhide Hd
  have Ke := Kd.call Re fe
  have Pe : PB we pa pc l := Pd.keep fun k Z hk => (Kd.rd.blk fe hk (by decide) (by decide)).trans hk.symm
  have Oe : Orw fdc 58 3 we 0 (.slice fa fn fc) fs := Kd.rd.orw fe Od (by decide) (by decide)
  obtain ⟨wf, ef⟩ : ∃ wf, we.setCell ⟨w2.heap.size, 4, none⟩ (.slice ma mn mc) = wf := ⟨_, rfl⟩
  have Kf : KS C w w.heap.size w2.heap.size je ee #[.slice pa l.length pc, .string ⟨nm.toArray⟩, .string ⟨sp.toArray⟩, .slice fa fn fc, .slice ma mn mc] wf := by rw [← ef]; exact Ke.set hCB hL hne 4 _
  have ho : ∀ (k : Nat) (Z : Array Value) (T : TypeId), we.heap[k]? = some (.cells Z T (0, 0)) → T ≠ 26 → wf.heap[k]? = we.heap[k]? := fun k Z T hk hT => by rw [← ef]; exact Ke.other 4 _ k Z T hk hT
  have Pf : PB wf pa pc l := Pe.keep fun k Z hk => ho k Z _ hk (by decide)
  have Of : Orw fdc 58 3 wf 0 (.slice fa fn fc) fs := Oe.keep fun k Z _ hk => ho k Z _ hk (by decide)
  have Mf : Orw mdc 49 8 wf 0 (.slice ma mn mc) mr := (Orw.base oe (Nat.zero_le _)).keep fun k Z _ hk => ho k Z _ hk (by decide)
  have Df : ∀ x ∈ mr, MdOk C.l wf 0 x := fun x hx => ((ke x hx).base (Nat.zero_le _)).keep fun k Z T hk hT => ho k Z T hk (by rcases hT with rfl | rfl | rfl | rfl <;> decide)
  have y0 : we.cell? ⟨w2.heap.size, 4, none⟩ = some (.slice none 0 0) := bx_cell Ke.lb 4 _ rfl
  have y1 := bx_thaw Ke.lb 4
  have q0 : wf.cell? ⟨w.heap.size, 0, none⟩ = some (.slice none 0 0) := bx_cell Kf.rb 0 _ rfl
  have z0 := bx_thaw Kf.rb 0
  have d0 : wf.cell? ⟨w2.heap.size, 0, none⟩ = some (.slice pa l.length pc) := bx_cell Kf.lb 0 _ rfl
  have q1 : wf.cell? ⟨w.heap.size, 1, none⟩ = some (.string ⟨#[]⟩) := bx_cell Kf.rb 1 _ rfl
  have z1 := bx_thaw Kf.rb 1
  have d1 : wf.cell? ⟨w2.heap.size, 1, none⟩ = some (.string ⟨nm.toArray⟩) := bx_cell Kf.lb 1 _ rfl
  have q2 : wf.cell? ⟨w.heap.size, 2, none⟩ = some (.string ⟨#[]⟩) := bx_cell Kf.rb 2 _ rfl
  have z2 := bx_thaw Kf.rb 2
  have d2 : wf.cell? ⟨w2.heap.size, 2, none⟩ = some (.string ⟨sp.toArray⟩) := bx_cell Kf.lb 2 _ rfl
  have q3 : wf.cell? ⟨w.heap.size, 3, none⟩ = some (.slice none 0 0) := bx_cell Kf.rb 3 _ rfl
  have z3 := bx_thaw Kf.rb 3
  have d3 : wf.cell? ⟨w2.heap.size, 3, none⟩ = some (.slice fa fn fc) := bx_cell Kf.lb 3 _ rfl
  have q4 : wf.cell? ⟨w.heap.size, 4, none⟩ = some (.slice none 0 0) := bx_cell Kf.rb 4 _ rfl
  have z4 := bx_thaw Kf.rb 4
  have d4 : wf.cell? ⟨w2.heap.size, 4, none⟩ = some (.slice ma mn mc) := bx_cell Kf.lb 4 _ rfl
  have Hf := hide (And.intro g5 (And.intro t6 (And.intro g6 (And.intro t8 (And.intro g8 (And.intro gb (And.intro kc (And.intro nc (And.intro gc (And.intro ge (And.intro ne (And.intro Kf (And.intro Pf (And.intro Of (And.intro Mf Df)))))))))))))))
  clear g5 t6 g6 t8 g8 gb kc nc gc Kd Pd Od oe ke ne ge Re fe Ke Pe Oe Kf ho Pf Of Mf Df Hd
  unfold Sl.v
  simp only
  go_wp2_with fail
  obtain ⟨g5, t6, g6, t8, g8, gb, kc, nc, gc, ge, ne, Kf, Pf, Of, Mf, Df⟩ := unhide Hf
  obtain ⟨g1, hj1, m2, m3, m4⟩ := unhide HP
  have hC := unhide HC
  subst hC
  simp only at g5 g6 g8 gb gc ge t6 t8 kc Df g1
  have rg := bx_whole [.slice none 0 0, .string ⟨#[]⟩, .string ⟨#[]⟩, .slice none 0 0, .slice none 0 0] [.slice pa l.length pc, .string ⟨nm.toArray⟩, .string ⟨sp.toArray⟩, .slice fa fn fc, .slice ma mn mc] Kf.rb rfl
  have ho : ∀ (k : Nat) (Z : Array Value) (T : TypeId), wf.heap[k]? = some (.cells Z T (0, 0)) → T ≠ 26 → (wf.setCells w.heap.size 0 [.slice pa l.length pc, .string ⟨nm.toArray⟩, .string ⟨sp.toArray⟩, .slice fa fn fc, .slice ma mn mc]).heap[k]? = wf.heap[k]? := fun k Z T hk hT => heap_cells_other _ _ _ _ _ fun e => by
    subst e
    have := Kf.rb
    rw [this] at hk
    injection hk with hk
    injection hk with _ hk
    exact hT hk.symm
  have hback : ee = false → e2 = false := fun h => by
    have h1 : ec_ = false := by cases hh : ec_ with | false => rfl | true => rw [ge.1 hh] at h; cases h
    have h2 : eb = false := by cases hh : eb with | false => rfl | true => rw [gc.1 hh] at h1; cases h1
    have h3 : e8 = false := by cases hh : e8 with | false => rfl | true => rw [gb.1 hh] at h2; cases h2
    have h4 : e6 = false := by cases hh : e6 with | false => rfl | true => rw [g8.1 hh] at h3; cases h3
    have h5 : e5 = false := by cases hh : e5 with | false => rfl | true => rw [g6.1 hh] at h4; cases h4
    cases hh : e2 with | false => rfl | true => rw [g5.1 hh] at h5; cases h5
  have hfit : ee = false → EntsFit7 l := fun h => by
    have h2 := hback h
    have h1 : e1 = false := by cases hh : e1 with | false => rfl | true => rw [m2 hh] at h2; cases h2
    rw [(m3 h1 (m4 h2)).1]
    exact readP_fit8 hlen
  refine bodyPost_ret (v := .agg #[.slice pa l.length pc, .string ⟨nm.toArray⟩, .string ⟨sp.toArray⟩, .slice fa fn fc, .slice ma mn mc]) ?_ rfl ⟨⟨⟨l, nm, sp, fs, mr.map MdR.m⟩, ⟨pa, l.length, pc⟩, ⟨fa, fn, fc⟩, ⟨ma, mn, mc⟩, mr⟩, l, je, ee, rfl, fun h Wz hWz => ?_, fun c0 hc0 => ?_, Kf.rd.cells Kf.rb (by decide) 0 [.slice pa l.length pc, .string ⟨nm.toArray⟩, .string ⟨sp.toArray⟩, .slice fa fn fc, .slice ma mn mc], Kf.fx.cells (Nat.le_refl _) hB 0 [.slice pa l.length pc, .string ⟨nm.toArray⟩, .string ⟨sp.toArray⟩, .slice fa fn fc, .slice ma mn mc]⟩
  · exact results_cell_row Tryz.results73 _ _ w.heap.size 26 _ (0, 0) _ rfl rg Tryz.underlying26 rfl sizeClass9
  · have hl := hfit h
    have hfew : l.length ≤ 1024 := Kf.rd.few
    have hoz : ∀ (k : Nat) (Z : Array Value) (T : TypeId), wf.heap[k]? = some (.cells Z T (0, 0)) → T ≠ 26 → Wz.heap[k]? = wf.heap[k]? := fun k Z T hk hT => (hWz k Z T ((ho k Z T hk hT).trans hk) hT).trans (ho k Z T hk hT)
    have Og : Orw fdc 58 3 Wz 0 (.slice fa fn fc) fs := Of.keep fun k Z _ hk => hoz k Z _ hk (by decide)
    have Mg : Orw mdc 49 8 Wz 0 (.slice ma mn mc) mr := Mf.keep fun k Z _ hk => hoz k Z _ hk (by decide)
    have Dg : ∀ x ∈ mr, MdOk l Wz 0 x := fun x hx => (Df x hx).keep fun k Z T hk hT => hoz k Z T hk (by rcases hT with rfl | rfl | rfl | rfl <;> decide)
    have Pg : PB Wz pa pc l := Pf.keep fun k Z hk => hoz k Z _ hk (by decide)
    exact ⟨Pg.ein hl hfew, Txt8.fit t6 hl, Txt8.fit t8 hl, Orw.lin (s := ⟨fa, fn, fc⟩) rkF Og (by show fs.length * 40 ≤ _; omega) (fun y hy => ⟨(kc y hy).1, (kc y hy).2.1.fit hl, (kc y hy).2.2.fit hl⟩), Orw.lin (s := ⟨ma, mn, mc⟩) rkM Mg (by show mr.length * 128 ≤ _; omega) (fun y hy => (Dg y hy).mdIn hl), rfl⟩
  · unfold readK at hc0
    split at hc0
    · cases hc0
    · rename_i h8
      split at hc0
      · cases hc0
      · rename_i hp
        obtain ⟨_, k1, d1⟩ := g1.2 rfl () (bs.drop 8) (by rw [List.drop_zero]; exact passR_422 (by omega))
        have hj : j1 = 8 := drop_at hj1 (by omega) d1
        subst hj
        obtain ⟨h1, h2, h3⟩ := m3 k1 (by simpa using hp)
        rw [← h1, ← h3] at hc0
        obtain ⟨⟨c1, r1⟩, hr, hc1⟩ := Option.map_eq_some_iff.1 hc0
        simp only at hc1
        subst hc1
        rw [restR_by] at hr
        obtain ⟨⟨m, s⟩, ha, hr⟩ := Option.bind_eq_some_iff.1 hr
        obtain ⟨_, k5, d5⟩ := g5.2 h2 () s (by show (uR 2 _).bind _ = _; rw [ha]; rfl)
        simp only at hr
        rw [← d5] at hr
        obtain ⟨k6, hr⟩ := got_bind g6 k5 hr
        obtain ⟨k8, hr⟩ := got_bind g8 k6 hr
        obtain ⟨⟨m', s'⟩, ha', hr⟩ := Option.bind_eq_some_iff.1 hr
        obtain ⟨_, kb, db⟩ := gb.2 k8 () s' (by show (uR 2 _).bind _ = _; simp only at ha'; rw [ha']; rfl)
        simp only at hr
        rw [← db] at hr
        obtain ⟨kc', hr⟩ := got_bind gc kb hr
        obtain ⟨ke, hr⟩ := got_bind ge kc' hr
        obtain ⟨h4, h5⟩ := got_end hr
        exact ⟨h4, ke⟩
end Go.Proofs.YthhdfokcciibmaaGreatDoor

/- The landed class: classOf, Parse. -/
namespace Go.Proofs.YthhdfokcciibmaaGreatDoor
open Go.RowKit
set_option linter.unusedVariables false
set_option maxRecDepth 100000

theorem kcls_results {fn : Func} {p u : Tmp} (h : fn.results = #[.cell p 26, .tmp u]) (W : World) (r : Nat) (cs : Array Value) (hs : cs.size = 5) (hb : W.heap[r]? = some (.cells cs 26 (0, 0))) (tmps : Array Value) (hp : tmps.getD p undef = .pointer (some ⟨r, 0, none⟩)) :
    (results fn tmps).run Tryz.prog W = .ok (.tuple #[.agg cs, tmps.getD u undef]) W := by
  rw [results_cell_tmp h, hp]
  simp [asAddr, run_loadVar_row W r 26 26 _ (0, 0) _ hb Tryz.underlying26 rfl (by rw [hs]; exact sizeClass9)]
def of_post (bs : List UInt8) (w : World) (e : Ending) (w' : World) : Prop :=
  ∃ (r : ClR) (en' : Bool), (en' = true → e = .returned (.tuple #[.agg #[.slice none 0 0, .string ⟨#[]⟩, .string ⟨#[]⟩, .slice none 0 0, .slice none 0 0], .int .i64 80])) ∧ (en' = false → e = .returned (.tuple #[r.v, .int .i64 0]) ∧ ∀ W, KeepC w' W → CIn W r) ∧ (∀ c0, readK bs = some c0 → r.c = c0 ∧ en' = false) ∧ Below w.heap.size w w'

set_option maxHeartbeats 1600000 in
theorem rOf_any (w : World) (a : Option Addr) (n c : Nat) (bs : List UInt8) (h : Arg w a n c bs) (hT : Tab8 w) (hn : n ≤ 1000000) :
    Calls Tryz.prog 37 #[.slice a n c] w (of_post bs w) := by
  have hbl : bs.length = n := h.bs.1
  obtain ⟨w0, e0, f0, r0⟩ : ∃ w0, w.alloc (.cells #[.slice none 0 0, .string ⟨#[]⟩, .string ⟨#[]⟩, .slice none 0 0, .slice none 0 0] 26) = w0 ∧ Below w.heap.size w w0 ∧ w0.heap[w.heap.size]? = some (.cells #[.slice none 0 0, .string ⟨#[]⟩, .string ⟨#[]⟩, .slice none 0 0, .slice none 0 0] 26 (0, 0)) := ⟨_, rfl, (Below.refl _ _).alloc (Nat.le_refl _) _, heap_alloc_new w _⟩
  have HN := hide (dRead_any w0 a n c bs (h.below f0) (by omega))
  have hsz0 := lt_of_heap r0
  have H0 := hide (And.intro f0 (And.intro r0 (hT.below f0)))
  clear h f0 r0 hT
  go_enter Tryz.func37, Tryz.ntmps37
  go_wp2_with fail
  refine (unhide HN).mono ?_
  rintro e w1 ⟨x, F, rfl, hRD, f1⟩
  clear HN e0
  obtain ⟨f0, r0, T0⟩ := unhide H0
  obtain ⟨w2, e2, f2, x2⟩ : ∃ w2, w1.alloc (.cells #[.pointer (some ⟨x, 0, none⟩), .slice none 0 0, .bool false] 127) = w2 ∧ Below w1.heap.size w1 w2 ∧ w2.heap[w1.heap.size]? = some (.cells #[.pointer (some ⟨x, 0, none⟩), .slice none 0 0, .bool false] 127 (0, 0)) := ⟨_, rfl, (Below.refl _ _).alloc (Nat.le_refl _) _, heap_alloc_new w1 _⟩
  have hxl : x < w1.heap.size := by
    obtain ⟨y, d, _, hS⟩ := hRD
    exact hS.xlt
  have R2 : Rd8 ⟨w1.heap.size, x, w0.heap.size, bs, []⟩ 0 false w2 := by
    refine ⟨by show w1.heap.size ≠ x; omega, f1.size, ⟨F, krd_below hRD f2⟩, Nat.zero_le _, by show bs.length ≤ _; omega, ⟨none, 0, x2, .inl ⟨rfl, rfl, rfl⟩⟩, by simp, fun i hi => ?_, by show tagE [] 0 ≠ 7; decide, by show 1 ≤ w0.heap.size; omega⟩
    have := tagE_in (l := []) (i := i) (by rw [hi]; decide)
    simp at this
    omega
  have T2 := (T0.below f1).below f2
  have r2 := (f2.block _ (Nat.lt_of_lt_of_le hsz0 f1.size)).trans ((f1.block _ hsz0).trans r0)
  have HN := hide (rClass_any w1.heap.size x w0.heap.size bs w2 R2 T2)
  have hs02 : w0.heap.size ≤ w2.heap.size := Nat.le_trans f1.size f2.size
  have f02 : Below w0.heap.size w0 w2 := f1.trans (f2.mono f1.size)
  have H2 := hide (And.intro f0 (And.intro R2 (And.intro r2 f02)))
  clear f0 r0 T0 hRD f1 f2 x2 hxl R2 T2 r2 hs02 f02 H0
  go_wp2_with fail
  refine (unhide HN).mono ?_
  rintro e w3 ⟨⟨⟨pl, nm, sp, fl, ml⟩, ⟨pa, pn, pc⟩, ⟨fa, fn, fc⟩, ⟨ma, mn, mc⟩, mr⟩, l, j3, e3, rfl, hI, hK, R3, f3⟩
  clear HN
  obtain ⟨f0, R2, r2, f02⟩ := unhide H2
  have r3 := R2.blk f3 r2 (by decide) (by decide)
  obtain ⟨a3, c3, x3, _⟩ := R3.pl
  obtain ⟨w4, e4, b4⟩ : ∃ w4, w3.alloc (.cells #[.slice pa pn pc, .string ⟨nm.toArray⟩, .string ⟨sp.toArray⟩, .slice fa fn fc, .slice ma mn mc] 26) = w4 ∧ Below w3.heap.size w3 w4 := ⟨_, rfl, (Below.refl _ _).alloc (Nat.le_refl _) _⟩
  have r4 := (b4.block _ (lt_of_heap r3)).trans r3
  have x4 := (b4.block _ (lt_of_heap x3)).trans x3
  have l4 : w4.heap[w3.heap.size]? = some (.cells #[.slice pa pn pc, .string ⟨nm.toArray⟩, .string ⟨sp.toArray⟩, .slice fa fn fc, .slice ma mn mc] 26 (0, 0)) := by rw [← e4]; exact heap_alloc_new w3 _
  have hlt3 := lt_of_heap r3
  have hltx := lt_of_heap x3
  have hall : ∀ vs : List Value, Below w.heap.size w (w4.setCells w.heap.size 0 vs) := fun vs => by
    have g1 : Below w.heap.size w w2 := f0.trans (f02.mono f0.size)
    have g2 : Below w.heap.size w w3 := g1.trans ((Fr6.below f3).mono f0.size)
    have g3 := g2.trans (b4.mono g2.size)
    exact below_cells vs 0 g3 (Nat.le_refl _)
  have q0 : w4.cell? ⟨w.heap.size, 0, none⟩ = some (.slice none 0 0) := bx_cell r4 0 _ rfl
  have z0 := bx_thaw r4 0
  have q1 : w4.cell? ⟨w.heap.size, 1, none⟩ = some (.string ⟨#[]⟩) := bx_cell r4 1 _ rfl
  have z1 := bx_thaw r4 1
  have q2 : w4.cell? ⟨w.heap.size, 2, none⟩ = some (.string ⟨#[]⟩) := bx_cell r4 2 _ rfl
  have z2 := bx_thaw r4 2
  have q3 : w4.cell? ⟨w.heap.size, 3, none⟩ = some (.slice none 0 0) := bx_cell r4 3 _ rfl
  have z3 := bx_thaw r4 3
  have q4 : w4.cell? ⟨w.heap.size, 4, none⟩ = some (.slice none 0 0) := bx_cell r4 4 _ rfl
  have z4 := bx_thaw r4 4
  have y2 : w4.cell? ⟨w1.heap.size, 2, none⟩ = some (.bool e3) := bx_cell x4 2 _ rfl
  have d0 : w4.cell? ⟨w3.heap.size, 0, none⟩ = some (.slice pa pn pc) := bx_cell l4 0 _ rfl
  have d1 : w4.cell? ⟨w3.heap.size, 1, none⟩ = some (.string ⟨nm.toArray⟩) := bx_cell l4 1 _ rfl
  have d2 : w4.cell? ⟨w3.heap.size, 2, none⟩ = some (.string ⟨sp.toArray⟩) := bx_cell l4 2 _ rfl
  have d3 : w4.cell? ⟨w3.heap.size, 3, none⟩ = some (.slice fa fn fc) := bx_cell l4 3 _ rfl
  have d4 : w4.cell? ⟨w3.heap.size, 4, none⟩ = some (.slice ma mn mc) := bx_cell l4 4 _ rfl
  have HA := hide hall
  have HI := hide hI
  have HK := hide hK
  have H4 := hide (And.intro r4 b4)
  have hne3 : ¬ w3.heap.size = w.heap.size := by omega
  have hne4 : ¬ w.heap.size = w3.heap.size := by omega
  clear f0 R2 r2 f02 f3 hI hK R3 r3 x3 b4 r4 x4 l4 hall H2
  unfold ClR.v Sl.v
  simp only
  cases e3 with
  | true =>
    go_wp2_with fail
    obtain ⟨r4, b4⟩ := unhide H4
    refine bodyPost_ret (v := .tuple #[.agg #[.slice none 0 0, .string ⟨#[]⟩, .string ⟨#[]⟩, .slice none 0 0, .slice none 0 0], .int .i64 80]) ?_ rfl ⟨⟨⟨pl, nm, sp, fl, ml⟩, ⟨pa, pn, pc⟩, ⟨fa, fn, fc⟩, ⟨ma, mn, mc⟩, mr⟩, true, fun _ => rfl, (fun e => by cases e), unhide HK, unhide HA [.slice none 0 0, .string ⟨#[]⟩, .string ⟨#[]⟩, .slice none 0 0, .slice none 0 0]⟩
    exact kcls_results Tryz.results37 _ w.heap.size _ rfl (bx_whole [.slice none 0 0, .string ⟨#[]⟩, .string ⟨#[]⟩, .slice none 0 0, .slice none 0 0] [.slice none 0 0, .string ⟨#[]⟩, .string ⟨#[]⟩, .slice none 0 0, .slice none 0 0] r4 rfl) _ rfl
  | false =>
    go_wp2_with fail
    obtain ⟨r4, b4⟩ := unhide H4
    refine bodyPost_ret (v := .tuple #[.agg #[.slice pa pn pc, .string ⟨nm.toArray⟩, .string ⟨sp.toArray⟩, .slice fa fn fc, .slice ma mn mc], .int .i64 0]) ?_ rfl ⟨⟨⟨pl, nm, sp, fl, ml⟩, ⟨pa, pn, pc⟩, ⟨fa, fn, fc⟩, ⟨ma, mn, mc⟩, mr⟩, false, (fun e => by cases e), fun _ => ⟨rfl, fun Wz hWz => unhide HI (by first | rfl | trivial) Wz (((KeepC.of_below b4).cells r4 0 [.slice pa pn pc, .string ⟨nm.toArray⟩, .string ⟨sp.toArray⟩, .slice fa fn fc, .slice ma mn mc]).trans hWz)⟩, fun c0 hc => ⟨(unhide HK c0 hc).1, rfl⟩, unhide HA [.slice pa pn pc, .string ⟨nm.toArray⟩, .string ⟨sp.toArray⟩, .slice fa fn fc, .slice ma mn mc]⟩
    exact kcls_results Tryz.results37 _ w.heap.size _ rfl (bx_whole [.slice none 0 0, .string ⟨#[]⟩, .string ⟨#[]⟩, .slice none 0 0, .slice none 0 0] [.slice pa pn pc, .string ⟨nm.toArray⟩, .string ⟨sp.toArray⟩, .slice fa fn fc, .slice ma mn mc] r4 rfl) _ rfl
end Go.Proofs.YthhdfokcciibmaaGreatDoor

/- The landed class: Parse. -/
namespace Go.Proofs.YthhdfokcciibmaaGreatDoor
open Go.RowKit
set_option linter.unusedVariables false
set_option maxRecDepth 100000

theorem bytesEqual8 (w : World) (a b : Option Addr) (x y : List UInt8) (n m c d : Nat) (ha : BytesAt w a x) (hb : BytesAt w b y) (hn : x.length = n) (hm : y.length = m) :
    Calls Tryz.prog 38 #[.slice a n c, .slice b m d] w fun e w' => e = .returned (.bool (decide (x = y))) ∧ w' = w := by
  subst hn
  subst hm
  have h1 := conv_bytes w a x c ha
  have h2 := conv_bytes w b y d hb
  clear ha hb
  go_enter Tryz.func38, Tryz.ntmps38
  go_wp2
  go_ret
  refine ⟨?_, rfl⟩
  show Ending.returned (.bool (x == y)) = _
  rw [Bool.beq_eq_decide_eq]
theorem bs_at8 {w : World} {a : Option Addr} {n : Nat} {l : List UInt8} (h : Bs w a n l) : BytesAt w a l := by
  rcases h.2 with h0 | ⟨b, o, rfl, h1⟩
  · have : l = [] := List.eq_nil_of_length_eq_zero (by rw [h.1]; exact h0)
    subst this
    exact ⟨fun _ => rfl, fun ad _ j u hu => by simp [bv] at hu⟩
  · exact h1
theorem errK_zero {c : Cl} (h : errK c = 0) : rightK c = true ∧ (bytesK c).length ≤ 32768 := by
  unfold errK at h
  split at h
  · cases h
  · rename_i h1
    split at h
    · cases h
    · exact ⟨by simpa using h1, by omega⟩
theorem parse_yes {c : Cl} {bs : List UInt8} (h1 : errK c = 0) (h2 : bytesK c = bs) (h3 : ∀ x ∈ c.pool, EntFit x) : parseK bs = (c, 0) := by
  obtain ⟨h4, h5⟩ := errK_zero h1
  have h6 := readK_at [] h4 h3
  rw [List.append_nil, h2] at h6
  unfold parseK
  rw [h2] at h5
  rw [if_neg (by omega), h6]
  simp only
  rw [if_pos ⟨h4, h2⟩]
theorem parse_no {bs : List UInt8} (h : bs.length ≤ 32768) (h1 : ∀ c, readK bs = some c → ¬ (errK c = 0 ∧ bytesK c = bs)) : parseK bs = (cl0, 80) := by
  unfold parseK
  rw [if_neg (by omega)]
  cases hr : readK bs with
  | none => rfl
  | some c =>
    simp only
    rw [if_neg]
    rintro ⟨a, b⟩
    refine h1 c hr ⟨?_, b⟩
    unfold errK
    rw [if_neg (by simp [a]), if_neg (by rw [b]; omega)]
def clr0 : ClR := ⟨cl0, ⟨none, 0, 0⟩, ⟨none, 0, 0⟩, ⟨none, 0, 0⟩, []⟩
theorem cin0 (W : World) : CIn W clr0 := by
  have e0 : EntsFit7 [] := ⟨fun y hy => by simp at hy, fun y hy => by simp at hy⟩
  refine ⟨⟨⟨⟨rfl, .inl rfl⟩, Nat.le_refl _, by decide, fun _ => ⟨rfl, rfl⟩⟩, by decide, e0⟩, Nat.zero_le _, Nat.zero_le _, ⟨⟨rfl, .inl rfl⟩, Nat.le_refl _, by decide, fun _ => ⟨rfl, rfl⟩, by decide, fun x hx => by cases hx⟩, ⟨⟨rfl, .inl rfl⟩, Nat.le_refl _, by decide, fun _ => ⟨rfl, rfl⟩, by decide, fun x hx => by cases hx⟩, rfl⟩
def parse_post (w : World) (G : Cl × Int) (e : Ending) (w' : World) : Prop := (∃ r : ClR, e = .returned (.tuple #[r.v, .int .i64 G.2]) ∧ r.c = G.1 ∧ CIn w' r) ∧ Below w.heap.size w w'

set_option maxHeartbeats 3200000 in
theorem cParse_any (w : World) (a : Option Addr) (n c : Nat) (bs : List UInt8) (hT : Tab8 w) (h : Arg w a n c bs) (hn : n ≤ 140737488351232) :
    Calls Tryz.prog 16 #[.slice a n c] w (parse_post w (parseK bs)) := by
  have hbl : bs.length = n := h.bs.1
  obtain ⟨w0, e0, f0, r0⟩ : ∃ w0, w.alloc (.cells #[.slice none 0 0, .string ⟨#[]⟩, .string ⟨#[]⟩, .slice none 0 0, .slice none 0 0] 26) = w0 ∧ Below w.heap.size w w0 ∧ w0.heap[w.heap.size]? = some (.cells #[.slice none 0 0, .string ⟨#[]⟩, .string ⟨#[]⟩, .slice none 0 0, .slice none 0 0] 26 (0, 0)) := ⟨_, rfl, (Below.refl _ _).alloc (Nat.le_refl _) _, heap_alloc_new w _⟩
  by_cases hlong : 32768 < n
  · have hlong' : (32768 : Int) < (n : Int) := by omega
    have HP : Hid (parseK bs = (cl0, 3)) := hide (by unfold parseK; rw [if_pos (by omega)])
    have q0 : w0.cell? ⟨w.heap.size, 0, none⟩ = some (.slice none 0 0) := bx_cell r0 0 _ rfl
    have q1 : w0.cell? ⟨w.heap.size, 1, none⟩ = some (.string ⟨#[]⟩) := bx_cell r0 1 _ rfl
    have q2 : w0.cell? ⟨w.heap.size, 2, none⟩ = some (.string ⟨#[]⟩) := bx_cell r0 2 _ rfl
    have q3 : w0.cell? ⟨w.heap.size, 3, none⟩ = some (.slice none 0 0) := bx_cell r0 3 _ rfl
    have q4 : w0.cell? ⟨w.heap.size, 4, none⟩ = some (.slice none 0 0) := bx_cell r0 4 _ rfl
    have z0 := bx_thaw r0 0
    have z1 := bx_thaw r0 1
    have z2 := bx_thaw r0 2
    have z3 := bx_thaw r0 3
    have z4 := bx_thaw r0 4
    have H0 := hide (And.intro f0 r0)
    clear h hT f0 r0
    go_enter Tryz.func16, Tryz.ntmps16
    go_wp2_with fail
    obtain ⟨f0, r0⟩ := unhide H0
    refine bodyPost_ret (v := .tuple #[.agg #[.slice none 0 0, .string ⟨#[]⟩, .string ⟨#[]⟩, .slice none 0 0, .slice none 0 0], .int .i64 3]) ?_ rfl ⟨⟨clr0, by rw [unhide HP]; rfl, by rw [unhide HP]; rfl, cin0 _⟩, below_cells [.slice none 0 0, .string ⟨#[]⟩, .string ⟨#[]⟩, .slice none 0 0, .slice none 0 0] 0 f0 (Nat.le_refl _)⟩
    exact kcls_results Tryz.results16 _ w.heap.size _ rfl (bx_whole [.slice none 0 0, .string ⟨#[]⟩, .string ⟨#[]⟩, .slice none 0 0, .slice none 0 0] [.slice none 0 0, .string ⟨#[]⟩, .string ⟨#[]⟩, .slice none 0 0, .slice none 0 0] r0 rfl) _ rfl
  · have hlong' : ¬ (32768 : Int) < (n : Int) := by omega
    have HN := hide (rOf_any w0 a n c bs (h.below f0) (hT.below f0) (by omega))
    have H0 := hide (And.intro f0 (And.intro r0 (And.intro (hT.below f0) (h.below f0))))
    clear h hT f0 r0
    go_enter Tryz.func16, Tryz.ntmps16
    go_wp2_with fail
    refine (unhide HN).mono ?_
    rintro e w1 ⟨⟨⟨pl, nm, sp, fl, ml⟩, ⟨pa, pn, pc⟩, ⟨fa, fn, fc⟩, ⟨ma, mn, mc⟩, mr⟩, en', ht, hf, hk, f1⟩
    clear HN e0
    obtain ⟨f0, r0, T0, A0⟩ := unhide H0
    have r1 := (f1.block _ (lt_of_heap r0)).trans r0
    have g1 : Below w.heap.size w w1 := f0.trans (f1.mono f0.size)
    have hlt := lt_of_heap r1
    have hne3 : ¬ w1.heap.size = w.heap.size := by omega
    have hne4 : ¬ w.heap.size = w1.heap.size := by omega
    have q0 : w1.cell? ⟨w.heap.size, 0, none⟩ = some (.slice none 0 0) := bx_cell r1 0 _ rfl
    cases en' with
    | true =>
      have HP : Hid (parseK bs = (cl0, 80)) := hide (parse_no (by omega) fun c0 hc => by
        have := (hk c0 hc).2
        cases this)
      have he := ht rfl
      subst he
      obtain ⟨w4, e4, b4, l4⟩ : ∃ w4, w1.alloc (.cells #[.slice none 0 0, .string ⟨#[]⟩, .string ⟨#[]⟩, .slice none 0 0, .slice none 0 0] 26) = w4 ∧ Below w1.heap.size w1 w4 ∧ w4.heap[w1.heap.size]? = some (.cells #[.slice none 0 0, .string ⟨#[]⟩, .string ⟨#[]⟩, .slice none 0 0, .slice none 0 0] 26 (0, 0)) := ⟨_, rfl, (Below.refl _ _).alloc (Nat.le_refl _) _, heap_alloc_new w1 _⟩
      have r4 := (b4.block _ (lt_of_heap r1)).trans r1
      have d0 : w4.cell? ⟨w1.heap.size, 0, none⟩ = some (.slice none 0 0) := bx_cell l4 0 _ rfl
      have y0 := bx_thaw l4 0
      have d1 : w4.cell? ⟨w1.heap.size, 1, none⟩ = some (.string ⟨#[]⟩) := bx_cell l4 1 _ rfl
      have y1 := bx_thaw l4 1
      have d2 : w4.cell? ⟨w1.heap.size, 2, none⟩ = some (.string ⟨#[]⟩) := bx_cell l4 2 _ rfl
      have y2 := bx_thaw l4 2
      have d3 : w4.cell? ⟨w1.heap.size, 3, none⟩ = some (.slice none 0 0) := bx_cell l4 3 _ rfl
      have y3 := bx_thaw l4 3
      have d4 : w4.cell? ⟨w1.heap.size, 4, none⟩ = some (.slice none 0 0) := bx_cell l4 4 _ rfl
      have y4 := bx_thaw l4 4
      have q0 : w4.cell? ⟨w.heap.size, 0, none⟩ = some (.slice none 0 0) := bx_cell r4 0 _ rfl
      have z0 := bx_thaw r4 0
      have q1 : w4.cell? ⟨w.heap.size, 1, none⟩ = some (.string ⟨#[]⟩) := bx_cell r4 1 _ rfl
      have z1 := bx_thaw r4 1
      have q2 : w4.cell? ⟨w.heap.size, 2, none⟩ = some (.string ⟨#[]⟩) := bx_cell r4 2 _ rfl
      have z2 := bx_thaw r4 2
      have q3 : w4.cell? ⟨w.heap.size, 3, none⟩ = some (.slice none 0 0) := bx_cell r4 3 _ rfl
      have z3 := bx_thaw r4 3
      have q4 : w4.cell? ⟨w.heap.size, 4, none⟩ = some (.slice none 0 0) := bx_cell r4 4 _ rfl
      have z4 := bx_thaw r4 4
      have H4 := hide (And.intro (g1.trans (b4.mono g1.size)) r4)
      clear f0 r0 T0 A0 r1 g1 f1 ht hf hk b4 l4 r4 H0
      go_wp2_with fail
      obtain ⟨g4, r4⟩ := unhide H4
      have r5 : (w4.setCells w1.heap.size 0 [.slice none 0 0, .string ⟨#[]⟩, .string ⟨#[]⟩, .slice none 0 0, .slice none 0 0]).heap[w.heap.size]? = _ := (heap_cells_other _ _ _ _ _ (by omega)).trans r4
      refine bodyPost_ret (v := .tuple #[.agg #[.slice none 0 0, .string ⟨#[]⟩, .string ⟨#[]⟩, .slice none 0 0, .slice none 0 0], .int .i64 80]) ?_ rfl ⟨⟨clr0, by rw [unhide HP]; rfl, by rw [unhide HP]; rfl, cin0 _⟩, below_cells [.slice none 0 0, .string ⟨#[]⟩, .string ⟨#[]⟩, .slice none 0 0, .slice none 0 0] 0 (below_cells [.slice none 0 0, .string ⟨#[]⟩, .string ⟨#[]⟩, .slice none 0 0, .slice none 0 0] 0 g4 (by omega)) (Nat.le_refl _)⟩
      exact kcls_results Tryz.results16 _ w.heap.size _ rfl (bx_whole [.slice none 0 0, .string ⟨#[]⟩, .string ⟨#[]⟩, .slice none 0 0, .slice none 0 0] [.slice none 0 0, .string ⟨#[]⟩, .string ⟨#[]⟩, .slice none 0 0, .slice none 0 0] r5 rfl) _ rfl
    | false =>
      obtain ⟨he, hI⟩ := hf rfl
      subst he
      obtain ⟨w4, e4, b4, l4⟩ : ∃ w4, w1.alloc (.cells #[.slice pa pn pc, .string ⟨nm.toArray⟩, .string ⟨sp.toArray⟩, .slice fa fn fc, .slice ma mn mc] 26) = w4 ∧ Below w1.heap.size w1 w4 ∧ w4.heap[w1.heap.size]? = some (.cells #[.slice pa pn pc, .string ⟨nm.toArray⟩, .string ⟨sp.toArray⟩, .slice fa fn fc, .slice ma mn mc] 26 (0, 0)) := ⟨_, rfl, (Below.refl _ _).alloc (Nat.le_refl _) _, heap_alloc_new w1 _⟩
      have T4 : Tab8 w4 := (T0.below f1).below b4
      have I4 := hI w4 (KeepC.of_below b4)
      have HQ := hide (printOk w4 _ T4 I4)
      have r4 := (b4.block _ (lt_of_heap r1)).trans r1
      have A4 := (A0.below f1).below b4
      have g4 := g1.trans (b4.mono g1.size)
      have hfit : ∀ x ∈ pl, EntFit x := I4.pool.fit.2
      have d0 : w4.cell? ⟨w1.heap.size, 0, none⟩ = some (.slice pa pn pc) := bx_cell l4 0 _ rfl
      have d1 : w4.cell? ⟨w1.heap.size, 1, none⟩ = some (.string ⟨nm.toArray⟩) := bx_cell l4 1 _ rfl
      have d2 : w4.cell? ⟨w1.heap.size, 2, none⟩ = some (.string ⟨sp.toArray⟩) := bx_cell l4 2 _ rfl
      have d3 : w4.cell? ⟨w1.heap.size, 3, none⟩ = some (.slice fa fn fc) := bx_cell l4 3 _ rfl
      have d4 : w4.cell? ⟨w1.heap.size, 4, none⟩ = some (.slice ma mn mc) := bx_cell l4 4 _ rfl
      have H4 := hide (And.intro g4 (And.intro r4 (And.intro l4 (And.intro A4 (And.intro hI (And.intro b4 (And.intro hk hfit)))))))
      clear f0 r0 T0 A0 r1 g1 f1 ht hf hk hI b4 l4 r4 A4 g4 T4 I4 H0 q0 hfit
      unfold ClR.v Sl.v at HQ ⊢
      simp only at HQ ⊢
      go_wp2_with fail
      refine (unhide HQ).mono ?_
      rintro e w5 ⟨⟨v5, rfl, o5⟩, f5⟩
      obtain ⟨g4, r4, l4, A4, hI, b4, hk, hfit⟩ := unhide H4
      have r5 := (f5.block _ (lt_of_heap r4)).trans r4
      have l5 := (f5.block _ (lt_of_heap l4)).trans l4
      have g5 := g4.trans (f5.mono g4.size)
      have A5 := A4.below f5
      obtain ⟨va, vc, rfl, _⟩ := own_form o5
      have B5 := own_bytes o5
      have K5 : ∀ W, KeepC w5 W → CIn W ⟨⟨pl, nm, sp, fl, ml⟩, ⟨pa, pn, pc⟩, ⟨fa, fn, fc⟩, ⟨ma, mn, mc⟩, mr⟩ := fun W hW => hI W (((KeepC.of_below b4).trans (KeepC.of_below f5)).trans hW)
      clear d0 d1 d2 d3 d4
      have d0 : w5.cell? ⟨w1.heap.size, 0, none⟩ = some (.slice pa pn pc) := bx_cell l5 0 _ rfl
      have d1 : w5.cell? ⟨w1.heap.size, 1, none⟩ = some (.string ⟨nm.toArray⟩) := bx_cell l5 1 _ rfl
      have d2 : w5.cell? ⟨w1.heap.size, 2, none⟩ = some (.string ⟨sp.toArray⟩) := bx_cell l5 2 _ rfl
      have d3 : w5.cell? ⟨w1.heap.size, 3, none⟩ = some (.slice fa fn fc) := bx_cell l5 3 _ rfl
      have d4 : w5.cell? ⟨w1.heap.size, 4, none⟩ = some (.slice ma mn mc) := bx_cell l5 4 _ rfl
      have q0 : w5.cell? ⟨w.heap.size, 0, none⟩ = some (.slice none 0 0) := bx_cell r5 0 _ rfl
      have z0 := bx_thaw r5 0
      have q1 : w5.cell? ⟨w.heap.size, 1, none⟩ = some (.string ⟨#[]⟩) := bx_cell r5 1 _ rfl
      have z1 := bx_thaw r5 1
      have q2 : w5.cell? ⟨w.heap.size, 2, none⟩ = some (.string ⟨#[]⟩) := bx_cell r5 2 _ rfl
      have z2 := bx_thaw r5 2
      have q3 : w5.cell? ⟨w.heap.size, 3, none⟩ = some (.slice none 0 0) := bx_cell r5 3 _ rfl
      have z3 := bx_thaw r5 3
      have q4 : w5.cell? ⟨w.heap.size, 4, none⟩ = some (.slice none 0 0) := bx_cell r5 4 _ rfl
      have z4 := bx_thaw r5 4
      have hlenp : (printK ⟨pl, nm, sp, fl, ml⟩).length = (printK ⟨pl, nm, sp, fl, ml⟩).length := rfl
      have HQ2 := hide (bytesEqual8 w5 va a _ bs _ n vc c B5 (bs_at8 A5.bs) rfl hbl)
      have H5 := hide (And.intro g5 (And.intro r5 (And.intro K5 (And.intro hk hfit))))
      clear g4 r4 l4 A4 hI b4 hk hfit r5 l5 g5 A5 B5 K5 f5 o5 H4 HQ hlenp
      by_cases he : errK ⟨pl, nm, sp, fl, ml⟩ = 0
      · have hpk : printK ⟨pl, nm, sp, fl, ml⟩ = bytesK ⟨pl, nm, sp, fl, ml⟩ := by unfold printK; rw [if_pos he]
        rw [hpk] at HQ2
        have HE := hide he
        rw [hpk, he]
        clear hpk he
        go_wp2_with fail
        refine (unhide HQ2).mono ?_
        rintro e w6 ⟨rfl, e6⟩
        have e6' := e6.symm
        clear e6
        subst e6'
        by_cases hq : bytesK ⟨pl, nm, sp, fl, ml⟩ = bs
        · have HP : Hid (parseK bs = (⟨pl, nm, sp, fl, ml⟩, 0)) := hide (parse_yes (unhide HE) hq (unhide H5).2.2.2.2)
          rw [decide_eq_true hq]
          clear hq HQ2
          go_wp2_with fail
          obtain ⟨g5, r5, K5, hk, hfit⟩ := unhide H5
          refine bodyPost_ret (v := .tuple #[.agg #[.slice pa pn pc, .string ⟨nm.toArray⟩, .string ⟨sp.toArray⟩, .slice fa fn fc, .slice ma mn mc], .int .i64 0]) ?_ rfl ⟨⟨⟨⟨pl, nm, sp, fl, ml⟩, ⟨pa, pn, pc⟩, ⟨fa, fn, fc⟩, ⟨ma, mn, mc⟩, mr⟩, by rw [unhide HP]; rfl, by rw [unhide HP], K5 _ ((KeepC.refl _).cells r5 0 [.slice pa pn pc, .string ⟨nm.toArray⟩, .string ⟨sp.toArray⟩, .slice fa fn fc, .slice ma mn mc])⟩, below_cells [.slice pa pn pc, .string ⟨nm.toArray⟩, .string ⟨sp.toArray⟩, .slice fa fn fc, .slice ma mn mc] 0 g5 (Nat.le_refl _)⟩
          exact kcls_results Tryz.results16 _ w.heap.size _ rfl (bx_whole [.slice none 0 0, .string ⟨#[]⟩, .string ⟨#[]⟩, .slice none 0 0, .slice none 0 0] [.slice pa pn pc, .string ⟨nm.toArray⟩, .string ⟨sp.toArray⟩, .slice fa fn fc, .slice ma mn mc] r5 rfl) _ rfl
        · have HP : Hid (parseK bs = (cl0, 80)) := hide (parse_no (by omega) fun c0 hc h9 => hq (by rw [((unhide H5).2.2.2.1 c0 hc).1]; exact h9.2))
          rw [decide_eq_false hq]
          clear hq HQ2
          go_wp2_with fail
          obtain ⟨g5, r5, K5, hk, hfit⟩ := unhide H5
          refine bodyPost_ret (v := .tuple #[.agg #[.slice none 0 0, .string ⟨#[]⟩, .string ⟨#[]⟩, .slice none 0 0, .slice none 0 0], .int .i64 80]) ?_ rfl ⟨⟨clr0, by rw [unhide HP]; rfl, by rw [unhide HP]; rfl, cin0 _⟩, below_cells [.slice none 0 0, .string ⟨#[]⟩, .string ⟨#[]⟩, .slice none 0 0, .slice none 0 0] 0 g5 (Nat.le_refl _)⟩
          exact kcls_results Tryz.results16 _ w.heap.size _ rfl (bx_whole [.slice none 0 0, .string ⟨#[]⟩, .string ⟨#[]⟩, .slice none 0 0, .slice none 0 0] [.slice none 0 0, .string ⟨#[]⟩, .string ⟨#[]⟩, .slice none 0 0, .slice none 0 0] r5 rfl) _ rfl
      · have HP : Hid (parseK bs = (cl0, 80)) := hide (parse_no (by omega) fun c0 hc h9 => he (by rw [((unhide H5).2.2.2.1 c0 hc).1]; exact h9.1))
        have he' : (errK ⟨pl, nm, sp, fl, ml⟩ != 0) = true := by simpa using he
        clear he HQ2
        generalize errK ⟨pl, nm, sp, fl, ml⟩ = E at *
        go_wp2_with fail
        obtain ⟨g5, r5, K5, hk, hfit⟩ := unhide H5
        refine bodyPost_ret (v := .tuple #[.agg #[.slice none 0 0, .string ⟨#[]⟩, .string ⟨#[]⟩, .slice none 0 0, .slice none 0 0], .int .i64 80]) ?_ rfl ⟨⟨clr0, by rw [unhide HP]; rfl, by rw [unhide HP]; rfl, cin0 _⟩, below_cells [.slice none 0 0, .string ⟨#[]⟩, .string ⟨#[]⟩, .slice none 0 0, .slice none 0 0] 0 g5 (Nat.le_refl _)⟩
        exact kcls_results Tryz.results16 _ w.heap.size _ rfl (bx_whole [.slice none 0 0, .string ⟨#[]⟩, .string ⟨#[]⟩, .slice none 0 0, .slice none 0 0] [.slice none 0 0, .string ⟨#[]⟩, .string ⟨#[]⟩, .slice none 0 0, .slice none 0 0] r5 rfl) _ rfl
theorem parseOk : ParseOk := fun w a n c bs hT h hn => cParse_any w a n c bs hT h hn
end Go.Proofs.YthhdfokcciibmaaGreatDoor
