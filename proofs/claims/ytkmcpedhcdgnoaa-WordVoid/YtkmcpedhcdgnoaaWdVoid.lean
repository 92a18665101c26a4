/- The walk of WordVoid (written by mk/mkvoid6.py). -/
import Derived.Test.YtkmcpedhcdgnoaaWdReads
namespace Go.Proofs.Ytkmcpedhcdgnoaa
open Go.RowKit
set_option linter.unusedVariables false

/-- A reader, a writer, that no call made. -/
def Rz (w : World) (x : Nat) : Prop := w.heap[x]? = some (.cells #[.slice none 0 0, .int .i64 0] 61 (0, 0))
def Wz (w : World) (x : Nat) : Prop := w.heap[x]? = some (.cells #[.slice none 0 0, .int .i64 0] 62 (0, 0))
theorem Rz.below {w w' : World} {x : Nat} (h : Rz w x) (f : Below w.heap.size w w') : Rz w' x := (f.block x (lt_of_heap h)).trans h
theorem Wz.below {w w' : World} {x : Nat} (h : Wz w x) (f : Below w.heap.size w w') : Wz w' x := (f.block x (lt_of_heap h)).trans h
/-- What calls on these answer. -/
structure Voids6 : Prop where
  nu : ∀ (w : World), Calls Try.prog 11 #[.pointer none, .int .i64 1] w fun e w' => e = .returned (.tuple #[.int .i64 0, .int .i64 1]) ∧ Below w.heap.size w w'
  zs : ∀ (w : World) (x : Nat), Rz w x → Calls Try.prog 13 #[.pointer (some ⟨x, 0, none⟩), .int .i64 1] w fun e w' => e = .returned (.tuple #[.int .i64 0, .int .i64 1]) ∧ Below w.heap.size w w'
  nb : ∀ (w : World), Calls Try.prog 14 #[.pointer none, .int .i64 0] w fun e w' => e = .returned (.tuple #[.slice none 0 0, .int .i64 1]) ∧ Below w.heap.size w w'
  nwu : ∀ (w : World) (a : Option Addr) (n c : Nat), Calls Try.prog 21 #[.pointer none, .int .i64 1, .slice a n c] w fun e w' => e = .returned (.int .i64 1) ∧ Below w.heap.size w w'
  zws : ∀ (w : World) (x : Nat) (a : Option Addr) (n c : Nat), Wz w x → Calls Try.prog 24 #[.pointer (some ⟨x, 0, none⟩), .int .i64 1, .slice a n c] w fun e w' => e = .returned (.int .i64 1) ∧ Below w.heap.size w w'
  nwb : ∀ (w : World) (a : Option Addr) (n c : Nat), Calls Try.prog 25 #[.pointer none, .slice a n c] w fun e w' => e = .returned (.int .i64 1) ∧ Below w.heap.size w w'
  zwb : ∀ (w : World) (x : Nat) (a : Option Addr) (n c : Nat), Wz w x → Calls Try.prog 25 #[.pointer (some ⟨x, 0, none⟩), .slice a n c] w fun e w' => e = .returned (.int .i64 1) ∧ Below w.heap.size w w'
  nwp : ∀ (w : World), Calls Try.prog 26 #[.pointer none, .int .i64 0, .int .i64 1, .int .i64 1] w fun e w' => e = .returned (.int .i64 1) ∧ Below w.heap.size w w'
  zwp : ∀ (w : World) (x : Nat), Wz w x → Calls Try.prog 26 #[.pointer (some ⟨x, 0, none⟩), .int .i64 0, .int .i64 1, .int .i64 1] w fun e w' => e = .returned (.int .i64 1) ∧ Below w.heap.size w w'
  nat : ∀ (w : World), Calls Try.prog 17 #[.pointer none] w fun e w' => e = .returned (.int .i64 0) ∧ Below w.heap.size w w'
  zat : ∀ (w : World) (x : Nat), Rz w x → Calls Try.prog 17 #[.pointer (some ⟨x, 0, none⟩)] w fun e w' => e = .returned (.int .i64 0) ∧ Below w.heap.size w w'
  nle : ∀ (w : World), Calls Try.prog 18 #[.pointer none] w fun e w' => e = .returned (.int .i64 0) ∧ Below w.heap.size w w'
  zle : ∀ (w : World) (x : Nat), Rz w x → Calls Try.prog 18 #[.pointer (some ⟨x, 0, none⟩)] w fun e w' => e = .returned (.int .i64 0) ∧ Below w.heap.size w w'
  nln : ∀ (w : World), Calls Try.prog 28 #[.pointer none] w fun e w' => e = .returned (.int .i64 0) ∧ Below w.heap.size w w'
  zln : ∀ (w : World) (x : Nat), Wz w x → Calls Try.prog 28 #[.pointer (some ⟨x, 0, none⟩)] w fun e w' => e = .returned (.int .i64 0) ∧ Below w.heap.size w w'
  nal : ∀ (w : World), Calls Try.prog 29 #[.pointer none] w fun e w' => (∃ a c, e = .returned (.slice a 0 c)) ∧ Below w.heap.size w w'
  zal : ∀ (w : World) (x : Nat), Wz w x → Calls Try.prog 29 #[.pointer (some ⟨x, 0, none⟩)] w fun e w' => (∃ a c, e = .returned (.slice a 0 c)) ∧ Below w.heap.size w w'

section
variable {RD : (Nat → Prop) → World → Nat → Nat → List UInt8 → Nat → Prop} {WR : (Nat → Prop) → World → Nat → Nat → List UInt8 → Prop}
/-- Between the calls. -/
structure V6 (w : World) (r z : Nat) (W : World) : Prop where
  fr : Below w.heap.size w W
  rz : Rz W r
  wz : Wz W z
theorem V6.below {w W W' : World} {r z : Nat} (h : V6 w r z W) (f : Below W.heap.size W W') : V6 w r z W' := ⟨h.fr.trans (f.mono h.fr.size), h.rz.below f, h.wz.below f⟩

set_option maxHeartbeats 6400000 in
set_option maxRecDepth 100000 in
theorem void6_walk (S : Words RD WR) (V : Voids6) (w : World) (y : WAct) :
    Calls Try.prog 7 #[.agg y.cells] w fun e w' => e = .returned (.bool true) ∧ Below w.heap.size w w' := by
  unfold WAct.cells
  have b0 : Below w.heap.size w (w.alloc (.cells #[.int .i64 y.kind, .int .i64 y.k, .int .i64 y.n, .int .i64 y.m, .slice y.la y.l.length y.lc, .slice y.ba y.b.length y.bc] 32)) := (Below.refl _ _).alloc (Nat.le_refl _) _
  go_enter Try.func7, Try.ntmps7
  go_wp2_with fail
  refine (works6_any S _).mono ?_
  rintro e w1 ⟨rfl, f1⟩
  have f1' := b0.trans (f1.mono b0.size)
  have b2 : Below w1.heap.size w1 (w1.alloc (.cells #[.slice none 0 0, .int .i64 0] 61)) := (Below.refl _ _).alloc (Nat.le_refl _) _
  have hr : Rz (w1.alloc (.cells #[.slice none 0 0, .int .i64 0] 61)) w1.heap.size := heap_alloc_last w1 _
  generalize hw2 : w1.alloc (.cells #[.slice none 0 0, .int .i64 0] 61) = w2 at *
  have b3 : Below w2.heap.size w2 (w2.alloc (.cells #[.slice none 0 0, .int .i64 0] 62)) := (Below.refl _ _).alloc (Nat.le_refl _) _
  have hz : Wz (w2.alloc (.cells #[.slice none 0 0, .int .i64 0] 62)) w2.heap.size := heap_alloc_last w2 _
  have hs2 : w2.heap.size = w1.heap.size + 1 := by rw [← hw2]; simp
  have v3 : V6 w w1.heap.size (w1.heap.size + 1) (w2.alloc (.cells #[.slice none 0 0, .int .i64 0] 62)) := by
    have f2 := f1'.trans (b2.mono f1'.size)
    exact ⟨f2.trans (b3.mono f2.size), hr.below b3, by rw [← hs2]; exact hz⟩
  have V3 := hide v3
  have HW2 := hide hw2
  clear b0 f1 f1' b2 b3 hr hz v3 hw2 hs2
  go_upto_region 7 with fail
  rw [unhide HW2]
  generalize w2.alloc (.cells #[.slice none 0 0, .int .i64 0] 62) = w3 at *
  generalize w1.heap.size = r at *
  clear HW2
  clear w2
  clear w1
  go_wp2_with fail
  refine (V.nu _).mono ?_
  rintro e w4 ⟨rfl, f4⟩
  have V4 := hide ((unhide V3).below f4)
  clear f4 V3
  go_wp2_with fail
  refine (V.zs _ r (unhide V4).rz).mono ?_
  rintro e w5 ⟨rfl, f5⟩
  have V5 := hide ((unhide V4).below f5)
  clear f5 V4
  go_wp2_with fail
  refine (V.nb _).mono ?_
  rintro e w6 ⟨rfl, f6⟩
  have V6 := hide ((unhide V5).below f6)
  clear f6 V5
  have V6a := hide ((unhide V6).below ((Below.refl _ _).alloc (Nat.le_refl _) (.cells #[.int .i64 1] 3)))
  go_wp2_with fail
  refine (V.nwu _ _ _ _).mono ?_
  rintro e w7 ⟨rfl, f7⟩
  have V7 := hide ((unhide V6a).below f7)
  clear f7 V6 V6a
  have V7a := hide ((unhide V7).below ((Below.refl _ _).alloc (Nat.le_refl _) (.cells #[.int .i64 1] 3)))
  go_wp2_with fail
  refine (V.zws _ (r + 1) _ _ _ (unhide V7a).wz).mono ?_
  rintro e w8 ⟨rfl, f8⟩
  have V8 := hide ((unhide V7a).below f8)
  clear f8 V7 V7a
  go_wp2_with fail
  refine (V.nwb _ _ _ _).mono ?_
  rintro e w9 ⟨rfl, f9⟩
  have V9 := hide ((unhide V8).below f9)
  clear f9 V8
  have V9a := hide ((unhide V9).below ((Below.refl _ _).alloc (Nat.le_refl _) (.cells #[.int .u8 1] 5)))
  go_wp2_with fail
  refine (V.zwb _ (r + 1) _ _ _ (unhide V9a).wz).mono ?_
  rintro e w10 ⟨rfl, f10⟩
  have V10 := hide ((unhide V9a).below f10)
  clear f10 V9 V9a
  go_wp2_with fail
  refine (V.nwp _).mono ?_
  rintro e w11 ⟨rfl, f11⟩
  have V11 := hide ((unhide V10).below f11)
  clear f11 V10
  go_wp2_with fail
  refine (V.zwp _ (r + 1) (unhide V11).wz).mono ?_
  rintro e w12 ⟨rfl, f12⟩
  have V12 := hide ((unhide V11).below f12)
  clear f12 V11
  go_wp2_with fail
  refine (V.nat _).mono ?_
  rintro e w13 ⟨rfl, f13⟩
  have V13 := hide ((unhide V12).below f13)
  clear f13 V12
  go_wp2_with fail
  refine (V.zat _ r (unhide V13).rz).mono ?_
  rintro e w14 ⟨rfl, f14⟩
  have V14 := hide ((unhide V13).below f14)
  clear f14 V13
  go_wp2_with fail
  refine (V.nle _).mono ?_
  rintro e w15 ⟨rfl, f15⟩
  have V15 := hide ((unhide V14).below f15)
  clear f15 V14
  go_wp2_with fail
  refine (V.zle _ r (unhide V15).rz).mono ?_
  rintro e w16 ⟨rfl, f16⟩
  have V16 := hide ((unhide V15).below f16)
  clear f16 V15
  go_wp2_with fail
  refine (V.nln _).mono ?_
  rintro e w17 ⟨rfl, f17⟩
  have V17 := hide ((unhide V16).below f17)
  clear f17 V16
  go_wp2_with fail
  refine (V.zln _ (r + 1) (unhide V17).wz).mono ?_
  rintro e w18 ⟨rfl, f18⟩
  have V18 := hide ((unhide V17).below f18)
  clear f18 V17
  go_wp2_with fail
  refine (V.nal _).mono ?_
  rintro e w19 ⟨⟨a19, c19, rfl⟩, f19⟩
  have V19 := hide ((unhide V18).below f19)
  clear f19 V18
  go_wp2_with fail
  refine (V.zal _ (r + 1) (unhide V19).wz).mono ?_
  rintro e w20 ⟨⟨a20, c20, rfl⟩, f20⟩
  have V20 := hide ((unhide V19).below f20)
  clear f20 V19
  go_wp2
  go_ret
  exact ⟨rfl, (unhide V20).fr⟩
end

end Go.Proofs.Ytkmcpedhcdgnoaa
