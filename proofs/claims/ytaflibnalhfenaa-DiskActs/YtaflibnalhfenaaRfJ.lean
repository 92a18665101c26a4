/- The program's disk and the document's side by side; Ints, yes. -/
import Derived.Test.YtaflibnalhfenaaRfI
namespace Go.Proofs.Ytaflibnalhfenaa
open Go.RowKit
set_option linter.unusedVariables false

/-- What the program does to its disk leaves the document's as it was. -/
theorem RIs.fr {w w' : World} {B Bx p : Nat} {v : Value} {vals : List Value} {R : RDk} (h : RIs w B p v vals R) (f : Fr Bx w w') : RIs w' B p v vals R := by
  obtain ⟨k1, k2⟩ := h.kinds
  refine ⟨(f.other _ _ _ _ h.blk (by decide) (by decide) (by decide)).trans h.blk, ?_, h.bp, Nat.le_trans h.bw f.below.size, ?_, h.lo, h.hi⟩
  · refine own_of_block h.own (fun k hk => ?_)
    obtain ⟨cur, hc⟩ := k2 k hk
    exact f.other _ _ _ _ hc (by decide) (by decide) (by decide)
  · intro i l hi
    obtain ⟨sv, a, b⟩ := h.each i l hi
    exact ⟨sv, a, b.keep (fun k c fz hk => f.other _ _ _ _ hk (by decide) (by decide) (by decide))⟩
/-- What the document's does to its disk leaves the program's as it was. -/
theorem IsDisk.fr2 {w w' : World} {B By p g : Nat} {vs : Nat → Value} {D : Dk} (h : IsDisk w B p g vs D) (f : Fr2 By w w') : IsDisk w' B p g vs D := by
  obtain ⟨cur, hg, _⟩ := h.row
  refine h.keep (f.other _ _ _ _ h.blk (by decide) (by decide)) (f.other _ _ _ _ hg (by decide) (by decide)) f.below.size (fun i k hi hk => ?_)
  obtain ⟨c, hc⟩ := (h.sec i _ (List.getElem?_eq_getElem hi)).blk hk
  exact f.other _ _ _ _ hc (by decide) (by decide)

set_option maxRecDepth 100000 in
set_option maxHeartbeats 400000 in
theorem yes_any (w : World) (b : Bool) : Calls Try.prog 12 #[.bool b] w fun e w' => e = .returned (.int .i64 (if b then 1 else 0)) ∧ w' = w := by
  cases b
  · go_enter Try.func12, Try.ntmps12
    go_wp2
    go_ret
    exact ⟨rfl, rfl⟩
  · go_enter Try.func12, Try.ntmps12
    go_wp2
    go_ret
    exact ⟨rfl, rfl⟩

def iv (l : List Int) : List Value := l.map fun z => Value.int .i64 z
theorem iv_length (l : List Int) : (iv l).length = l.length := by simp [iv]
theorem iv_one (l : List Int) : ∀ v ∈ iv l, v.oneCell' = true := fun v hv => by
  obtain ⟨z, _, rfl⟩ := List.mem_map.1 hv
  rfl

set_option maxRecDepth 100000 in
set_option maxHeartbeats 400000 in
theorem Ints_some (w : World) (ad : Addr) (l : List Int) (n c : Nat) (hn : l.length = n) (hs : n * 8 ≤ 140737488351232) (hsrc : ∀ j u, (iv l)[j]? = some u → w.cell? (ad.add j) = some u) :
    Calls Try.prog 27 #[.slice (some ad) n c] w fun e w' => ∃ v, e = .returned v ∧ w'.ownsRow w.heap.size 3 1 v n (iv l) ∧ Below w.heap.size w w' := by
  obtain ⟨i0, hi, hz0, hz1, hz2⟩ := info_parts infoI
  have hown : (w.alloc (.cells #[] 3)).ownsRow w.heap.size 3 1 (.slice (some ⟨w.heap.size, 0, none⟩) 0 0) 0 [] := World.ownsRow_made w #[] 0 (Nat.le_refl _) (by simp) rfl
  go_enter Try.func27, Try.ntmps27
  go_wp2_with (at_builtin; refine wpList_append_own _ rfl (.tmp 3) (.tmp 4) 33 rfl w.heap.size 3 i0 (.int .i64 0) 1 8 Try.underlying33 hi hz0 hz1 hz2 rfl (by decide) _ _ _ rfl hown ad n c (iv l) rfl ?c0 ?c1 ?c2 ?c3 ?c4 ?c5 ?_)
  case c0 => rw [iv_length, hn]; omega
  case c1 => exact fun j u hu => cell_alloc (hsrc j u hu) _
  case c2 => exact iv_one _
  case c3 => unfold maxLen; omega
  case c4 => omega
  case c5 => simp
  intro v' w1 hown' hgrow _
  have hb : Below w.heap.size w w1 := ((Below.refl _ _).alloc (Nat.le_refl _) _).grown hgrow (by simp) (fun k hk => by simp [Value.ownBlock] at hk; omega)
  have HO := hide hown'
  have HB := hide hb
  clear hown' hgrow hb hown hsrc
  go_wp2
  go_ret
  exact ⟨_, rfl, by have := unhide HO; simpa using this, unhide HB⟩

set_option maxRecDepth 100000 in
set_option maxHeartbeats 400000 in
theorem Ints_none (w : World) :
    Calls Try.prog 27 #[.slice none 0 0] w fun e w' => ∃ v, e = .returned v ∧ w'.ownsRow w.heap.size 3 1 v 0 (iv []) ∧ Below w.heap.size w w' := by
  obtain ⟨i0, hi, hz0, hz1, hz2⟩ := info_parts infoI
  have hown : (w.alloc (.cells #[] 3)).ownsRow w.heap.size 3 1 (.slice (some ⟨w.heap.size, 0, none⟩) 0 0) 0 [] := World.ownsRow_made w #[] 0 (Nat.le_refl _) (by simp) rfl
  go_enter Try.func27, Try.ntmps27
  go_wp2_with (at_builtin; refine wpList_append_own_none rfl (.tmp 3) (.tmp 4) 33 rfl w.heap.size 3 i0 1 Try.underlying33 hi _ _ _ rfl hown rfl ?_)
  go_ret
  exact ⟨_, rfl, hown, (Below.refl _ _).alloc (Nat.le_refl _) _⟩

end Go.Proofs.Ytaflibnalhfenaa
