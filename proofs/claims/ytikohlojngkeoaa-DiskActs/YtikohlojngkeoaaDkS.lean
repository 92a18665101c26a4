/- The contract of Bytes: a copy of one's own. -/
import Derived.Test.YtikohlojngkeoaaDkSureW
import Derived.Laws.AppendOwnNone
namespace Go.Proofs.Ytikohlojngkeoaa
open Go.RowKit
set_option linter.unusedVariables false

set_option maxHeartbeats 400000 in
theorem Bytes_some (w : World) (ad : Addr) (l : List UInt8) (n c : Nat) (hn : l.length = n) (hs : n ≤ 140737488351232) (h : BytesAt w (some ad) l) :
    Calls Try.prog 18 #[.slice (some ad) n c] w fun e w' => ∃ v, e = .returned v ∧ w'.ownsRow w.heap.size 5 1 v n (bv l) ∧ Below w.heap.size w w' := by
  obtain ⟨i0, hi, hz0, hz1, hz2⟩ := info_parts infoB
  have hown : (w.alloc (.cells #[] 5)).ownsRow w.heap.size 5 1 (.slice (some ⟨w.heap.size, 0, none⟩) 0 0) 0 [] := World.ownsRow_made w #[] 0 (Nat.le_refl _) (by simp) rfl
  have hsrc := h.2 ad rfl
  go_enter Try.func18, Try.ntmps18
  go_wp2_with (at_builtin; refine wpList_append_own _ rfl (.tmp 3) (.tmp 4) 37 rfl w.heap.size 5 i0 (.int .u8 0) 1 1 Try.underlying37 hi hz0 hz1 hz2 rfl (by decide) _ _ _ rfl hown ad n c (bv l) rfl ?c0 ?c1 ?c2 ?c3 ?c4 ?c5 ?_)
  case c0 => rw [bv_length, hn]; omega
  case c1 => exact fun j u hu => cell_alloc (hsrc j u hu) _
  case c2 => exact bv_one _
  case c3 => unfold maxLen; omega
  case c4 => omega
  case c5 => simp
  intro v' w1 hown' hgrow _
  have hb : Below w.heap.size w w1 := ((Below.refl _ _).alloc (Nat.le_refl _) _).grown hgrow (by simp) (fun k hk => by simp [Value.ownBlock] at hk; omega)
  have HO := hide hown'
  have HB := hide hb
  clear hown' hgrow hb hown hsrc
  go_wp2
  go_ret
  exact ⟨_, rfl, unhide HO, unhide HB⟩

set_option maxHeartbeats 400000 in
theorem Bytes_none (w : World) :
    Calls Try.prog 18 #[.slice none 0 0] w fun e w' => ∃ v, e = .returned v ∧ w'.ownsRow w.heap.size 5 1 v 0 (bv []) ∧ Below w.heap.size w w' := by
  obtain ⟨i0, hi, hz0, hz1, hz2⟩ := info_parts infoB
  have hown : (w.alloc (.cells #[] 5)).ownsRow w.heap.size 5 1 (.slice (some ⟨w.heap.size, 0, none⟩) 0 0) 0 [] := World.ownsRow_made w #[] 0 (Nat.le_refl _) (by simp) rfl
  go_enter Try.func18, Try.ntmps18
  go_wp2_with (at_builtin; refine wpList_append_own_none rfl (.tmp 3) (.tmp 4) 37 rfl w.heap.size 5 i0 1 Try.underlying37 hi _ _ _ rfl hown rfl ?_)
  go_ret
  exact ⟨_, rfl, hown, (Below.refl _ _).alloc (Nat.le_refl _) _⟩

/-- A slice of bytes that came in, or is one's own. -/
def BytesOf (w : World) (a : Option Addr) (n c : Nat) (l : List UInt8) : Prop := l.length = n ∧ n ≤ c ∧ c ≤ 9223372036854775807 ∧ ((a = none ∧ n = 0 ∧ c = 0) ∨ ∃ b o, a = some ⟨b, o, none⟩ ∧ BytesAt w (some ⟨b, o, none⟩) l) ∨ (l.length = n ∧ n = 0 ∧ c ≤ 9223372036854775807 ∧ ∃ ad, a = some ad)
theorem Bytes_any (w : World) (a : Option Addr) (l : List UInt8) (n c : Nat) (hs : n ≤ 140737488351232) (h : BytesOf w a n c l) :
    Calls Try.prog 18 #[.slice a n c] w fun e w' => ∃ v, e = .returned v ∧ w'.ownsRow w.heap.size 5 1 v n (bv l) ∧ Below w.heap.size w w' := by
  rcases h with ⟨hn, _, _, ⟨rfl, rfl, rfl⟩ | ⟨b, o, rfl, h⟩⟩ | ⟨hn, rfl, _, ad, rfl⟩
  · obtain rfl : l = [] := List.eq_nil_of_length_eq_zero hn
    exact Bytes_none w
  · exact Bytes_some w _ l n c hn hs h
  · obtain rfl : l = [] := List.eq_nil_of_length_eq_zero hn
    exact Bytes_some w ad [] 0 c rfl hs ⟨(fun e => by cases e), fun _ _ j u hu => by simp [bv] at hu⟩

end Go.Proofs.Ytikohlojngkeoaa
