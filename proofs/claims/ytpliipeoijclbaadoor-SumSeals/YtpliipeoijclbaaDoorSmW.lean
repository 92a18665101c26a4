/- The chapter's examples: works. -/
import Derived.Test.YtpliipeoijclbaaDoorSmQ
import Derived.Lib.SlBytesConst
namespace Go.Proofs.YtpliipeoijclbaaDoor
open Go.RowKit
set_option linter.unusedVariables false

/-- Of one part. -/
theorem sOf_one {T : World → Prop} (S : Sums T) (w : World) (a : Option Addr) (n cap : Nat) (l : List UInt8) (hT : T w) (hs : n ≤ 1000000) (h : Bs w a n l) :
    Calls Tryd.prog 12 #[.slice (some ⟨w.heap.size, 0, none⟩) 1 1] (w.alloc (.cells #[.slice a n cap] 23)) fun e w' => e = .returned (.int .u32 (onS 0 l : Int)) ∧ Below w.heap.size w w' := by
  have b1 : Below w.heap.size w (w.alloc (.cells #[.slice a n cap] 23)) := (Below.refl _ _).alloc (Nat.le_refl _) _
  have hl := heap_alloc_last w (.cells #[.slice a n cap] 23)
  have hn := h.1
  refine (S.parts _ w.heap.size 0 1 1 [l] (S.below _ _ hT b1) rfl (by omega) ?_).mono ?_
  · intro j x hx
    match j, hx with
    | 0, hx =>
      cases hx
      refine ⟨by omega, a, cap, ?_, ?_⟩
      · rw [cell_of_row _ _ _ _ _ _ hl, hn]; rfl
      · rw [hn]; exact h.below b1
  · rintro e w' ⟨rfl, f⟩
    refine ⟨by simp, b1.trans (f.mono b1.size)⟩
theorem nine : onS 0 [49, 50, 51, 52, 53, 54, 55, 56, 57] = 3808858755 := by decide +kernel

theorem const_bytes (w : World) (l : List UInt8) (n : Nat) : (convert 23 23 (.slice (some ⟨w.heap.size, 0, none⟩) n n)).run Tryd.prog (w.alloc (.cells (bv l).toArray 5)) = .ok (.slice (some ⟨w.heap.size, 0, none⟩) n n) (w.alloc (.cells (bv l).toArray 5 (l.length, l.length + 1))) := by
  have := Lib.run_convert_bytes_const (P := Tryd.prog) w 23 5 (bv l).toArray n n Tryd.underlying23 Tryd.underlying5
  rw [show (bv l).toArray.size = l.length by simp [bv]] at this
  exact this
theorem bv9 : bv [49, 50, 51, 52, 53, 54, 55, 56, 57] = [.int .u8 49, .int .u8 50, .int .u8 51, .int .u8 52, .int .u8 53, .int .u8 54, .int .u8 55, .int .u8 56, .int .u8 57] := rfl
theorem bv1 : bv [97] = [.int .u8 97] := rfl

set_option maxHeartbeats 1600000 in
theorem works2_any {T : World → Prop} (S : Sums T) (w : World) (hT : T w) :
    Calls Tryd.prog 15 #[] w fun e w' => e = .returned (.bool true) ∧ Below w.heap.size w w' := by
  have b1 : Below w.heap.size w (w.alloc (.cells (bv [49, 50, 51, 52, 53, 54, 55, 56, 57]).toArray 5 (9, 10))) := (Below.refl _ _).alloc (Nat.le_refl _) _
  have H1 := sOf_one S (w.alloc (.cells (bv [49, 50, 51, 52, 53, 54, 55, 56, 57]).toArray 5 (9, 10))) (some ⟨w.heap.size, 0, none⟩) 9 9 [49, 50, 51, 52, 53, 54, 55, 56, 57] (S.below _ _ hT b1) (by omega) ⟨rfl, .inr ⟨_, 0, rfl, bytes_of_block (heap_alloc_last w _)⟩⟩
  rw [nine, World.size_alloc] at H1
  have cv1 := const_bytes w [49, 50, 51, 52, 53, 54, 55, 56, 57] 9
  rw [bv9] at cv1 H1 b1
  have HT := hide hT
  have B1 := hide b1
  have H1 := hide H1
  clear hT b1
  go_enter Tryd.func15, Tryd.ntmps15
  go_wp2_with fail
  refine (unhide H1).mono ?_
  rintro e w3 ⟨rfl, f3⟩
  have f3' : Below w.heap.size w w3 := (unhide B1).trans (f3.mono (by simp))
  have HN := hide (S.nil w3 none 0 (S.below _ _ (unhide HT) f3'))
  have F3 := hide f3'
  clear f3 f3'
  go_wp2_with fail
  refine (unhide HN).mono ?_
  rintro e w4 ⟨rfl, f4⟩
  have f4' : Below w.heap.size w w4 := (unhide F3).trans (f4.mono (unhide F3).size)
  have b5 : Below w4.heap.size w4 (w4.alloc (.cells (bv [97]).toArray 5 (1, 2))) := (Below.refl _ _).alloc (Nat.le_refl _) _
  have cv2 := const_bytes w4 [97] 1
  have t5 := S.below _ _ (S.below _ _ (unhide HT) f4') b5
  have H5 := (S.sealed (w4.alloc (.cells (bv [97]).toArray 5 (1, 2))) (some ⟨w4.heap.size, 0, none⟩) 1 1 [97] t5 (by omega) (fun e => by cases e) ⟨rfl, .inr ⟨_, 0, rfl, bytes_of_block (heap_alloc_last w4 _)⟩⟩)
  have f5 : Below w.heap.size w (w4.alloc (.cells (bv [97]).toArray 5 (1, 2))) := f4'.trans (b5.mono f4'.size)
  rw [bv1] at cv2 H5 f5
  have H5 := hide H5
  have F5 := hide f5
  clear f4 f4' b5 t5 f5 F3 HN B1 H1
  go_wp2_with fail
  refine (unhide H5).mono ?_
  rintro e w6 ⟨v6, rfl, o6, f6⟩
  obtain ⟨a6, c6, rfl, _⟩ := own_form o6
  have f6' : Below w.heap.size w w6 := (unhide F5).trans (f6.mono (unhide F5).size)
  have H6 := S.judged w6 a6 5 c6 (sealL [97]) (S.below _ _ (unhide HT) f6') (own_cap o6).1 (own_cap o6).2 (by omega) (bs_of_own (by simp [sealL, be4]) o6)
  rw [right_seal] at H6
  have H6 := hide H6
  have F6 := hide f6'
  clear f6 f6' o6 F5 H5
  go_wp2_with fail
  refine (unhide H6).mono ?_
  rintro e w7 ⟨rfl, f7⟩
  have f7' : Below w.heap.size w w7 := (unhide F6).trans (f7.mono (unhide F6).size)
  have H7 := S.judged w7 none 0 0 [] (S.below _ _ (unhide HT) f7') (by omega) (by omega) (by omega) ⟨rfl, .inl rfl⟩
  rw [right_nil] at H7
  have H7 := hide H7
  have F7 := hide f7'
  clear f7 f7' F6 H6
  go_wp2_with fail
  refine (unhide H7).mono ?_
  rintro e w8 ⟨rfl, f8⟩
  have F8 := hide ((unhide F7).trans (f8.mono (unhide F7).size))
  clear f8 F7 H7
  go_wp2
  go_ret
  exact ⟨rfl, unhide F8⟩



/-! The same, from a first world on: what was there at first stays. -/
theorem gSeal {T : World → Prop} (S : Sums T) {w W : World} {a : Option Addr} {n cap : Nat} {l : List UInt8} (hT : T w) (f : Below w.heap.size w W) (h : Arg W a n cap l) (hn : n ≤ 4000) :
    Calls Tryd.prog 19 #[.slice a n cap] W fun e w' => ∃ a1 c1, e = .returned (.slice a1 (n + 4) c1) ∧ w'.ownsRow W.heap.size 5 1 (.slice a1 (n + 4) c1) (n + 4) (bv (sealL l)) ∧ Arg w' a1 (n + 4) c1 (sealL l) ∧ Below w.heap.size w w' ∧ Below W.heap.size W w' := by
  refine (S.sealed W a n cap l (S.below _ _ hT f) (by omega) h.nil h.bs).mono ?_
  rintro e w' ⟨v, rfl, o, f'⟩
  obtain ⟨a1, c1, rfl, _⟩ := own_form o
  exact ⟨a1, c1, rfl, o, arg_of_own (by rw [seal_len, h.bs.1]) o, f.trans (f'.mono f.size), f'⟩
theorem gqSeal {w W : World} {a : Option Addr} {n cap : Nat} {l : List UInt8} (f : Below w.heap.size w W) (h : Arg W a n cap l) (hn : n ≤ 4000) :
    Calls Tryd.prog 20 #[.slice a n cap] W fun e w' => ∃ a1 c1, e = .returned (.slice a1 (n + 4) c1) ∧ Arg w' a1 (n + 4) c1 (sealL l) ∧ Below w.heap.size w w' ∧ Below W.heap.size W w' := by
  refine (qSeal_any W a n cap l (by omega) h.nil h.bs).mono ?_
  rintro e w' ⟨v, rfl, o, f'⟩
  obtain ⟨a1, c1, rfl, _⟩ := own_form o
  exact ⟨a1, c1, rfl, arg_of_own (by rw [seal_len, h.bs.1]) o, f.trans (f'.mono f.size), f'⟩
theorem gRight {T : World → Prop} (S : Sums T) {w W : World} {a : Option Addr} {n cap : Nat} {l : List UInt8} (hT : T w) (f : Below w.heap.size w W) (h : Arg W a n cap l) (hn : n ≤ 5000) :
    Calls Tryd.prog 21 #[.slice a n cap] W fun e w' => e = .returned (.bool (rightL l)) ∧ Below w.heap.size w w' ∧ Below W.heap.size W w' := by
  refine (S.judged W a n cap l (S.below _ _ hT f) h.room h.most (by omega) h.bs).mono ?_
  rintro e w' ⟨rfl, f'⟩
  exact ⟨rfl, f.trans (f'.mono f.size), f'⟩
theorem gqRight {w W : World} {a : Option Addr} {n cap : Nat} {l : List UInt8} (f : Below w.heap.size w W) (h : Arg W a n cap l) (hn : n ≤ 5000) :
    Calls Tryd.prog 22 #[.slice a n cap] W fun e w' => e = .returned (.bool (rightL l)) ∧ Below w.heap.size w w' ∧ Below W.heap.size W w' := by
  refine (qRight_any W a n cap l h.room h.most (by omega) h.bs).mono ?_
  rintro e w' ⟨rfl, f'⟩
  exact ⟨rfl, f.trans (f'.mono f.size), f'⟩
theorem gOf {T : World → Prop} (S : Sums T) {w W : World} {a : Option Addr} {n cap : Nat} {l : List UInt8} (hT : T w) (f : Below w.heap.size w W) (h : Arg W a n cap l) (hn : n ≤ 5000) :
    Calls Tryd.prog 12 #[.slice (some ⟨W.heap.size, 0, none⟩) 1 1] (W.alloc (.cells #[.slice a n cap] 23)) fun e w' => e = .returned (.int .u32 (onS 0 l : Int)) ∧ Below w.heap.size w w' ∧ Below W.heap.size W w' := by
  refine (sOf_one S W a n cap l (S.below _ _ hT f) (by omega) h.bs).mono ?_
  rintro e w' ⟨rfl, f'⟩
  exact ⟨rfl, f.trans (f'.mono f.size), f'⟩
theorem gWorks {T : World → Prop} (S : Sums T) {w W : World} (hT : T w) (f : Below w.heap.size w W) :
    Calls Tryd.prog 15 #[] W fun e w' => e = .returned (.bool true) ∧ Below w.heap.size w w' ∧ Below W.heap.size W w' := by
  refine (works2_any S W (S.below _ _ hT f)).mono ?_
  rintro e w' ⟨rfl, f'⟩
  exact ⟨rfl, f.trans (f'.mono f.size), f'⟩

end Go.Proofs.YtpliipeoijclbaaDoor
