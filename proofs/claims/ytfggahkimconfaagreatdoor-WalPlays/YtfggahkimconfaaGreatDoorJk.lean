/- Joined: WlQ WlR. -/
import Derived.Test.YtfggahkimconfaaGreatDoorJc

/- What the walks of stage 4's laws ask of the program's log, whatever its inner functions and its memory are. -/
namespace Go.Proofs.YtfggahkimconfaaGreatDoor
open Go.RowKit
set_option linter.unusedVariables false

/-- What a step on a log (its blocks: F) and its disk may turn. -/
structure FrL (F : Nat → Prop) (B : Nat) (w w' : World) : Prop where
  below : Below B w w'
  other : ∀ (k : Nat) (c : Array Value) (e : TypeId) (f : Nat × Nat), w.heap[k]? = some (.cells c e f) → e ≠ 64 → e ≠ 90 → e ≠ 95 → ¬ F k → w'.heap[k]? = w.heap[k]?
theorem Fr.l {F : Nat → Prop} {B : Nat} {w w' : World} (h : Fr B w w') : FrL F B w w' := ⟨h.below, fun k c e f hk h1 h2 h3 _ => h.other k c e f hk h1 h2 h3⟩
theorem own_frl {F : Nat → Prop} {B base n size : Nat} {w w' : World} {e : TypeId} {v : Value} {xs : List Value} (h : w.ownsRow base e size v n xs) (f : FrL F B w w') (h1 : e ≠ 64) (h2 : e ≠ 90) (h3 : e ≠ 95) (hF : ∀ k, v.ownBlock = some k → ¬ F k) : w'.ownsRow base e size v n xs :=
  own_of_block h (fun k hk => by
    rcases h.2 with ⟨rfl, _⟩ | ⟨q, cap, cur, rfl, _, hq, _⟩
    · simp [Value.ownBlock] at hk
    · obtain rfl : q = k := by simpa [Value.ownBlock] using hk
      exact f.other _ _ _ _ hq h1 h2 h3 (hF _ rfl))

/-- The contracts of the program's log. T: what of memory the program's tables need; LG F w B x p g: at block x lies the log g, in the blocks F, on the disk at block p. -/
structure Wals (T : World → Prop) (LG : (Nat → Prop) → World → Nat → Nat → Nat → Lg → Prop) : Prop where
  table : ∀ {w w' : World} {B : Nat}, T w → Below B w w' → 1 ≤ B → T w'
  kinds : ∀ {F : Nat → Prop} {w : World} {B x p : Nat} {g : Lg}, LG F w B x p g → ∀ k, F k → B ≤ k ∧ ∃ c e f, w.heap[k]? = some (.cells c e f) ∧ e ≠ 64 ∧ e ≠ 90 ∧ e ≠ 95
  keep : ∀ {F : Nat → Prop} {w w' : World} {B x p : Nat} {g : Lg}, LG F w B x p g → (∀ k, F k → w'.heap[k]? = w.heap[k]?) → w.heap.size ≤ w'.heap.size → LG F w' B x p g
  format : ∀ (w : World) (B p : Nat) (D D' : Dk) (L n : Nat) (a m c : Int), T w → 1 ≤ B → X w B p D → Okd D L n → n ≤ 900 → (-9223372036854775808 ≤ a ∧ a ≤ 9223372036854775807) → (-9223372036854775808 ≤ m ∧ m ≤ 9223372036854775807) → D.fmt a m = (D', c) →
    Calls Tryz.prog 7 #[.pointer (some ⟨p, 0, none⟩), .int .i64 a, .int .i64 m] w fun e w' => e = .returned (.int .i64 c) ∧ X w' B p D' ∧ Fr B w w'
  opens : ∀ (w : World) (B p : Nat) (D D' : Dk) (g : Lg) (L n : Nat) (a m : Int), T w → 1 ≤ B → X w B p D → Okd D L n → n ≤ 900 → (-9223372036854775808 ≤ a ∧ a ≤ 9223372036854775807) → (-9223372036854775808 ≤ m ∧ m ≤ 9223372036854775807) → D.opn a m = (D', some g, 0) →
    Calls Tryz.prog 9 #[.pointer (some ⟨p, 0, none⟩), .int .i64 a, .int .i64 m] w fun e w' => ∃ x F, e = .returned (.tuple #[.pointer (some ⟨x, 0, none⟩), .int .i64 0]) ∧ LG F w' B x p g ∧ (∀ k, F k → w.heap.size ≤ k) ∧ X w' B p D' ∧ Fr B w w'
  fails : ∀ (w : World) (B p : Nat) (D D' : Dk) (L n : Nat) (a m c : Int), T w → 1 ≤ B → X w B p D → Okd D L n → n ≤ 900 → (-9223372036854775808 ≤ a ∧ a ≤ 9223372036854775807) → (-9223372036854775808 ≤ m ∧ m ≤ 9223372036854775807) → D.opn a m = (D', none, c) →
    Calls Tryz.prog 9 #[.pointer (some ⟨p, 0, none⟩), .int .i64 a, .int .i64 m] w fun e w' => e = .returned (.tuple #[.pointer none, .int .i64 c]) ∧ X w' B p D' ∧ Fr B w w'
  append : ∀ (F : Nat → Prop) (w : World) (B x p : Nat) (D D' : Dk) (g g' : Lg) (L n : Nat) (d : List UInt8) (c : Int), T w → 1 ≤ B → LG F w B x p g → X w B p D → Okd D L n → n ≤ 900 → g.at_ + g.size ≤ L → d.length ≤ 140737488355328 → g.apd D d = (D', g', c) →
    Calls Tryz.prog 14 #[.pointer (some ⟨x, 0, none⟩), str d] w fun e w' => e = .returned (.int .i64 c) ∧ (∃ F', LG F' w' B x p g' ∧ ∀ k, F' k → F k ∨ w.heap.size ≤ k) ∧ X w' B p D' ∧ FrL F B w w'
  flush : ∀ (F : Nat → Prop) (w : World) (B x p : Nat) (D D' : Dk) (g g' : Lg) (L n : Nat) (c : Int), T w → 1 ≤ B → LG F w B x p g → X w B p D → Okd D L n → n ≤ 900 → g.flu D = (D', g', c) →
    Calls Tryz.prog 16 #[.pointer (some ⟨x, 0, none⟩)] w fun e w' => e = .returned (.int .i64 c) ∧ (∃ F', LG F' w' B x p g' ∧ ∀ k, F' k → F k ∨ w.heap.size ≤ k) ∧ X w' B p D' ∧ FrL F B w w'
  reset : ∀ (F : Nat → Prop) (w : World) (B x p : Nat) (D D' : Dk) (g g' : Lg) (L n : Nat) (c : Int), T w → 1 ≤ B → LG F w B x p g → X w B p D → Okd D L n → n ≤ 900 → g.at_ + g.size ≤ L → g.rst D = (D', g', c) →
    Calls Tryz.prog 18 #[.pointer (some ⟨x, 0, none⟩)] w fun e w' => e = .returned (.int .i64 c) ∧ (∃ F', LG F' w' B x p g' ∧ ∀ k, F' k → F k ∨ w.heap.size ≤ k) ∧ X w' B p D' ∧ FrL F B w w'
  records : ∀ (F : Nat → Prop) (w : World) (B x p : Nat) (g : Lg), LG F w B x p g → g.gone = false →
    Calls Tryz.prog 28 #[.pointer (some ⟨x, 0, none⟩)] w fun e w' => ∃ v, e = .returned v ∧ w'.ownsRow w.heap.size 9 1 v g.L.length (g.L.map str) ∧ Below w.heap.size w w'
  sure : ∀ (F : Nat → Prop) (w : World) (B x p : Nat) (g : Lg), LG F w B x p g → g.gone = false →
    Calls Tryz.prog 29 #[.pointer (some ⟨x, 0, none⟩)] w fun e w' => e = .returned (.int .i64 (g.count : Int)) ∧ Below w.heap.size w w'
  free : ∀ (F : Nat → Prop) (w : World) (B x p : Nat) (g : Lg), LG F w B x p g → g.gone = false →
    Calls Tryz.prog 30 #[.pointer (some ⟨x, 0, none⟩)] w fun e w' => e = .returned (.int .i64 ((g.size : Int) - 1 - g.used)) ∧ Below w.heap.size w w'
  epoch : ∀ (F : Nat → Prop) (w : World) (B x p : Nat) (g : Lg), LG F w B x p g → g.gone = false →
    Calls Tryz.prog 31 #[.pointer (some ⟨x, 0, none⟩)] w fun e w' => e = .returned (.int .i64 (g.now : Int)) ∧ Below w.heap.size w w'

section
variable {T : World → Prop} {LG : (Nat → Prop) → World → Nat → Nat → Nat → Lg → Prop}
theorem Wals.lt (S : Wals T LG) {F : Nat → Prop} {w : World} {B x p : Nat} {g : Lg} (h : LG F w B x p g) {k : Nat} (hk : F k) : k < w.heap.size := by
  obtain ⟨_, c, e, f, hc, _⟩ := S.kinds h k hk
  exact lt_of_heap hc
theorem Wals.below (S : Wals T LG) {F : Nat → Prop} {w w' : World} {B x p : Nat} {g : Lg} (h : LG F w B x p g) (f : Below w.heap.size w w') : LG F w' B x p g :=
  S.keep h (fun k hk => f.block k (S.lt h hk)) f.size
theorem Wals.fr (S : Wals T LG) {F : Nat → Prop} {w w' : World} {B B' x p : Nat} {g : Lg} (h : LG F w B x p g) (f : Fr B' w w') : LG F w' B x p g :=
  S.keep h (fun k hk => by
    obtain ⟨_, c, e, f', hc, h1, h2, h3⟩ := S.kinds h k hk
    exact f.other k c e f' hc h1 h2 h3) f.below.size
/-- Another log's step. -/
theorem Wals.frl (S : Wals T LG) {F F' : Nat → Prop} {w w' : World} {B B' x p : Nat} {g : Lg} (h : LG F w B x p g) (f : FrL F' B' w w') (hd : ∀ k, F k → ¬ F' k) : LG F w' B x p g :=
  S.keep h (fun k hk => by
    obtain ⟨_, c, e, f', hc, h1, h2, h3⟩ := S.kinds h k hk
    exact f.other k c e f' hc h1 h2 h3 (hd k hk)) f.below.size
end

/-! Texts. -/
def Ts (w : World) (a : Option Addr) (n : Nat) (xs : List (List UInt8)) : Prop := xs.length = n ∧ (n = 0 ∨ ∃ b o, a = some ⟨b, o, none⟩ ∧ ∀ (j : Nat) (x : List UInt8), xs[j]? = some x → w.cell? ⟨b, o + j, none⟩ = some (str x))
theorem Ts.below {w w' : World} {a : Option Addr} {n : Nat} {xs : List (List UInt8)} (h : Ts w a n xs) (f : Below w.heap.size w w') : Ts w' a n xs := by
  rcases h with ⟨h1, h2 | ⟨b, o, e, h2⟩⟩
  · exact ⟨h1, .inl h2⟩
  · exact ⟨h1, .inr ⟨b, o, e, fun j x hx => by
      have h3 := h2 j x hx
      exact (f.cell (World.block_lt_of_cell? w _ h3)).trans h3⟩⟩
theorem ts_of_own {w : World} {base n c : Nat} {a : Option Addr} {xs : List (List UInt8)} (h : w.ownsRow base 9 1 (.slice a n c) n (xs.map str)) : Ts w a n xs := by
  have hl := h.1
  rw [List.length_map] at hl
  refine ⟨by omega, ?_⟩
  rcases h.2 with ⟨e, h0⟩ | ⟨q, cap, cur, e, _⟩
  · exact .inl h0
  · injection e with e
    subst e
    refine .inr ⟨q, 0, rfl, fun j x hx => ?_⟩
    have := h.cells (g := q) rfl j (str x) (by simp [hx])
    rw [Addr.add_mid] at this
    exact this

set_option maxHeartbeats 1600000 in
theorem SameTexts_same (w : World) (a b : Option Addr) (n c d : Nat) (x : List (List UInt8)) (hA : Ts w a n x) (hB : Ts w b n x) (hs : n ≤ 1000000) :
    Calls Tryz.prog 27 #[.slice a n c, .slice b n d] w fun e w' => e = .returned (.bool true) ∧ Below w.heap.size w w' := by
  have hln := hA.1
  have HA := hide hA
  have HB := hide hB
  clear hA hB
  go_enter Tryz.func27, Tryz.ntmps27
  go_wp2
  go_loopw [5] (fun i wr => ∃ k : Nat, k ≤ n ∧ i = .int .i64 k ∧ Below w.heap.size w wr) (fun i _ => n - (intOf i).toNat)
  case atStart => exact ⟨0, by omega, rfl, Below.refl _ _⟩
  case round =>
    obtain ⟨k, hk, rfl, hR⟩ := hrel
    by_cases hlt : k < n
    · have hlt1 : (k : Int) < (n : Int) := by omega
      obtain ⟨b1, o1, rfl, h1⟩ := ((unhide HA).below hR).2.resolve_left (by omega)
      obtain ⟨b2, o2, rfl, h2⟩ := ((unhide HB).below hR).2.resolve_left (by omega)
      obtain ⟨r, hr⟩ : ∃ r, x[k]? = some r := ⟨_, List.getElem?_eq_getElem (by omega)⟩
      have c0 := h1 k r hr
      have d0 := h2 k r hr
      unfold str at c0 d0
      generalize (⟨r.toArray⟩ : ByteArray) = st at *
      have HR := hide hR
      clear h1 h2 hr hR
      go_wp2
      go_quiet (fail)
      go_wp2
      go_roundw
      case rel => exact ⟨k + 1, by omega, by go_num, below_drewN (unhide HR) _⟩
      case measure => simp [intOf]; omega
    · obtain rfl : k = n := by omega
      have HR := hide hR
      clear hR
      go_wp2
      go_ret
      exact ⟨rfl, unhide HR⟩

/-! The example, as plain values. -/
def long : List UInt8 := List.replicate 300 0
theorem works_model : ∃ D1 D2 D3 D4 D5 D6, (Dk.fresh 7).fmt (1 : Nat) (5 : Nat) = (D1, 0) ∧ D1.opn (1 : Nat) (5 : Nat) = (D2, some ⟨1, 5, 2, 1, [], 0, 0, false⟩, 0) ∧ Lg.apd ⟨1, 5, 2, 1, [], 0, 0, false⟩ D2 long = (D3, ⟨1, 5, 2, 1, [long], 2, 0, false⟩, 0) ∧
    Lg.apd ⟨1, 5, 2, 1, [long], 2, 0, false⟩ D3 [120] = (D4, ⟨1, 5, 2, 1, [long, [120]], 3, 0, false⟩, 0) ∧ Lg.apd ⟨1, 5, 2, 1, [long, [120]], 3, 0, false⟩ D4 long = (D4, ⟨1, 5, 2, 1, [long, [120]], 3, 0, false⟩, 4) ∧
    Lg.flu ⟨1, 5, 2, 1, [long, [120]], 3, 0, false⟩ D4 = (D5, ⟨1, 5, 2, 1, [long, [120]], 3, 2, false⟩, 0) ∧ D5.opn (1 : Nat) (5 : Nat) = (D6, some ⟨1, 5, 3, 1, [long, [120]], 3, 2, false⟩, 0) ∧ HdOk D1 (1 : Nat) ∧ HdOk D5 (1 : Nat) := by
  have hlen : long.length = 300 := List.length_replicate
  have hneed : need long.length = 2 := by rw [hlen]; decide
  have q0 : quiet (Dk.fresh 7) := ⟨rfl, rfl⟩
  have s0 : (Dk.fresh 7).secs.length = 7 := by simp [Dk.fresh]
  obtain ⟨D1, e1, l1, s1, _⟩ := fmt_quiet q0 (a := 1) (n := 5) (by omega) (by rw [s0]; omega) (by rw [s0]; omega) fresh_dead
  obtain ⟨D2, e2, l2, s2, _⟩ := l1.opn (by omega)
  have o2 := l2.on 0
  obtain ⟨D3, e3, o3, s3⟩ := o2.append long (by omega) (by rw [hneed]; simp [usedBy])
  rw [hneed] at e3 o3
  obtain ⟨D4, e4, o4, s4⟩ := o3.append [120] (by simp) (by rw [usedBy_snoc, hneed]; simp [usedBy, need])
  have e5 := o4.full long (by omega) (by rw [usedBy_snoc, usedBy_snoc, hneed]; simp [usedBy, need])
  obtain ⟨e6, o6, s6, _⟩ := o4.flush
  obtain ⟨D6, e7, l7, s7, _⟩ := o6.lay.opn (by show 2 < 4294967295; omega)
  have hu : usedBy ([] ++ [(2, long)] ++ [(2, ([120] : List UInt8))]) = 3 := by rw [usedBy_snoc, usedBy_snoc, hneed]; simp [usedBy, need]
  refine ⟨D1, D2, D3, D4, D4.ba, D6, e1, e2, e3, e4, e5, e6, ?_, l1.hd, o6.lay.hd⟩
  rw [e7]
  simp
  exact hu

end Go.Proofs.YtfggahkimconfaaGreatDoor

/- Bounds of what is left; noughts; the walks of works and begun. -/
namespace Go.Proofs.YtfggahkimconfaaGreatDoor
open Go.RowKit
set_option linter.unusedVariables false

def Few (D : Dk) (n : Nat) : Prop := ∀ (i : Nat) (s : Sec), D.secs[i]? = some s → s.wait.length ≤ n
theorem Few.mono {D : Dk} {n m : Nat} (h : Few D n) (hm : n ≤ m) : Few D m := fun i s hi => Nat.le_trans (h i s hi) hm
theorem few_none {D : Dk} (h : ∀ (i : Nat) (s : Sec), D.secs[i]? = some s → s.wait = []) : Few D 0 := fun i s hi => by rw [h i s hi]; simp
theorem sb_len (D : Dk) (a : Nat) (x : List UInt8) : (D.sb a x).1.secs.length = D.secs.length := by
  unfold Dk.sb
  split
  · show (D.st a x).ba.secs.length = _
    rw [ba_len, st_len]
  · exact st_len _ _ _
theorem sb_few {D : Dk} {n : Nat} (h : Few D n) (a : Nat) (x : List UInt8) : Few (D.sb a x).1 (n + 1) := by
  unfold Dk.sb
  split
  · exact ba_few (st_few h a x)
  · exact st_few h a x
theorem fmt_len (D : Dk) (a m : Int) : (D.fmt a m).1.secs.length = D.secs.length := by
  unfold Dk.fmt
  split
  · exact sb_len _ _ _
  · rfl
theorem fmt_few {D : Dk} {n : Nat} (h : Few D n) (a m : Int) : Few (D.fmt a m).1 (n + 1) := by
  unfold Dk.fmt
  split
  · exact sb_few h _ _
  · exact h.mono (by omega)
theorem nxt_len (g : Lg) (D : Dk) (f : Nat) : (g.nxt D f).1.secs.length = D.secs.length := by
  unfold Lg.nxt
  split
  · rfl
  · split <;> exact sb_len _ _ _
theorem nxt_few (g : Lg) {D : Dk} {n : Nat} (h : Few D n) (f : Nat) : Few (g.nxt D f).1 (n + 1) := by
  unfold Lg.nxt
  split
  · exact h.mono (by omega)
  · split <;> exact sb_few h _ _
theorem opn_len (D : Dk) (a m : Int) : (D.opn a m).1.secs.length = D.secs.length := by
  unfold Dk.opn
  split
  · split
    · rfl
    · split
      · rfl
      · exact nxt_len _ _ _
  · rfl
theorem opn_few {D : Dk} {n : Nat} (h : Few D n) (a m : Int) : Few (D.opn a m).1 (n + 1) := by
  unfold Dk.opn
  split
  · split
    · exact h.mono (by omega)
    · split
      · exact h.mono (by omega)
      · exact nxt_few _ h _
  · exact h.mono (by omega)
theorem stores_len : ∀ (xs : List (List UInt8)) (D : Dk) (k : Nat), (D.stores k xs).1.secs.length = D.secs.length
  | [], D, k => rfl
  | x :: xs, D, k => by
    rw [Dk.stores]
    split
    · rw [stores_len xs, st_len]
    · exact st_len _ _ _
theorem stores_few : ∀ (xs : List (List UInt8)) (D : Dk) (k n : Nat), Few D n → Few (D.stores k xs).1 (n + xs.length)
  | [], D, k, n, h => h
  | x :: xs, D, k, n, h => by
    rw [Dk.stores]
    split
    · exact (stores_few xs _ (k + 1) (n + 1) (st_few h _ _)).mono (by simp; omega)
    · exact Few.mono (st_few h _ _) (by simp)
theorem apd_len (g : Lg) (D : Dk) (d : List UInt8) : (g.apd D d).1.secs.length = D.secs.length := by
  unfold Lg.apd
  split
  · rfl
  · split
    · rfl
    · split
      · rfl
      · split <;> exact stores_len _ _ _
theorem apd_few (g : Lg) {D : Dk} {n : Nat} (h : Few D n) (d : List UInt8) : Few (g.apd D d).1 (n + 18) := by
  unfold Lg.apd
  split
  · exact h.mono (by omega)
  · split
    · exact h.mono (by omega)
    · rename_i hd
      have hs := stores_few (secsOf g.now g.used d) D (g.at_ + 1 + g.used) n h
      rw [secsOf_len] at hs
      have := need_le (n := d.length) (by omega)
      split
      · exact h.mono (by omega)
      · split <;> exact hs.mono (by omega)
theorem flu_len (g : Lg) (D : Dk) : (g.flu D).1.secs.length = D.secs.length := by
  unfold Lg.flu
  split
  · rfl
  · split <;> exact ba_len _
theorem flu_few (g : Lg) {D : Dk} {n : Nat} (h : Few D n) : Few (g.flu D).1 n := by
  unfold Lg.flu
  split
  · exact h
  · split <;> exact ba_few h
theorem rst_len (g : Lg) (D : Dk) : (g.rst D).1.secs.length = D.secs.length := by
  unfold Lg.rst
  split
  · rfl
  · split <;> exact nxt_len _ _ _
theorem rst_few (g : Lg) {D : Dk} {n : Nat} (h : Few D n) : Few (g.rst D).1 (n + 1) := by
  unfold Lg.rst
  split
  · exact h.mono (by omega)
  · split <;> exact nxt_few _ h _
theorem okd_few {D : Dk} {L n : Nat} (h : Okd D L n) : Few D n := h.few

theorem okd_next {w : World} {B p : Nat} {D D' : Dk} {L n n' : Nat} (hO : Okd D L n) (hX : X w B p D') (hl : D'.secs.length = D.secs.length) (hf : Few D' n') : Okd D' L n' := Okd.of hX (by rw [hl, hO.len]) hf
theorem okd_fmt {w : World} {B p : Nat} {D D' : Dk} {L n : Nat} {a m c : Int} (hO : Okd D L n) (h : D.fmt a m = (D', c)) (hX : X w B p D') : Okd D' L (n + 1) := by
  have h1 := fmt_len D a m
  have h2 := fmt_few (okd_few hO) a m
  rw [h] at h1 h2
  exact okd_next hO hX h1 h2
theorem okd_opn {w : World} {B p : Nat} {D D' : Dk} {L n : Nat} {a m : Int} {r : Option Lg × Int} (hO : Okd D L n) (h : D.opn a m = (D', r)) (hX : X w B p D') : Okd D' L (n + 1) := by
  have h1 := opn_len D a m
  have h2 := opn_few (okd_few hO) a m
  rw [h] at h1 h2
  exact okd_next hO hX h1 h2
theorem okd_apd {w : World} {B p : Nat} {D D' : Dk} {L n : Nat} {g : Lg} {d : List UInt8} {r : Lg × Int} (hO : Okd D L n) (h : g.apd D d = (D', r)) (hX : X w B p D') : Okd D' L (n + 18) := by
  have h1 := apd_len g D d
  have h2 := apd_few g (okd_few hO) d
  rw [h] at h1 h2
  exact okd_next hO hX h1 h2
theorem okd_flu {w : World} {B p : Nat} {D D' : Dk} {L n : Nat} {g : Lg} {r : Lg × Int} (hO : Okd D L n) (h : g.flu D = (D', r)) (hX : X w B p D') : Okd D' L n := by
  have h1 := flu_len g D
  have h2 := flu_few g (okd_few hO)
  rw [h] at h1 h2
  exact okd_next hO hX h1 h2
theorem okd_rst {w : World} {B p : Nat} {D D' : Dk} {L n : Nat} {g : Lg} {r : Lg × Int} (hO : Okd D L n) (h : g.rst D = (D', r)) (hX : X w B p D') : Okd D' L (n + 1) := by
  have h1 := rst_len g D
  have h2 := rst_few g (okd_few hO)
  rw [h] at h1 h2
  exact okd_next hO hX h1 h2
theorem fresh_okd {w : World} {B p n : Nat} (hX : X w B p (Dk.fresh n)) : Okd (Dk.fresh n) n 0 := Okd.of hX (by simp [Dk.fresh]) (fun i s hi => by
    simp only [Dk.fresh, List.getElem?_replicate] at hi
    split at hi
    · cases hi; simp
    · cases hi)

/-- So many noughts, in a place of their own. -/
theorem makeZ (w : World) (n : Nat) (hn : n ≤ 100000) : (Instr.makeSlice 43 (.int .i64 (n : Int)) (.int .i64 (n : Int))).run Tryz.prog w = .ok (.slice (some ⟨w.heap.size, 0, none⟩) n n) (w.alloc (.cells (bv (zeros n)).toArray 5)) := by
  obtain ⟨i0, hi, hz0, hz1, hz2⟩ := info_parts infoB
  have := run_make (P := Tryz.prog) w 43 5 i0 (.int .u8 0) Tryz.underlying43 hi hz0 .i64 .i64 (n : Int) (n : Int) (by omega) (by omega) (by rw [hz2]; omega) (by omega)
  rw [this, hz1]
  have e : madeCells (Value.int .u8 0).cells (Int.toNat (n : Int) * 1) = (bv (zeros n)).toArray := by
    apply Array.toList_inj.1
    rw [Int.toNat_natCast, Nat.mul_one]
    show (madeCells #[Value.int .u8 0] n).toList = _
    rw [toList_madeCells_one]
    simp [bv, zeros]
  rw [e, Int.toNat_natCast]
theorem conv_zeros (w : World) (n : Nat) : (convert 43 9 (.slice (some ⟨w.heap.size, 0, none⟩) n n)).run Tryz.prog (w.alloc (.cells (bv (zeros n)).toArray 5)) = .ok (str (zeros n)) (w.alloc (.cells (bv (zeros n)).toArray 5)) := by
  have := conv_bytes (w.alloc (.cells (bv (zeros n)).toArray 5)) (some ⟨w.heap.size, 0, none⟩) (zeros n) n (bytes_of_block (heap_alloc_last w _))
  rw [show (zeros n).length = n from List.length_replicate] at this
  exact this

section
variable {T : World → Prop} {LG : (Nat → Prop) → World → Nat → Nat → Nat → Lg → Prop}

/-- A log and its disk, as they stand in a walk that began in w. -/
structure St (T : World → Prop) (LG : (Nat → Prop) → World → Nat → Nat → Nat → Lg → Prop) (w : World) (p x L n : Nat) (F : Nat → Prop) (D : Dk) (g : Lg) (W : World) : Prop where
  dk : X W w.heap.size p D
  k : Okd D L n
  l : LG F W w.heap.size x p g
  b : Below w.heap.size w W
theorem St.below (S : Wals T LG) {w W W' : World} {p x L n : Nat} {F : Nat → Prop} {D : Dk} {g : Lg} (h : St T LG w p x L n F D g W) (f : Below W.heap.size W W') : St T LG w p x L n F D g W' :=
  ⟨h.dk.below f, h.k, S.below h.l f, h.b.trans (f.mono h.b.size)⟩
theorem St.append (S : Wals T LG) {w W : World} {p x L n : Nat} {F : Nat → Prop} {D D' : Dk} {g g' : Lg} (hT : T w) (hw : 1 ≤ w.heap.size) (h : St T LG w p x L n F D g W) (hn : n ≤ 900) (hf : g.at_ + g.size ≤ L) (d : List UInt8) (hd : d.length ≤ 140737488355328) (c : Int) (m : g.apd D d = (D', g', c)) :
    Calls Tryz.prog 14 #[.pointer (some ⟨x, 0, none⟩), str d] W fun e w' => e = .returned (.int .i64 c) ∧ (∃ F', St T LG w p x L (n + 18) F' D' g' w' ∧ (∀ k, F' k → F k ∨ W.heap.size ≤ k)) ∧ FrL F w.heap.size W w' := by
  refine (S.append F W w.heap.size x p D D' g g' L n d c (S.table hT h.b hw) hw h.l h.dk h.k hn hf hd m).mono ?_
  rintro e w' ⟨rfl, ⟨F', l', hF⟩, x', f'⟩
  exact ⟨rfl, ⟨F', ⟨x', okd_apd h.k m x', l', h.b.trans f'.below⟩, hF⟩, f'⟩
theorem St.flush (S : Wals T LG) {w W : World} {p x L n : Nat} {F : Nat → Prop} {D D' : Dk} {g g' : Lg} (hT : T w) (hw : 1 ≤ w.heap.size) (h : St T LG w p x L n F D g W) (hn : n ≤ 900) (c : Int) (m : g.flu D = (D', g', c)) :
    Calls Tryz.prog 16 #[.pointer (some ⟨x, 0, none⟩)] W fun e w' => e = .returned (.int .i64 c) ∧ (∃ F', St T LG w p x L n F' D' g' w' ∧ (∀ k, F' k → F k ∨ W.heap.size ≤ k)) ∧ FrL F w.heap.size W w' := by
  refine (S.flush F W w.heap.size x p D D' g g' L n c (S.table hT h.b hw) hw h.l h.dk h.k hn m).mono ?_
  rintro e w' ⟨rfl, ⟨F', l', hF⟩, x', f'⟩
  exact ⟨rfl, ⟨F', ⟨x', okd_flu h.k m x', l', h.b.trans f'.below⟩, hF⟩, f'⟩
/-- A disk, made and formatted, and its log. -/
theorem St.opens (S : Wals T LG) {w W : World} {p L n : Nat} {D D' : Dk} {g : Lg} (hT : T w) (hw : 1 ≤ w.heap.size) (hx : X W w.heap.size p D) (hk : Okd D L n) (hb : Below w.heap.size w W) (hn : n ≤ 900) (a m : Nat) (ha : a ≤ 100000) (hm : m ≤ 100000) (hd : HdOk D (a : Int)) (h : D.opn a m = (D', some g, 0)) :
    Calls Tryz.prog 9 #[.pointer (some ⟨p, 0, none⟩), .int .i64 (a : Int), .int .i64 (m : Int)] W fun e w' => ∃ x F, e = .returned (.tuple #[.pointer (some ⟨x, 0, none⟩), .int .i64 0]) ∧ St T LG w p x L (n + 1) F D' g w' ∧ (∀ k, F k → W.heap.size ≤ k) ∧ Fr w.heap.size W w' := by
  refine (S.opens W w.heap.size p D D' g L n a m (S.table hT hb hw) hw hx hk hn (by omega) (by omega) h).mono ?_
  rintro e w' ⟨x, F, rfl, l', hF, x', f'⟩
  exact ⟨x, F, rfl, ⟨x', okd_opn hk h x', l', hb.trans f'.below⟩, hF, f'⟩

set_option maxRecDepth 100000 in
set_option maxHeartbeats 3200000 in
theorem works4_any (S : Wals T LG) (w : World) (hT : T w) (hw : 1 ≤ w.heap.size) :
    Calls Tryz.prog 32 #[] w fun e w' => e = .returned (.bool true) ∧ Below w.heap.size w w' := by
  obtain ⟨D1, D2, D3, D4, D5, D6, m1, m2, m3, m4, m5, m6, m7, d1, d5⟩ := works_model
  have d1 := hide d1
  have d5 := hide d5
  have M1 := hide m1
  have M2 := hide m2
  have M3 := hide m3
  have M4 := hide m4
  have M5 := hide m5
  have M6 := hide m6
  have M7 := hide m7
  have hll : long.length = 300 := List.length_replicate
  have hlz : long = zeros 300 := rfl
  have H1 := hide (Make_ok 7 w (by omega) (by omega))
  have HT := hide hT
  clear m1 m2 m3 m4 m5 m6 m7 hT
  go_enter Tryz.func32, Tryz.ntmps32
  go_wp2_with fail
  refine (unhide H1).mono ?_
  rintro e w1 ⟨rfl, i1, f1⟩
  have x1 : X w1 w.heap.size (w.heap.size + 1) (Dk.fresh 7) := ⟨_, _, i1⟩
  have k1 := fresh_okd x1
  have H2 := hide (S.format w1 w.heap.size (w.heap.size + 1) _ D1 7 0 1 5 0 (S.table (unhide HT) f1 hw) hw x1 k1 (by omega) (by decide) (by decide) (unhide M1))
  have F1 := hide f1
  have K1 := hide k1
  clear H1 i1 x1 f1 k1
  go_wp2_with fail
  refine (unhide H2).mono ?_
  rintro e w2 ⟨rfl, x2, f2⟩
  have b2 := (unhide F1).trans f2.below
  have H3 := hide (St.opens S (unhide HT) hw x2 (okd_fmt (unhide K1) (unhide M1) x2) b2 (by omega) 1 5 (by omega) (by omega) (unhide d1) (unhide M2))
  clear H2 x2 f2 b2 F1 K1
  go_wp2_with fail
  refine (unhide H3).mono ?_
  rintro e w3 ⟨xl, F, rfl, s3, _, _⟩
  have hmk := makeZ w3 300 (by omega)
  have hcv := conv_zeros w3 300
  rw [← hlz] at hmk hcv
  have s4 := s3.below S (bA (Below.refl _ w3) (.cells (bv long).toArray 5))
  have H4 := hide (s4.append S (unhide HT) hw (by omega) (by show 1 + 5 ≤ 7; omega) long (by omega) 0 (unhide M3))
  clear s3 s4 H3
  have hmk' : (Instr.makeSlice 43 (.int .i64 300) (.int .i64 300)).run Tryz.prog w3 = .ok (.slice (some ⟨w3.heap.size, 0, none⟩) 300 300) (w3.alloc (.cells (bv long).toArray 5)) := hmk
  unfold str at hcv H4
  generalize hlb : (bv long).toArray = lb at *
  clear hmk hlb
  generalize hls : (⟨long.toArray⟩ : ByteArray) = ls at *
  go_wp2_with fail
  refine (unhide H4).mono ?_
  rintro e w4 ⟨rfl, ⟨F4, s4, _⟩, _⟩
  have H5 := hide (s4.append S (unhide HT) hw (by omega) (by show 1 + 5 ≤ 7; omega) [120] (by decide) 0 (unhide M4))
  clear H4 s4
  go_wp2_with fail
  refine (unhide H5).mono ?_
  rintro e w5 ⟨rfl, ⟨F5, s5, _⟩, _⟩
  have H6 := hide (s5.append S (unhide HT) hw (by omega) (by show 1 + 5 ≤ 7; omega) long (by omega) 4 (unhide M5))
  unfold str at H6
  rw [hls] at H6
  clear H5 s5
  go_wp2_with fail
  refine (unhide H6).mono ?_
  rintro e w6 ⟨rfl, ⟨F6, s6, _⟩, _⟩
  have H7 := hide (s6.flush S (unhide HT) hw (by omega) 0 (unhide M6))
  clear H6 s6
  go_wp2_with fail
  refine (unhide H7).mono ?_
  rintro e w7 ⟨rfl, ⟨F7, s7, _⟩, _⟩
  have H8 := hide (St.opens S (unhide HT) hw s7.dk s7.k s7.b (by omega) 1 5 (by omega) (by omega) (unhide d5) (unhide M7))
  have S7 := hide s7
  clear H7 s7
  go_wp2_with fail
  refine (unhide H8).mono ?_
  rintro e w8 ⟨xm, F8, rfl, s8, hF8, f8⟩
  have L7 := hide (S.fr (unhide S7).l f8)
  have H9 := hide (S.records F8 w8 w.heap.size xm _ _ s8.l rfl)
  have S8 := hide s8
  clear H8 s8 hF8 f8 S7
  go_wp2_with fail
  refine (unhide H9).mono ?_
  rintro e w9 ⟨v9, rfl, o9, f9⟩
  obtain ⟨a9, c9, rfl, _⟩ := own_form o9
  have f9' : Below w8.heap.size w8 (w9.alloc (.cells #[str long, str [120]] 9)) := bA f9 _
  have t1 : Ts (w9.alloc (.cells #[str long, str [120]] 9)) a9 2 [long, [120]] := (ts_of_own o9).below (bA (Below.refl _ _) _)
  have t2 : Ts (w9.alloc (.cells #[str long, str [120]] 9)) (some ⟨w9.heap.size, 0, none⟩) 2 [long, [120]] := ⟨rfl, .inr ⟨w9.heap.size, 0, rfl, fun j x hx => by
    rw [cell_of_row _ _ _ _ _ _ (heap_alloc_last w9 _)]
    match j, hx with
    | 0, hx => cases hx; rfl
    | 1, hx => cases hx; rfl⟩⟩
  have H10 := hide (SameTexts_same _ a9 (some ⟨w9.heap.size, 0, none⟩) 2 c9 2 _ t1 t2 (by omega))
  have F9 := hide f9'
  unfold str at H10 F9
  rw [hls] at H10 F9
  clear H9 o9 f9 f9' t1 t2
  go_wp2_with fail
  refine (unhide H10).mono ?_
  rintro e w10 ⟨rfl, f10⟩
  have b10 := bT f10 (unhide F9)
  have H11 := hide (S.free F7 w10 w.heap.size xl _ _ (S.below (unhide L7) b10) rfl)
  have B10 := hide b10
  clear H10 f10 b10 F9
  go_wp2_with fail
  refine (unhide H11).mono ?_
  rintro e w11 ⟨rfl, f11⟩
  have b11 := bT f11 (unhide B10)
  have H12 := hide (S.sure F8 w11 w.heap.size xm _ _ (S.below (unhide S8).l b11) rfl)
  have B11 := hide b11
  clear H11 f11 b11 B10
  go_wp2_with fail
  refine (unhide H12).mono ?_
  rintro e w12 ⟨rfl, f12⟩
  have b12 := bT f12 (unhide B11)
  have H13 := hide (S.epoch F8 w12 w.heap.size xm _ _ (S.below (unhide S8).l b12) rfl)
  have B12 := hide b12
  clear H12 f12 b12 B11
  go_wp2_with fail
  refine (unhide H13).mono ?_
  rintro e w13 ⟨rfl, f13⟩
  have B13 := hide (bT (bT f13 (unhide B12)) (unhide S8).b)
  clear H13 f13 B12
  go_wp2
  go_ret
  exact ⟨rfl, unhide B13⟩
end

end Go.Proofs.YtfggahkimconfaaGreatDoor
