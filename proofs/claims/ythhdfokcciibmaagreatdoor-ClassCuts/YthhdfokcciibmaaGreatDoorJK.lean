/- Joined: CrA CrB CrC CrD CrE CrF CrG. -/
import Derived.Test.YthhdfokcciibmaaGreatDoorJI
import Derived.Test.YthhdfokcciibmaaGreatDoorJN
import Derived.Test.YthhdfokcciibmaaGreatDoorJClA
import Derived.Test.YthhdfokcciibmaaGreatDoorJA
import Derived.Test.YthhdfokcciibmaaGreatDoorJCkG
import Derived.Test.YthhdfokcciibmaaGreatDoorJTxA
import Derived.LoopN

/- The landed class: its reader while a class is read; number, pass. -/
namespace Go.Proofs.YthhdfokcciibmaaGreatDoor
open Go.RowKit
set_option linter.unusedVariables false
set_option maxRecDepth 100000

theorem getW_uR {bs : List UInt8} {i k : Nat} {n : Int} {r : List UInt8} (hk : k = 1 ∨ k = 2 ∨ k = 4) (h : uR k (bs.drop i) = some (n, r)) : getW bs i (k : Int) false = (n, 0, i + k) ∧ bs.drop (i + k) = r := by
  unfold uR at h
  split at h
  · rename_i hl
    injection h with h
    injection h with h1 h2
    rw [List.length_drop] at hl
    have hll : ((bs.drop i).take k).length = k := by rw [List.length_take, List.length_drop]; omega
    unfold getW
    rw [if_pos (by unfold wide; omega), if_neg (by omega), Int.toNat_natCast]
    have hv : valW ((bs.drop i).take k) false = some n := by
      unfold valW
      rw [hll, if_neg (by omega), if_neg (by simp), h1]
    rw [hv]
    exact ⟨rfl, by rw [← h2, List.drop_drop]⟩
  · cases h
theorem getW_small {bs : List UInt8} {i k : Nat} (hk : k = 1 ∨ k = 2 ∨ k = 4) : 0 ≤ (getW bs i (k : Int) false).1 ∧ (getW bs i (k : Int) false).1 < 4294967296 ∧ (getW bs i (k : Int) false).1 < ((256 ^ k : Nat) : Int) := by
  unfold getW
  rw [if_pos (by unfold wide; omega)]
  split
  · have h0 : 0 < 256 ^ k := Nat.pow_pos (by decide)
    show (0 : Int) ≤ 0 ∧ (0 : Int) < 4294967296 ∧ (0 : Int) < ((256 ^ k : Nat) : Int)
    omega
  · have hll : ((bs.drop i).take k).length ≤ 4 := by rw [List.length_take]; omega
    have hv : valW ((bs.drop i).take (k : Int).toNat) false = some (numB ((bs.drop i).take k) : Int) := by
      rw [Int.toNat_natCast]
      unfold valW
      rw [if_neg (by omega), if_neg (by simp)]
    rw [hv]
    have h1 := numB_lt ((bs.drop i).take k)
    have h2 : 256 ^ ((bs.drop i).take k).length ≤ 256 ^ 4 := Nat.pow_le_pow_right (by decide) hll
    have h3 : 256 ^ ((bs.drop i).take k).length ≤ 256 ^ k := Nat.pow_le_pow_right (by decide) (by rw [List.length_take]; omega)
    generalize 256 ^ k = K at *
    simp only
    omega

/-- What was read: if nothing had ended and it can be read, it is that. -/
def Got {α : Type} (o : List UInt8 → Option (α × List UInt8)) (bs : List UInt8) (i : Nat) (en : Bool) (v : α) (i' : Nat) (en' : Bool) : Prop :=
  (en = true → en' = true) ∧ (en = false → ∀ v0 r, o (bs.drop i) = some (v0, r) → v = v0 ∧ en' = false ∧ bs.drop i' = r)
/-- The reader's object, what it reads with, the bytes, the pool. -/
structure Cr where
  X : Nat
  x : Nat
  B : Nat
  bs : List UInt8
  l : List Ent
def Cr.v (C : Cr) : Value := .pointer (some ⟨C.X, 0, none⟩)
structure Rd8 (C : Cr) (i : Nat) (en : Bool) (W : World) : Prop where
  ne : C.X ≠ C.x
  hX : C.B ≤ C.X
  rd : ∃ F, RD F W C.B C.x C.bs i
  hi : i ≤ C.bs.length
  len : C.bs.length ≤ 1000000
  pl : ∃ a c, W.heap[C.X]? = some (.cells #[.pointer (some ⟨C.x, 0, none⟩), .slice a C.l.length c, .bool en] 127 (0, 0)) ∧ PB W a c C.l
  few : C.l.length ≤ 1024
  cl : ∀ i : Int, tagE C.l i = 7 → tagE C.l (atE C.l i).a = 1
  z0 : tagE C.l 0 ≠ 7
  one : 1 ≤ C.B
def FX (C : Cr) (w w' : World) : Prop := Fr6 (fun k => k = C.X ∨ k = C.x) C.B w w'
theorem FX.refl (C : Cr) (w : World) : FX C w w := ⟨Below.refl _ _, fun _ _ _ => rfl⟩
theorem FX.trans {C : Cr} {w w1 w2 : World} (f : FX C w w1) (g : FX C w1 w2) : FX C w w2 := kfr2_trans f g (fun k hk => .inl hk)
theorem FX.size {C : Cr} {w w' : World} (f : FX C w w') : w.heap.size ≤ w'.heap.size := f.below.size
theorem FX.on {C : Cr} {w w1 w2 : World} (f : FX C w w1) (g : Below w1.heap.size w1 w2) (hB : C.B ≤ w.heap.size) : FX C w w2 := kfr2_trans (F1 := fun _ => False) f (Fr6.of_below g (Nat.le_trans hB f.size)) (fun k hk => hk.elim)
theorem Rd8.X_lt {C : Cr} {i : Nat} {en : Bool} {W : World} (h : Rd8 C i en W) : C.X < W.heap.size := by
  obtain ⟨a, c, h1, _⟩ := h.pl
  exact lt_of_heap h1
theorem Rd8.x_blk {C : Cr} {i : Nat} {en : Bool} {W : World} (h : Rd8 C i en W) : ∃ Z, W.heap[C.x]? = some (.cells Z 159 (0, 0)) := by
  obtain ⟨F, y, c, _, h1⟩ := h.rd
  exact ⟨_, h1.blk⟩
theorem Rd8.x_lt {C : Cr} {i : Nat} {en : Bool} {W : World} (h : Rd8 C i en W) : C.x < W.heap.size := by
  obtain ⟨Z, h1⟩ := h.x_blk
  exact lt_of_heap h1
theorem Rd8.hB {C : Cr} {i : Nat} {en : Bool} {W : World} (h : Rd8 C i en W) : C.B ≤ W.heap.size := Nat.le_trans h.hX (Nat.le_of_lt h.X_lt)
/-- Whatever has another type than the reader's blocks may be written. -/
theorem Rd8.keep {C : Cr} {i : Nat} {en : Bool} {W W' : World} (h : Rd8 C i en W) (f : ∀ (k : Nat) (Z : Array Value) (T : TypeId), W.heap[k]? = some (.cells Z T (0, 0)) → T = 127 ∨ T = 159 ∨ T = 5 ∨ T = 55 → W'.heap[k]? = W.heap[k]?) : Rd8 C i en W' := by
  obtain ⟨F, y, c, hF, h1⟩ := h.rd
  refine ⟨h.ne, h.hX, ⟨F, y, c, hF, h1.keep (f _ _ _ h1.blk (.inr (.inl rfl))) ?_⟩, h.hi, h.len, ?_, h.few, h.cl, h.z0, h.one⟩
  · rcases h1.row.2 with ⟨hv, _⟩ | ⟨g, cap, cur, hv, _, hh, _⟩
    · cases hv
    · injection hv with hv
      injection hv with hv
      injection hv with hv
      subst hv
      exact f _ _ _ hh (.inr (.inr (.inl rfl)))
  · obtain ⟨a, c, h2, h3⟩ := h.pl
    refine ⟨a, c, (f _ _ _ h2 (.inl rfl)).trans h2, ?_⟩
    rcases h3 with h3 | ⟨q, e1, e2, h3⟩
    · exact .inl h3
    · exact .inr ⟨q, e1, e2, (f _ _ _ h3 (.inr (.inr (.inr rfl)))).trans h3⟩
theorem Rd8.below {C : Cr} {i : Nat} {en : Bool} {W W' : World} (h : Rd8 C i en W) (f : Below W.heap.size W W') : Rd8 C i en W' := h.keep fun k Z T hk _ => f.block k (lt_of_heap hk)
theorem Rd8.set {C : Cr} {i : Nat} {en : Bool} {W : World} (h : Rd8 C i en W) {R : Nat} {Z : Array Value} {T : TypeId} (hR : W.heap[R]? = some (.cells Z T (0, 0))) (hT : ¬ (T = 127 ∨ T = 159 ∨ T = 5 ∨ T = 55)) (j : Nat) (v : Value) : Rd8 C i en (W.setCell ⟨R, j, none⟩ v) :=
  h.keep fun k Z' T' hk hT' => Below.heap_setCell _ _ _ _ fun e => by
    simp only at e
    subst e
    rw [hR] at hk
    injection hk with hk
    injection hk with _ hk
    subst hk
    exact hT hT'
theorem Rd8.orw {C : Cr} {i : Nat} {en : Bool} {W W' : World} (h : Rd8 C i en W) (f : FX C W W') {α : Type} {cs : α → List Value} {e : TypeId} {sz base : Nat} {v : Value} {l : List α} (o : Orw cs e sz W base v l) (h1 : e ≠ 127) (h2 : e ≠ 159) : Orw cs e sz W' base v l :=
  o.keep fun k Z _ hk => f.other k (lt_of_heap hk) fun hF => by
    rcases hF with rfl | rfl
    · obtain ⟨a, c, h3, _⟩ := h.pl
      rw [h3] at hk
      injection hk with hk
      injection hk with _ hk
      exact h1 hk.symm
    · obtain ⟨Y, h3⟩ := h.x_blk
      rw [h3] at hk
      injection hk with hk
      injection hk with _ hk
      exact h2 hk.symm
theorem Rd8.blk {C : Cr} {i : Nat} {en : Bool} {W W' : World} (h : Rd8 C i en W) (f : FX C W W') {k : Nat} {Z : Array Value} {T : TypeId} (hk : W.heap[k]? = some (.cells Z T (0, 0))) (h1 : T ≠ 127) (h2 : T ≠ 159) : W'.heap[k]? = some (.cells Z T (0, 0)) :=
  (f.other k (lt_of_heap hk) fun hF => by
    rcases hF with rfl | rfl
    · obtain ⟨a, c, h3, _⟩ := h.pl
      rw [h3] at hk
      injection hk with hk
      injection hk with _ hk
      exact h1 hk.symm
    · obtain ⟨Y, h3⟩ := h.x_blk
      rw [h3] at hk
      injection hk with hk
      injection hk with _ hk
      exact h2 hk.symm).trans hk
/-- The mark written. -/
theorem Rd8.mark {C : Cr} {i : Nat} {en : Bool} {W : World} (h : Rd8 C i en W) (en' : Bool) : Rd8 C i en' (W.setCell ⟨C.X, 2, none⟩ (.bool en')) ∧ FX C W (W.setCell ⟨C.X, 2, none⟩ (.bool en')) := by
  obtain ⟨a, c, h1, h2⟩ := h.pl
  have hs : ∀ k, k ≠ C.X → (W.setCell ⟨C.X, 2, none⟩ (.bool en')).heap[k]? = W.heap[k]? := fun k hk => Below.heap_setCell _ _ _ _ hk
  have hne : ∀ (k : Nat) (Z : Array Value) (T : TypeId), W.heap[k]? = some (.cells Z T (0, 0)) → T ≠ 127 → k ≠ C.X := fun k Z T hk hT e => by
    subst e
    rw [h1] at hk
    injection hk with hk
    injection hk with _ hk
    exact hT hk.symm
  obtain ⟨F, y, d, hF, h3⟩ := h.rd
  refine ⟨⟨h.ne, h.hX, ⟨F, y, d, hF, h3.keep (hs _ (fun e => h.ne e.symm)) ?_⟩, h.hi, h.len, ⟨a, c, heap_setCell_same W _ 2 _ _ _ h1, ?_⟩, h.few, h.cl, h.z0, h.one⟩, (Below.refl _ _).setCell (p := ⟨C.X, 2, none⟩) h.hX _, fun k _ hk => hs k (fun e => hk (.inl e))⟩
  · rcases h3.row.2 with ⟨hv, _⟩ | ⟨g, cap, cur, hv, _, hh, _⟩
    · cases hv
    · injection hv with hv
      injection hv with hv
      injection hv with hv
      subst hv
      exact hs _ (hne _ _ _ hh (by decide))
  · rcases h2 with h2 | ⟨q, e1, e2, h2⟩
    · exact .inl h2
    · exact .inr ⟨q, e1, e2, (hs _ (hne _ _ _ h2 (by decide))).trans h2⟩

set_option maxHeartbeats 800000 in
theorem rNumber_any (C : Cr) (i : Nat) (en : Bool) (w : World) (h : Rd8 C i en w) (k : Nat) (hk : k = 1 ∨ k = 2 ∨ k = 4) :
    Calls Tryz.prog 129 #[.pointer (some ⟨C.X, 0, none⟩), .int .i64 (k : Int)] w fun e w' => ∃ n i' en', e = .returned (.int .i64 n) ∧ (0 ≤ n ∧ n < 4294967296 ∧ n < ((256 ^ k : Nat) : Int)) ∧ Got (uR k) C.bs i en n i' en' ∧ Rd8 C i' en' w' ∧ FX C w w' := by
  obtain ⟨F, hF⟩ := h.rd
  have hU := dU_all F w C.B C.x C.bs i (k : Int) hF (by have := h.len; omega) h.hi (by omega)
  have hgot : Got (uR k) C.bs i en (getW C.bs i (k : Int) false).1 (getW C.bs i (k : Int) false).2.2 (en || decide ((getW C.bs i (k : Int) false).2.1 ≠ 0)) := by
    refine ⟨fun e => by rw [e]; rfl, fun e v0 r hr => ?_⟩
    obtain ⟨h1, h2⟩ := getW_uR hk hr
    rw [h1, e]
    exact ⟨rfl, rfl, h2⟩
  have hle := getW_le (bs := C.bs) (i := i) (k := (k : Int)) (sg := false) h.hi
  have hsm := getW_small (bs := C.bs) (i := i) hk
  generalize getW C.bs i (k : Int) false = G at *
  obtain ⟨n, er, j⟩ := G
  simp only at hU hgot hle hsm
  have HST : Hid (∀ W, (∃ F', RD F' W C.B C.x C.bs j) → Kx C.x w W → Fr6 F C.B w W → Rd8 C j en W ∧ FX C w W) := fun W h1 h2 h3 => by
    obtain ⟨a, c, q1, q2⟩ := h.pl
    have hb : W.heap[C.X]? = _ := (h2 C.X h.X_lt h.ne).trans q1
    refine ⟨⟨h.ne, h.hX, h1, hle, h.len, ⟨a, c, hb, ?_⟩, h.few, h.cl, h.z0, h.one⟩, ⟨h3.below, fun k hk hn => h2 k hk (fun e => hn (.inr e))⟩⟩
    rcases q2 with q2 | ⟨q, e1, e2, q2⟩
    · exact .inl q2
    · refine .inr ⟨q, e1, e2, (h2 q (lt_of_heap q2) fun e => ?_).trans q2⟩
      subst e
      obtain ⟨Z, h4⟩ := h.x_blk
      rw [h4] at q2
      injection q2 with q2
      injection q2 with _ q2
      cases q2
  have HU := hide hU
  have HG := hide hgot
  have HS := hide hsm
  obtain ⟨a, c, q1, _⟩ := h.pl
  have c0 := bx_cell q1 0 _ rfl
  clear hU hgot q1 hF h hsm hle hk
  go_enter Tryz.func129, Tryz.ntmps129
  go_wp2_with fail
  refine (unhide HU).mono ?_
  rintro e w1 ⟨rfl, ⟨F', r1, _⟩, r2, r3⟩
  obtain ⟨R1, f1⟩ := unhide HST w1 ⟨F', r1⟩ r3 r2
  obtain ⟨a1, c1, q1, _⟩ := R1.pl
  have d2 := bx_cell q1 2 _ rfl
  have z2 := bx_thaw q1 2
  have HR1 := hide R1
  have HF1 := hide f1
  clear HU HST c0 r1 r2 r3 R1 f1 q1
  cases en with
  | true =>
    go_wp2
    go_ret
    obtain ⟨R2, f2⟩ := (unhide HR1).mark true
    exact ⟨n, j, true, rfl, unhide HS, by simpa using unhide HG, R2, (unhide HF1).trans f2⟩
  | false =>
    by_cases he : er = 0
    · have he' : (er != 0) = false := by simp [he]
      go_wp2
      go_ret
      obtain ⟨R2, f2⟩ := (unhide HR1).mark false
      exact ⟨n, j, false, rfl, unhide HS, by simpa [he] using unhide HG, R2, (unhide HF1).trans f2⟩
    · have he' : (er != 0) = true := by simp [he]
      go_wp2
      go_ret
      obtain ⟨R2, f2⟩ := (unhide HR1).mark true
      exact ⟨n, j, true, rfl, unhide HS, by simpa [he] using unhide HG, R2, (unhide HF1).trans f2⟩

end Go.Proofs.YthhdfokcciibmaaGreatDoor

/- The landed class: its reader: pass, text, className. -/
namespace Go.Proofs.YthhdfokcciibmaaGreatDoor
open Go.RowKit
set_option linter.unusedVariables false
set_option maxRecDepth 100000

/-- Numbers that are passed over. -/
def passR : List Nat → List UInt8 → Option (Unit × List UInt8)
  | [], s => some ((), s)
  | k :: ks, s => (uR k s).bind fun a => passR ks a.2
theorem passR_snoc (ks : List Nat) (k : Nat) : ∀ s, passR (ks ++ [k]) s = (passR ks s).bind fun a => (uR k a.2).bind fun b => some ((), b.2) := by
  induction ks with
  | nil => intro s; rfl
  | cons j ks ih =>
    intro s
    simp only [List.cons_append, passR]
    cases uR j s with
    | none => rfl
    | some a => simpa using ih a.2
theorem Got.pass {bs : List UInt8} {i i1 i2 : Nat} {en en1 en2 : Bool} {ks : List Nat} {k : Nat} {n : Int} (h1 : Got (passR ks) bs i en () i1 en1) (h2 : Got (uR k) bs i1 en1 n i2 en2) : Got (passR (ks ++ [k])) bs i en () i2 en2 := by
  refine ⟨fun e => h2.1 (h1.1 e), fun e v0 r hr => ?_⟩
  rw [passR_snoc] at hr
  obtain ⟨⟨_, s1⟩, ha, hr⟩ := Option.bind_eq_some_iff.1 hr
  obtain ⟨⟨m, s2⟩, hb, hr⟩ := Option.bind_eq_some_iff.1 hr
  obtain ⟨_, e1, d1⟩ := h1.2 e _ _ ha
  simp only at hb
  rw [← d1] at hb
  obtain ⟨_, e2, d2⟩ := h2.2 e1 _ _ hb
  injection hr with hr
  injection hr with _ hr
  exact ⟨rfl, e2, by rw [d2]; exact hr⟩

set_option maxHeartbeats 800000 in
theorem rPass_any (C : Cr) (i : Nat) (en : Bool) (w : World) (h : Rd8 C i en w) (ks : List Nat) (hks : ∀ k ∈ ks, k = 1 ∨ k = 2 ∨ k = 4) (g n c : Nat) (hn : ks.length = n) (hs : n ≤ 100) (hg : w.heap[g]? = some (.cells (ks.map fun (k : Nat) => Value.int .i64 (k : Int)).toArray 3 (0, 0))) :
    Calls Tryz.prog 97 #[.pointer (some ⟨C.X, 0, none⟩), .slice (some ⟨g, 0, none⟩) n c] w fun e w' => ∃ i' en', e = .returned (.tuple #[]) ∧ Got (passR ks) C.bs i en () i' en' ∧ Rd8 C i' en' w' ∧ FX C w w' := by
  have H0 : Hid (Got (passR (ks.take 0)) C.bs i en () i en ∧ Rd8 C i en w ∧ FX C w w ∧ w.heap[g]? = some (.cells (ks.map fun (k : Nat) => Value.int .i64 (k : Int)).toArray 3 (0, 0))) := hide ⟨⟨fun e => e, fun e v0 r hr => by injection hr with hr; injection hr with _ hr; exact ⟨rfl, e, hr⟩⟩, h, FX.refl _ _, hg⟩
  clear h hg
  go_enter Tryz.func97, Tryz.ntmps97
  go_wp2
  go_loopw [8] (fun v wr => ∃ k : Nat, k ≤ n ∧ v = .int .i64 k ∧ ∃ j ej, Got (passR (ks.take k)) C.bs i en () j ej ∧ Rd8 C j ej wr ∧ FX C w wr ∧ wr.heap[g]? = some (.cells (ks.map fun (k : Nat) => Value.int .i64 (k : Int)).toArray 3 (0, 0))) (fun v _ => n - (intOf v).toNat)
  case atStart => exact ⟨0, by omega, rfl, i, en, unhide H0⟩
  case round =>
    obtain ⟨k, hk, rfl, j, ej, hG, hR, hF, hb⟩ := hrel
    by_cases hlt : k < n
    · have hlt1 : (k : Int) < (n : Int) := by omega
      have hk0 : (0 : Int) ≤ (k : Int) := by omega
      obtain ⟨m, hm⟩ : ∃ m, ks[k]? = some m := ⟨_, List.getElem?_eq_getElem (by omega)⟩
      have c0 : wr.cell? ⟨g, k, none⟩ = some (.int .i64 (m : Int)) := bx_cell hb k _ (by simp [hm])
      have HN := hide (rNumber_any C j ej wr hR m (hks m (List.mem_of_getElem? hm)))
      have HI := hide (And.intro hG (And.intro hR (And.intro hF hb)))
      have hst : ks.take (k + 1) = ks.take k ++ [m] := by rw [List.take_add_one, hm]; rfl
      have HST := hide hst
      clear hG hR hF hb hm hst
      go_wp2_with fail
      refine (unhide HN).mono ?_
      rintro e w1 ⟨v, j1, e1, rfl, _, g1, R1, f1⟩
      obtain ⟨hG, hR, hF, hb⟩ := unhide HI
      have HI1 : Hid (Got (passR (ks.take (k + 1))) C.bs i en () j1 e1 ∧ Rd8 C j1 e1 w1 ∧ FX C w w1 ∧ w1.heap[g]? = some (.cells (ks.map fun (k : Nat) => Value.int .i64 (k : Int)).toArray 3 (0, 0))) := hide ⟨by rw [unhide HST]; exact hG.pass g1, R1, hF.trans f1, hR.blk f1 hb (by decide) (by decide)⟩
      clear HN HI hG hR hF hb g1 R1 f1 c0
      go_wp2
      go_roundw
      case rel => exact ⟨k + 1, by omega, by go_num, j1, e1, unhide HI1⟩
      case measure => simp [intOf]; omega
    · obtain rfl : k = n := by omega
      rw [List.take_of_length_le (by omega)] at hG
      have HI := hide (And.intro hG (And.intro hR hF))
      clear hG hR hF hb
      go_wp2
      go_end0
      obtain ⟨a, b, c⟩ := unhide HI
      exact ⟨j, ej, rfl, a, b, c⟩

theorem Rd8.es {C : Cr} {i : Nat} {en : Bool} {W : World} (h : Rd8 C i en W) : ∃ a c, W.heap[C.X]? = some (.cells #[.pointer (some ⟨C.x, 0, none⟩), .slice a C.l.length c, .bool en] 127 (0, 0)) ∧ Es W a C.l.length C.l := by
  obtain ⟨a, c, h1, h2⟩ := h.pl
  refine ⟨a, c, h1, rfl, ?_⟩
  rcases h2 with ⟨_, _, h2⟩ | ⟨q, e1, e2, h2⟩
  · exact .inl (by rw [h2]; rfl)
  · exact .inr ⟨q, 0, e1, es_of_block h2⟩

set_option maxHeartbeats 800000 in
theorem rText_any (C : Cr) (i : Nat) (en : Bool) (w : World) (h : Rd8 C i en w) :
    Calls Tryz.prog 132 #[.pointer (some ⟨C.X, 0, none⟩)] w fun e w' => ∃ s i' en', e = .returned (.string ⟨List.toArray s⟩) ∧ (s = [] ∨ ∃ x ∈ C.l, s = x.text) ∧ Got (utfR C.l) C.bs i en s i' en' ∧ Rd8 C i' en' w' ∧ FX C w w' := by
  have HN := hide (rNumber_any C i en w h 2 (by omega))
  clear h
  go_enter Tryz.func132, Tryz.ntmps132
  go_wp2_with fail
  refine (unhide HN).mono ?_
  rintro e w1 ⟨n, j, ej, rfl, hn, g1, R1, f1⟩
  obtain ⟨a, c, q1, hE⟩ := R1.es
  have c1 := bx_cell q1 1 _ rfl
  have HT := hide (ctagAt_any w1 a C.l.length c C.l hE (by have := R1.few; omega) n (by unfold fitI; omega))
  have HG := hide g1
  have HR := hide (And.intro R1 f1)
  clear HN g1 R1 f1 q1
  go_wp2_with fail
  refine (unhide HT).mono ?_
  rintro e w2 ⟨rfl, e2⟩
  have e2' := e2.symm
  clear e2
  subst e2'
  by_cases ht : tagE C.l n = 1
  · have hin := tagE_in (l := C.l) (i := n) (by rw [ht]; decide)
    obtain ⟨k, rfl⟩ : ∃ k : Nat, n = k := ⟨n.toNat, by omega⟩
    obtain ⟨b, o, rfl, hE2⟩ := hE.2.resolve_left (by omega)
    obtain ⟨q0, q1, q2, q3, q4⟩ := ents_at hE2 (k := k) (by omega)
    have hk0 : (0 : Int) ≤ (k : Int) := by omega
    have hk1 : (k : Int) < (C.l.length : Int) := by omega
    have hmem : Hid (∃ x ∈ C.l, (atE C.l (k : Int)).text = x.text) := by
      have hl : k < C.l.length := by omega
      refine hide ⟨C.l[k], List.getElem_mem hl, ?_⟩
      unfold atE
      rw [if_pos (Int.natCast_nonneg _), Int.toNat_natCast, List.getElem?_eq_getElem hl]
      rfl
    have HGU : Hid (Got (utfR C.l) C.bs i en (atE C.l (k : Int)).text j ej) := hide ⟨(unhide HG).1, fun e v0 r hr => by
      unfold utfR at hr
      obtain ⟨⟨m, s1⟩, ha, hr⟩ := Option.bind_eq_some_iff.1 hr
      obtain ⟨rfl, e1, d1⟩ := (unhide HG).2 e _ _ ha
      simp only at hr
      rw [if_pos ht] at hr
      injection hr with hr
      injection hr with h1 h2
      exact ⟨h1, e1, d1.trans h2⟩⟩
    clear hE hE2 HT HG hn
    rw [ht]
    generalize atE C.l (k : Int) = y at *
    go_wp2
    go_ret
    obtain ⟨x, hx, e⟩ := unhide hmem
    exact ⟨_, _, _, rfl, .inr ⟨x, hx, e⟩, unhide HGU, (unhide HR).1, (unhide HR).2⟩
  · have ht' : (tagE C.l n != 1) = true := by simpa using ht
    have HGU : Hid (Got (utfR C.l) C.bs i en [] j ej) := hide ⟨(unhide HG).1, fun e v0 r hr => by
      unfold utfR at hr
      obtain ⟨⟨m, s1⟩, ha, hr⟩ := Option.bind_eq_some_iff.1 hr
      obtain ⟨rfl, e1, d1⟩ := (unhide HG).2 e _ _ ha
      simp only at hr
      rw [if_neg ht] at hr
      cases hr⟩
    clear hE HT HG hn ht
    generalize tagE C.l n = tt at *
    go_wp2
    go_ret
    exact ⟨[], _, _, rfl, .inl rfl, unhide HGU, (unhide HR).1, (unhide HR).2⟩
end Go.Proofs.YthhdfokcciibmaaGreatDoor

/- The landed class: its reader: className, readPool. -/
namespace Go.Proofs.YthhdfokcciibmaaGreatDoor
open Go.RowKit
set_option linter.unusedVariables false
set_option maxRecDepth 100000

def nameR (l : List Ent) (s : List UInt8) : Option (List UInt8 × List UInt8) := (uR 2 s).bind fun n => (clsR l n.1).bind fun x => some (x, n.2)
def superR (l : List Ent) (s : List UInt8) : Option (List UInt8 × List UInt8) := (uR 2 s).bind fun m => (if 0 < m.1 then clsR l m.1 else some []).bind fun x => some (x, m.2)
theorem Rd8.drewN {C : Cr} {i : Nat} {en : Bool} {W : World} (h : Rd8 C i en W) (k : Nat) : Rd8 C i en (W.drewN k) := h.below (below_drewN (Below.refl _ _) k)
theorem FX.drewN {C : Cr} {w W : World} (f : FX C w W) (hB : C.B ≤ w.heap.size) (k : Nat) : FX C w (W.drewN k) := f.on (below_drewN (Below.refl _ _) k) hB

set_option maxHeartbeats 800000 in
theorem rName_any (C : Cr) (i : Nat) (en : Bool) (w : World) (h : Rd8 C i en w) :
    Calls Tryz.prog 99 #[.pointer (some ⟨C.X, 0, none⟩)] w fun e w' => ∃ s i' en', e = .returned (.string ⟨List.toArray s⟩) ∧ (s = [] ∨ ∃ x ∈ C.l, s = x.text) ∧ Got (nameR C.l) C.bs i en s i' en' ∧ Got (superR C.l) C.bs i en s i' en' ∧ Rd8 C i' en' w' ∧ FX C w w' := by
  have HN := hide (rNumber_any C i en w h 2 (by omega))
  have hB := h.hB
  clear h
  go_enter Tryz.func99, Tryz.ntmps99
  go_wp2_with fail
  refine (unhide HN).mono ?_
  rintro e w1 ⟨n, j, ej, rfl, hn, g1, R1, f1⟩
  obtain ⟨a, c, q1, hE⟩ := R1.es
  have c1 := bx_cell q1 1 _ rfl
  have HT := hide (ctagAt_any w1 a C.l.length c C.l hE (by have := R1.few; omega) n (by unfold fitI; omega))
  have HG := hide g1
  have HR := hide (And.intro R1 f1)
  clear HN g1 R1 f1 q1
  go_wp2_with fail
  refine (unhide HT).mono ?_
  rintro e w2 ⟨rfl, e2⟩
  have e2' := e2.symm
  clear e2
  subst e2'
  by_cases ht : tagE C.l n = 7
  · have hin := tagE_in (l := C.l) (i := n) (by rw [ht]; decide)
    have hA := (unhide HR).1.cl n ht
    have hin2 := tagE_in (l := C.l) (i := (atE C.l n).a) (by rw [hA]; decide)
    obtain ⟨k, rfl⟩ : ∃ k : Nat, n = k := ⟨n.toNat, by omega⟩
    obtain ⟨k2, hk2⟩ : ∃ k2 : Nat, (atE C.l (k : Int)).a = k2 := ⟨(atE C.l (k : Int)).a.toNat, by omega⟩
    obtain ⟨b, o, rfl, hE2⟩ := hE.2.resolve_left (by omega)
    obtain ⟨q0, q1, q2, q3, q4⟩ := ents_at hE2 (k := k) (by omega)
    obtain ⟨r0, r1, r2, r3, r4⟩ := ents_at hE2 (k := k2) (by omega)
    rw [hk2] at q3 hin2
    have hk0 : (0 : Int) ≤ (k : Int) := by omega
    have hk1 : (k : Int) < (C.l.length : Int) := by omega
    have hk3 : (0 : Int) ≤ (k2 : Int) := by omega
    have hk4 : (k2 : Int) < (C.l.length : Int) := by omega
    have hmem : Hid (∃ x ∈ C.l, (atE C.l (k2 : Int)).text = x.text) := by
      have hl : k2 < C.l.length := by omega
      refine hide ⟨C.l[k2], List.getElem_mem hl, ?_⟩
      unfold atE
      rw [if_pos (Int.natCast_nonneg _), Int.toNat_natCast, List.getElem?_eq_getElem hl]
      rfl
    have hcr : clsR C.l (k : Int) = some (atE C.l (k2 : Int)).text := by
      unfold clsR
      rw [if_pos ht, hk2]
    have HGU : Hid (Got (nameR C.l) C.bs i en (atE C.l (k2 : Int)).text j ej) := hide ⟨(unhide HG).1, fun e v0 r hr => by
      unfold nameR at hr
      obtain ⟨⟨m, s1⟩, ha, hr⟩ := Option.bind_eq_some_iff.1 hr
      obtain ⟨rfl, e1, d1⟩ := (unhide HG).2 e _ _ ha
      simp only at hr
      rw [hcr, Option.bind_some] at hr
      injection hr with hr
      injection hr with h1 h2
      exact ⟨h1, e1, d1.trans h2⟩⟩
    have HGV : Hid (Got (superR C.l) C.bs i en (atE C.l (k2 : Int)).text j ej) := hide ⟨(unhide HG).1, fun e v0 r hr => by
      unfold superR at hr
      obtain ⟨⟨m, s1⟩, ha, hr⟩ := Option.bind_eq_some_iff.1 hr
      obtain ⟨rfl, e1, d1⟩ := (unhide HG).2 e _ _ ha
      simp only at hr
      have hz := (unhide HR).1.z0
      have hpos : 0 < (k : Int) := by
        rcases Nat.eq_zero_or_pos k with h0 | h0
        · rw [h0] at ht
          exact absurd ht hz
        · omega
      rw [if_pos hpos, hcr, Option.bind_some] at hr
      injection hr with hr
      injection hr with h1 h2
      exact ⟨h1, e1, d1.trans h2⟩⟩
    clear hE hE2 HT HG hn hA hcr hk2 hin hin2
    rw [ht]
    generalize atE C.l (k : Int) = y at *
    generalize atE C.l (k2 : Int) = y2 at *
    go_wp2
    go_quiet (fail)
    go_wp2
    go_ret
    obtain ⟨x, hx, e⟩ := unhide hmem
    exact ⟨_, _, _, rfl, .inr ⟨x, hx, e⟩, unhide HGU, unhide HGV, (unhide HR).1.drewN _, (unhide HR).2.drewN hB _⟩
  · have ht' : (tagE C.l n != 7) = true := by simpa using ht
    have hcr : clsR C.l n = none := by
      unfold clsR
      rw [if_neg ht]
    have HGU : Hid (Got (nameR C.l) C.bs i en [] j ej) := hide ⟨(unhide HG).1, fun e v0 r hr => by
      unfold nameR at hr
      obtain ⟨⟨m, s1⟩, ha, hr⟩ := Option.bind_eq_some_iff.1 hr
      obtain ⟨rfl, e1, d1⟩ := (unhide HG).2 e _ _ ha
      simp only at hr
      rw [hcr] at hr
      cases hr⟩
    have HGV : Hid (Got (superR C.l) C.bs i en [] j ej) := hide ⟨(unhide HG).1, fun e v0 r hr => by
      unfold superR at hr
      obtain ⟨⟨m, s1⟩, ha, hr⟩ := Option.bind_eq_some_iff.1 hr
      obtain ⟨rfl, e1, d1⟩ := (unhide HG).2 e _ _ ha
      simp only at hr
      by_cases hp : 0 < n
      · rw [if_pos hp, hcr] at hr
        cases hr
      · rw [if_neg hp, Option.bind_some] at hr
        injection hr with hr
        injection hr with h1 h2
        exact ⟨h1, e1, d1.trans h2⟩⟩
    clear hE HT HG hn ht hcr
    generalize tagE C.l n = tt at *
    go_wp2
    go_ret
    exact ⟨[], _, _, rfl, .inl rfl, unhide HGU, unhide HGV, (unhide HR).1, (unhide HR).2⟩

theorem entsR_le {bs : List UInt8} {n : Nat} : ∀ (f : Nat) (l : List Ent) (i : Nat), i ≤ bs.length → (entsR bs n f l i).2.2 ≤ bs.length
  | 0, l, i, h => h
  | f + 1, l, i, h => by
    unfold entsR
    split
    · exact h
    · simp only
      split
      · exact entR_le h
      · exact entsR_le f _ _ (entR_le h)
theorem readP_at_le {bs : List UInt8} {i : Nat} (h : i ≤ bs.length) : (readP bs i).2.2 ≤ bs.length := by
  have hg := getW_le (bs := bs) (i := i) (k := 2) (sg := false) h
  unfold readP
  simp only
  split
  · exact hg
  · split
    · exact hg
    · have := entsR_le (bs := bs) (n := (getW bs i 2 false).1.toNat) (getW bs i 2 false).1.toNat [ent0] _ hg
      split
      · exact this
      · split
        · exact this
        · exact this
/-- A pool that was read leads where it must. -/
theorem readP_leads {bs : List UInt8} {i : Nat} (h : (readP bs i).2.1 = 0) : checkP (readP bs i).1 = true := by
  unfold readP at h ⊢
  simp only at h ⊢
  split
  · rename_i h1
    rw [if_pos h1] at h
    exact absurd h h1
  · rename_i h1
    rw [if_neg h1] at h
    split
    · rename_i h2
      rw [if_pos h2] at h
      exact absurd (show (70 : Int) = 0 from h) (by decide)
    · rename_i h2
      rw [if_neg h2] at h
      split
      · rename_i h3
        rw [if_pos h3] at h
        exact absurd h h3
      · rename_i h3
        rw [if_neg h3] at h
        split
        · rename_i h4
          rw [if_pos h4] at h
          exact absurd (show (70 : Int) = 0 from h) (by decide)
        · rename_i h4
          generalize checkP _ = b at *
          cases b
          · exact absurd (.inr rfl) h4
          · rfl
theorem checkP_cl {l : List Ent} (h : checkP l = true) : l.length ≤ 1024 ∧ (∀ i : Int, tagE l i = 7 → tagE l (atE l i).a = 1) ∧ tagE l 0 ≠ 7 := by
  have hc := (checkP_all l).1 h
  refine ⟨hc.1.2, fun i hi => ?_, ?_⟩
  · have hin := tagE_in (l := l) (i := i) (by rw [hi]; decide)
    obtain ⟨k, rfl⟩ : ∃ k : Nat, i = k := ⟨i.toNat, by omega⟩
    have hl : k < l.length := by omega
    have hr := hc.2 k hl
    have ha : atE l (k : Int) = l[k] := by rw [atE_nat, List.getElem?_eq_getElem hl]; rfl
    have h7 : (l[k]).tag = 7 := by rw [← ha]; exact hi
    rw [ha]
    have ho : okE l l[k] = true := by
      unfold rightAt at hr
      rw [ha] at hr
      split at hr
      · have h0 := of_decide_eq_true hr
        rw [h0] at h7
        exact absurd h7 (by decide)
      · rw [Bool.and_eq_true] at hr
        exact hr.1
    unfold okE at ho
    simp only [h7] at ho
    simp at ho
    exact ho.1
  · unfold checkP at h
    simp only [Bool.and_eq_true, decide_eq_true_eq] at h
    unfold tagE atE
    rw [if_pos (by decide)]
    show ((l[(0 : Int).toNat]?).getD ent0).tag ≠ 7
    have : (0 : Int).toNat = 0 := rfl
    rw [this, h.1.2]
    decide

/-- What readPool leaves. -/
def PoolPost (X x B : Nat) (bs : List UInt8) (i : Nat) (en : Bool) (G : List Ent × Int × Nat) (w : World) (e : Ending) (w' : World) : Prop :=
  ∃ i' en' l, e = .returned (.tuple #[]) ∧ (en = true → en' = true) ∧ (en = false → G.2.1 = 0 → l = G.1 ∧ en' = false ∧ i' = G.2.2) ∧ (en' = false → G.2.1 = 0) ∧ Rd8 ⟨X, x, B, bs, l⟩ i' en' w' ∧ FX ⟨X, x, B, bs, []⟩ w w'
set_option maxHeartbeats 800000 in
theorem rPool_any (C : Cr) (hl : C.l = []) (i : Nat) (en : Bool) (w : World) (h : Rd8 C i en w) :
    Calls Tryz.prog 98 #[.pointer (some ⟨C.X, 0, none⟩)] w (PoolPost C.X C.x C.B C.bs i en (readP C.bs i) w) := by
  obtain ⟨X, x, B, bs, l0⟩ := C
  simp only at hl
  subst hl
  obtain ⟨F, hF⟩ := h.rd
  have hU := kRead_all F w B x bs i hF h.len h.hi
  have hck := readP_leads (bs := bs) (i := i)
  have hnil := readP_nil (bs := bs) (i := i)
  have hst : ∀ W a c l j e1, Kx x w W → Below B w W → (∃ F', RD F' W B x bs j) → j ≤ bs.length → PB W a c l → (l = [] ∨ checkP l = true) →
      Rd8 ⟨X, x, B, bs, l⟩ j e1 ((W.setCell ⟨X, 1, none⟩ (.slice a l.length c)).setCell ⟨X, 2, none⟩ (.bool e1)) ∧ FX ⟨X, x, B, bs, []⟩ w ((W.setCell ⟨X, 1, none⟩ (.slice a l.length c)).setCell ⟨X, 2, none⟩ (.bool e1)) := fun W a c l j e1 k1 k2 k3 k4 k5 k6 => by
    have hs : ∀ k, k ≠ X → ((W.setCell ⟨X, 1, none⟩ (.slice a l.length c)).setCell ⟨X, 2, none⟩ (.bool e1)).heap[k]? = W.heap[k]? := fun k hk => (Below.heap_setCell _ _ _ _ hk).trans (Below.heap_setCell _ _ _ _ hk)
    obtain ⟨a0, c0, q1, _⟩ := h.pl
    have hXl := h.X_lt
    have hXb : W.heap[X]? = _ := (k1 X hXl h.ne).trans q1
    have hne : ∀ (k : Nat) (Z : Array Value) (T : TypeId), W.heap[k]? = some (.cells Z T (0, 0)) → T ≠ 127 → k ≠ X := fun k Z T hk hT e => by
      subst e
      rw [hXb] at hk
      injection hk with hk
      injection hk with _ hk
      exact hT hk.symm
    obtain ⟨F', y, d, hF', h3⟩ := k3
    have hcl : l.length ≤ 1024 ∧ (∀ i : Int, tagE l i = 7 → tagE l (atE l i).a = 1) ∧ tagE l 0 ≠ 7 := by
      rcases k6 with rfl | k6
      · refine ⟨by simp, fun i hi => ?_, by decide⟩
        have := tagE_in (l := []) (i := i) (by rw [hi]; decide)
        simp at this
        omega
      · exact checkP_cl k6
    refine ⟨⟨h.ne, h.hX, ⟨F', y, d, hF', h3.keep (hs _ (fun e => h.ne e.symm)) ?_⟩, k4, h.len, ⟨a, c, heap_setCell_same _ _ 2 _ _ _ (heap_setCell_same _ _ 1 _ _ _ hXb), ?_⟩, hcl.1, hcl.2.1, hcl.2.2, h.one⟩, (k2.setCell (p := ⟨X, 1, none⟩) h.hX _).setCell (p := ⟨X, 2, none⟩) h.hX _, fun k hk hn => (hs k (fun e => hn (.inl e))).trans (k1 k hk (fun e => hn (.inr e)))⟩
    · rcases h3.row.2 with ⟨hv, _⟩ | ⟨g, cap, cur, hv, _, hh, _⟩
      · cases hv
      · injection hv with hv
        injection hv with hv
        injection hv with hv
        subst hv
        exact hs _ (hne _ _ _ hh (by decide))
    · rcases k5 with k5 | ⟨q, e1, e2, k5⟩
      · exact .inl k5
      · exact .inr ⟨q, e1, e2, (hs _ (hne _ _ _ k5 (by decide))).trans k5⟩
  have HST := hide hst
  have HCK := hide hck
  have hjl : (readP bs i).2.1 = 0 → (readP bs i).2.2 ≤ bs.length := fun _ => readP_at_le h.hi
  have HJL := hide hjl
  have HNIL := hide hnil
  have hi := h.hi
  obtain ⟨a, c, q1, _⟩ := h.pl
  have c0 := bx_cell q1 0 _ rfl
  have z1 := bx_thaw q1 1
  have z2 := bx_thaw q1 2
  have hXl := h.X_lt
  have hne := h.ne
  have HQ1 := hide q1
  have HU := hide hU
  clear hst hck hjl hnil h hU hF q1
  generalize readP bs i = G at *
  obtain ⟨L, er, jj⟩ := G
  simp only at HU HCK HJL HNIL ⊢
  go_enter Tryz.func98, Tryz.ntmps98
  go_wp2_with fail
  refine (unhide HU).mono ?_
  rintro e w1 ⟨⟨a1, c1, rfl, _, pb⟩, r1, r2, r3, r4⟩
  have hXb : w1.heap[X]? = some (.cells #[.pointer (some ⟨x, 0, none⟩), .slice a 0 c, .bool en] 127 (0, 0)) := (r4 X hXl hne).trans (unhide HQ1)
  have d1 := bx_cell hXb 1 _ rfl
  have d2 := bx_cell hXb 2 _ rfl
  have y1 := bx_thaw hXb 1
  have y2 := bx_thaw hXb 2
  have PBH := hide pb
  have H1 := hide r1
  have H2 := hide r2.below
  have H3 := hide r3
  have H4 := hide r4
  clear HU c0 z1 z2 r1 r2 r3 r4 pb HQ1 hXb
  by_cases he : er = 0
  · subst he
    obtain ⟨F', hF', _⟩ := unhide H1 rfl
    have HR := hide (fun e1 => unhide HST w1 a1 c1 L jj e1 (unhide H4) (unhide H2) ⟨F', hF'⟩ (unhide HJL rfl) (unhide PBH) (.inr (unhide HCK rfl)))
    clear HST HCK HJL HNIL PBH H1 H2 H3 H4 hF'
    cases en with
    | true =>
      go_wp2
      go_end0
      exact ⟨jj, true, L, rfl, fun _ => rfl, (fun e => by cases e), (fun e => by cases e), (unhide HR true).1, (unhide HR true).2⟩
    | false =>
      go_wp2
      go_end0
      exact ⟨jj, false, L, rfl, (fun e => e), fun _ _ => ⟨rfl, rfl, rfl⟩, fun _ => rfl, (unhide HR false).1, (unhide HR false).2⟩
  · have hL := unhide HNIL he
    subst hL
    have he' : (er != 0) = true := by simp [he]
    have HR := hide (unhide HST w1 a1 c1 [] i true (unhide H4) (unhide H2) ⟨F, unhide H3 he⟩ hi (unhide PBH) (.inl rfl))
    have HE := hide he
    clear HST HCK HJL HNIL PBH H1 H2 H3 H4
    simp only [List.length_nil] at *
    cases en with
    | true =>
      go_wp2
      go_end0
      exact ⟨i, true, [], rfl, fun _ => rfl, (fun e => by cases e), (fun e => by cases e), (unhide HR).1, (unhide HR).2⟩
    | false =>
      go_wp2
      go_end0
      exact ⟨i, true, [], rfl, fun _ => rfl, fun _ e => absurd e (unhide HE), (fun e => by cases e), (unhide HR).1, (unhide HR).2⟩
end Go.Proofs.YthhdfokcciibmaaGreatDoor

/- The landed class: its reader: handler, field, kind, bytes. -/
namespace Go.Proofs.YthhdfokcciibmaaGreatDoor
open Go.RowKit
set_option linter.unusedVariables false
set_option maxRecDepth 100000

theorem FX.tab {C : Cr} {w w' : World} (f : FX C w w') (h1 : 1 ≤ C.B) (h : Tab8 w) : Tab8 w' := fun i hi => by
  have := h i hi
  rw [World.cell?_of_block (w := w) (w' := w')]
  · exact this
  · exact f.below.block 0 (by omega)
theorem Rd8.cells {C : Cr} {i : Nat} {en : Bool} {W : World} (h : Rd8 C i en W) {R : Nat} {Z : Array Value} {T : TypeId} (hR : W.heap[R]? = some (.cells Z T (0, 0))) (hT : ¬ (T = 127 ∨ T = 159 ∨ T = 5 ∨ T = 55)) (o : Nat) (vs : List Value) : Rd8 C i en (W.setCells R o vs) :=
  h.keep fun k Z' T' hk hT' => heap_cells_other R vs o W k fun e => by
    subst e
    rw [hR] at hk
    injection hk with hk
    injection hk with _ hk
    subst hk
    exact hT hT'
theorem FX.cells {C : Cr} {w W : World} (f : FX C w W) {R : Nat} (hR : w.heap.size ≤ R) (hB : C.B ≤ w.heap.size) (o : Nat) (vs : List Value) : FX C w (W.setCells R o vs) :=
  ⟨below_cells vs o f.below (Nat.le_trans hB hR), fun k hk hn => (heap_cells_other R vs o W k (by omega)).trans (f.other k hk hn)⟩
theorem bx_cells {R : Nat} {T : TypeId} : ∀ (vs A P : List Value) (W : World), W.heap[R]? = some (.cells (A ++ P).toArray T (0, 0)) → P.length = vs.length → (W.setCells R A.length vs).heap[R]? = some (.cells (A ++ vs).toArray T (0, 0))
  | [], A, P, W, h, hl => by
    obtain rfl := List.eq_nil_of_length_eq_zero hl
    exact h
  | v :: vs, A, [], W, h, hl => by simp at hl
  | v :: vs, A, p :: P, W, h, hl => by
    have h1 := heap_setCell_same W R A.length _ _ v h
    have e1 : (A ++ p :: P).toArray.setIfInBounds A.length v = ((A ++ [v]) ++ P).toArray := by
      apply Array.ext'
      simp
    rw [e1] at h1
    have h2 := bx_cells vs (A ++ [v]) P _ h1 (by simpa using hl)
    rw [List.length_append, List.length_cons, List.length_nil, List.append_assoc] at h2
    exact h2
theorem bx_whole {R : Nat} {T : TypeId} {W : World} (P vs : List Value) (h : W.heap[R]? = some (.cells P.toArray T (0, 0))) (hl : P.length = vs.length) : (W.setCells R 0 vs).heap[R]? = some (.cells vs.toArray T (0, 0)) := bx_cells vs [] P W h hl

theorem fit4 {n : Int} {P : Prop} (h : 0 ≤ n ∧ n < 4294967296 ∧ P) : fitI n := by obtain ⟨h1, h2, _⟩ := h; unfold fitI; omega
theorem sizeHandler8 : (Tryz.prog.info? 93).map (·.size) = some 4 := by kernel_rfl
theorem sizeField8 : (Tryz.prog.info? 58).map (·.size) = some 3 := by kernel_rfl
theorem sizeType8 : (Tryz.prog.info? 143).map (·.size) = some 2 := by kernel_rfl

set_option maxHeartbeats 800000 in
theorem rHandler_any (C : Cr) (i : Nat) (en : Bool) (w : World) (h : Rd8 C i en w) :
    Calls Tryz.prog 149 #[.pointer (some ⟨C.X, 0, none⟩)] w fun e w' => ∃ x i' en', e = .returned (.agg (hdc x).toArray) ∧ HdFit x ∧ Got hdR C.bs i en x i' en' ∧ Rd8 C i' en' w' ∧ FX C w w' := by
  have hB := h.hB
  obtain ⟨w0, e0, f0, r0⟩ : ∃ w0, w.alloc (.cells #[.int .i64 0, .int .i64 0, .int .i64 0, .int .i64 0] 93) = w0 ∧ Below w.heap.size w w0 ∧ w0.heap[w.heap.size]? = some (.cells #[.int .i64 0, .int .i64 0, .int .i64 0, .int .i64 0] 93 (0, 0)) := ⟨_, rfl, (Below.refl _ _).alloc (Nat.le_refl _) _, heap_alloc_new w _⟩
  have R0 := h.below f0
  have F0 : FX C w w0 := (FX.refl C w).on f0 hB
  have HN := hide (rNumber_any C i en w0 R0 2 (by omega))
  have H0 := hide (And.intro R0 (And.intro F0 r0))
  clear h f0 r0 R0 F0
  go_enter Tryz.func149, Tryz.ntmps149
  go_wp2_with fail
  refine (unhide HN).mono ?_
  rintro e w1 ⟨n1, j1, e1, rfl, b1, g1, R1, f1⟩
  clear HN
  have H1 := hide (And.intro b1 (And.intro g1 (And.intro R1 f1)))
  have HN := hide (rNumber_any C j1 e1 w1 R1 2 (by omega))
  clear b1 g1 R1 f1 e0
  go_wp2_with fail
  refine (unhide HN).mono ?_
  rintro e w2 ⟨n2, j2, e2, rfl, b2, g2, R2, f2⟩
  clear HN
  have H2 := hide (And.intro b2 (And.intro g2 (And.intro R2 f2)))
  have HN := hide (rNumber_any C j2 e2 w2 R2 2 (by omega))
  clear b2 g2 R2 f2
  go_wp2_with fail
  refine (unhide HN).mono ?_
  rintro e w3 ⟨n3, j3, e3, rfl, b3, g3, R3, f3⟩
  clear HN
  have H3 := hide (And.intro b3 (And.intro g3 (And.intro R3 f3)))
  have HN := hide (rNumber_any C j3 e3 w3 R3 2 (by omega))
  clear b3 g3 R3 f3
  go_wp2_with fail
  refine (unhide HN).mono ?_
  rintro e w4 ⟨n4, j4, e4, rfl, b4, g4, R4, f4⟩
  clear HN
  obtain ⟨R0, F0, r0⟩ := unhide H0
  obtain ⟨b1, g1, R1, f1⟩ := unhide H1
  obtain ⟨b2, g2, R2, f2⟩ := unhide H2
  obtain ⟨b3, g3, R3, f3⟩ := unhide H3
  have r4 := R0.blk (f1.trans (f2.trans (f3.trans f4))) r0 (by decide) (by decide)
  have c0 := bx_cell r4 0 _ rfl
  have c1 := bx_cell r4 1 _ rfl
  have c2 := bx_cell r4 2 _ rfl
  have c3 := bx_cell r4 3 _ rfl
  have z0 := bx_thaw r4 0
  have z1 := bx_thaw r4 1
  have z2 := bx_thaw r4 2
  have z3 := bx_thaw r4 3
  have HG : Hid (Got hdR C.bs i en ⟨n1, n2, n3, n4⟩ j4 e4) := hide ⟨fun e => g4.1 (g3.1 (g2.1 (g1.1 e))), fun e v0 r hr => by
    unfold hdR at hr
    obtain ⟨⟨m1, s1⟩, ha, hr⟩ := Option.bind_eq_some_iff.1 hr
    obtain ⟨rfl, k1, d1⟩ := g1.2 e _ _ ha
    simp only at hr
    rw [← d1] at hr
    obtain ⟨⟨m2, s2⟩, ha, hr⟩ := Option.bind_eq_some_iff.1 hr
    obtain ⟨rfl, k2, d2⟩ := g2.2 k1 _ _ ha
    simp only at hr
    rw [← d2] at hr
    obtain ⟨⟨m3, s3⟩, ha, hr⟩ := Option.bind_eq_some_iff.1 hr
    obtain ⟨rfl, k3, d3⟩ := g3.2 k2 _ _ ha
    simp only at hr
    rw [← d3] at hr
    obtain ⟨⟨m4, s4⟩, ha, hr⟩ := Option.bind_eq_some_iff.1 hr
    obtain ⟨rfl, k4, d4⟩ := g4.2 k3 _ _ ha
    injection hr with hr
    injection hr with h1 h2
    exact ⟨h1, k4, d4.trans h2⟩⟩
  have HF := hide (show HdFit ⟨n1, n2, n3, n4⟩ from ⟨fit4 b1, fit4 b2, fit4 b3, fit4 b4⟩)
  have HR := hide (And.intro R4 (And.intro (F0.trans (f1.trans (f2.trans (f3.trans f4)))) r4))
  clear H0 H1 H2 H3 R0 F0 r0 b1 g1 R1 f1 b2 g2 R2 f2 b3 g3 R3 f3 b4 g4 R4 f4 r4
  go_wp2_with fail
  obtain ⟨R4, F4, r4⟩ := unhide HR
  refine bodyPost_ret (v := .agg (hdc ⟨n1, n2, n3, n4⟩).toArray) ?_ rfl ⟨⟨n1, n2, n3, n4⟩, j4, e4, rfl, unhide HF, unhide HG, R4.cells r4 (by decide) 0 (hdc ⟨n1, n2, n3, n4⟩), F4.cells (Nat.le_refl _) hB 0 (hdc ⟨n1, n2, n3, n4⟩)⟩
  exact results_cell_row Tryz.results149 _ _ w.heap.size 93 _ (0, 0) _ rfl (bx_whole [.int .i64 0, .int .i64 0, .int .i64 0, .int .i64 0] (hdc ⟨n1, n2, n3, n4⟩) r4 rfl) Tryz.underlying93 rfl sizeHandler8
end Go.Proofs.YthhdfokcciibmaaGreatDoor

/- The landed class: its reader: field. -/
namespace Go.Proofs.YthhdfokcciibmaaGreatDoor
open Go.RowKit
set_option linter.unusedVariables false
set_option maxRecDepth 100000

theorem got_bind {α γ : Type} {o : List UInt8 → Option (α × List UInt8)} {bs : List UInt8} {i i1 : Nat} {en e1 : Bool} {v : α} (g : Got o bs i en v i1 e1) (e : en = false) {k : α × List UInt8 → Option γ} {z : γ} (hr : (o (bs.drop i)).bind k = some z) : e1 = false ∧ k (v, bs.drop i1) = some z := by
  obtain ⟨⟨m, s⟩, ha, hr⟩ := Option.bind_eq_some_iff.1 hr
  obtain ⟨rfl, k1, d1⟩ := g.2 e _ _ ha
  exact ⟨k1, by rw [d1]; exact hr⟩
theorem got_end {α : Type} {v v0 : α} {s r : List UInt8} (h : some (v, s) = some (v0, r)) : v = v0 ∧ s = r := by
  injection h with h
  injection h with h1 h2
  exact ⟨h1, h2⟩
/-- What a text of the pool is. -/
def Txt8 (l : List Ent) (s : List UInt8) : Prop := s = [] ∨ ∃ x ∈ l, s = x.text

set_option maxHeartbeats 800000 in
theorem rField_any (C : Cr) (i : Nat) (en : Bool) (w : World) (h : Rd8 C i en w) :
    Calls Tryz.prog 101 #[.pointer (some ⟨C.X, 0, none⟩)] w fun e w' => ∃ x i' en', e = .returned (.agg (fdc x).toArray) ∧ (fitI x.acc ∧ Txt8 C.l x.name ∧ Txt8 C.l x.type) ∧ Got (fieldR C.l) C.bs i en x i' en' ∧ Rd8 C i' en' w' ∧ FX C w w' := by
  have hB := h.hB
  obtain ⟨w0, e0, f0, r0⟩ : ∃ w0, w.alloc (.cells #[.int .i64 0, .string ⟨#[]⟩, .string ⟨#[]⟩] 58) = w0 ∧ Below w.heap.size w w0 ∧ w0.heap[w.heap.size]? = some (.cells #[.int .i64 0, .string ⟨#[]⟩, .string ⟨#[]⟩] 58 (0, 0)) := ⟨_, rfl, (Below.refl _ _).alloc (Nat.le_refl _) _, heap_alloc_new w _⟩
  have R0 := h.below f0
  have F0 : FX C w w0 := (FX.refl C w).on f0 hB
  have HN := hide (rNumber_any C i en w0 R0 2 (by omega))
  have H0 := hide (And.intro R0 (And.intro F0 r0))
  clear h f0 r0 R0 F0
  go_enter Tryz.func101, Tryz.ntmps101
  go_wp2_with fail
  refine (unhide HN).mono ?_
  rintro e w1 ⟨n1, j1, e1, rfl, b1, g1, R1, f1⟩
  clear HN
  have H1 := hide (And.intro b1 (And.intro g1 (And.intro R1 f1)))
  have HN := hide (rText_any C j1 e1 w1 R1)
  clear b1 g1 R1 f1 e0
  go_wp2_with fail
  refine (unhide HN).mono ?_
  rintro e w2 ⟨n2, j2, e2, rfl, b2, g2, R2, f2⟩
  clear HN
  have H2 := hide (And.intro b2 (And.intro g2 (And.intro R2 f2)))
  have HN := hide (rText_any C j2 e2 w2 R2)
  clear b2 g2 R2 f2
  go_wp2_with fail
  refine (unhide HN).mono ?_
  rintro e w3 ⟨n3, j3, e3, rfl, b3, g3, R3, f3⟩
  clear HN
  obtain ⟨w4, e4, b4, r4⟩ : ∃ w4, w3.alloc (.cells #[.int .i64 n1, .string ⟨n2.toArray⟩, .string ⟨n3.toArray⟩] 58) = w4 ∧ Below w3.heap.size w3 w4 ∧ w4.heap[w3.heap.size]? = some (.cells #[.int .i64 n1, .string ⟨n2.toArray⟩, .string ⟨n3.toArray⟩] 58 (0, 0)) := ⟨_, rfl, (Below.refl _ _).alloc (Nat.le_refl _) _, heap_alloc_new w3 _⟩
  have H3 := hide (And.intro b3 (And.intro g3 (And.intro R3 f3)))
  have H4 := hide (And.intro b4 r4)
  clear b3 g3 R3 f3 b4 r4
  go_wp2_with fail
  obtain ⟨b3, g3, R3, f3⟩ := unhide H3
  obtain ⟨b4, r4⟩ := unhide H4
  clear e4 H3 H4
  have R4 := R3.below b4
  have b5 : Below w4.heap.size w4 (w4.alloc (.cells #[.int .i64 2] 3)) := (Below.refl _ _).alloc (Nat.le_refl _) _
  have R5 := R4.below b5
  have r5 := (b5.block _ (lt_of_heap r4)).trans r4
  have F5 : FX C w3 (w4.alloc (.cells #[.int .i64 2] 3)) := ((FX.refl C w3).on b4 R3.hB).on b5 R3.hB
  refine Calls.mono (rPass_any C j3 e3 _ R5 [2] (by simp) w4.heap.size 1 1 rfl (by omega) (heap_alloc_new w4 _)) ?_
  rintro e w6 ⟨j6, e6, rfl, g6, R6, f6⟩
  obtain ⟨R0, F0, r0⟩ := unhide H0
  obtain ⟨b1, g1, R1, f1⟩ := unhide H1
  obtain ⟨b2, g2, R2, f2⟩ := unhide H2
  have fall := f1.trans (f2.trans (f3.trans (F5.trans f6)))
  have r6 := R0.blk fall r0 (by decide) (by decide)
  have l6 := R5.blk f6 r5 (by decide) (by decide)
  have c0 := bx_cell r6 0 _ rfl
  have c1 := bx_cell r6 1 _ rfl
  have c2 := bx_cell r6 2 _ rfl
  have z0 := bx_thaw r6 0
  have z1 := bx_thaw r6 1
  have z2 := bx_thaw r6 2
  have d0 := bx_cell l6 0 _ rfl
  have d1 := bx_cell l6 1 _ rfl
  have d2 := bx_cell l6 2 _ rfl
  have HG : Hid (Got (fieldR C.l) C.bs i en ⟨n1, n2, n3⟩ j6 e6) := hide ⟨fun e => g6.1 (g3.1 (g2.1 (g1.1 e))), fun e v0 r hr => by
    unfold fieldR at hr
    obtain ⟨k1, hr⟩ := got_bind g1 e hr
    obtain ⟨k2, hr⟩ := got_bind g2 k1 hr
    obtain ⟨k3, hr⟩ := got_bind g3 k2 hr
    obtain ⟨⟨m, s⟩, ha, hr⟩ := Option.bind_eq_some_iff.1 hr
    obtain ⟨_, k6, d6⟩ := g6.2 k3 () s (by show (uR 2 _).bind _ = _; simp only at ha; rw [ha]; rfl)
    obtain ⟨h1, h2⟩ := got_end hr
    exact ⟨h1, k6, d6.trans h2⟩⟩
  have HF : Hid (fitI n1 ∧ Txt8 C.l n2 ∧ Txt8 C.l n3) := hide ⟨fit4 b1, b2, b3⟩
  have HR := hide (And.intro R6 (And.intro (F0.trans fall) r6))
  clear H0 H1 H2 R0 F0 r0 b1 g1 R1 f1 b2 g2 R2 f2 b3 g3 R3 f3 b4 r4 R4 b5 R5 r5 F5 g6 R6 f6 fall r6 l6
  go_wp2_with fail
  obtain ⟨R6, F6, r6⟩ := unhide HR
  refine bodyPost_ret (v := .agg (fdc ⟨n1, n2, n3⟩).toArray) ?_ rfl ⟨⟨n1, n2, n3⟩, j6, e6, rfl, unhide HF, unhide HG, R6.cells r6 (by decide) 0 (fdc ⟨n1, n2, n3⟩), F6.cells (Nat.le_refl _) hB 0 (fdc ⟨n1, n2, n3⟩)⟩
  exact results_cell_row Tryz.results101 _ _ w.heap.size 58 _ (0, 0) _ rfl (bx_whole [.int .i64 0, .string ⟨#[]⟩, .string ⟨#[]⟩] (fdc ⟨n1, n2, n3⟩) r6 rfl) Tryz.underlying58 rfl sizeField8

/-- The kind that a byte tells. -/
def kindN (n : Int) : Int := if n = 0 then 0 else if n = 1 then 1 else if n = 4 then 2 else if n = 5 then 3 else if n = 7 then 4 else -1
end Go.Proofs.YthhdfokcciibmaaGreatDoor

/- The landed class: its reader: kindOf, kind, bytes. -/
namespace Go.Proofs.YthhdfokcciibmaaGreatDoor
open Go.RowKit
set_option linter.unusedVariables false
set_option maxRecDepth 100000

set_option maxHeartbeats 800000 in
theorem kindOf_any (w : World) (hT : Tab8 w) (n : Int) :
    Calls Tryz.prog 167 #[.int .i64 n] w fun e w' => e = .returned (.int .i64 (kindN n)) ∧ w' = w := by
  have t0 := hT 0 (by omega)
  have t1 := hT 1 (by omega)
  have t2 := hT 2 (by omega)
  have t3 := hT 3 (by omega)
  have t4 := hT 4 (by omega)
  unfold kindB at t0 t1 t2 t3 t4
  simp at t0 t1 t2 t3 t4
  clear hT
  have ui : Tryz.prog.underlying 197 = some (.array 5 3) := Tryz.underlying197
  have i0 : ∀ w, (Instr.index 197 (.agg #[.int .i64 0, .int .i64 1, .int .i64 4, .int .i64 5, .int .i64 7]) (.int .i64 0)).run Tryz.prog w = .ok (.int .i64 0) w := fun w => by simp [Instr.index, asIntOf, run_underlying ui, go_sem]
  have i1 : ∀ w, (Instr.index 197 (.agg #[.int .i64 0, .int .i64 1, .int .i64 4, .int .i64 5, .int .i64 7]) (.int .i64 1)).run Tryz.prog w = .ok (.int .i64 1) w := fun w => by simp [Instr.index, asIntOf, run_underlying ui, go_sem]
  have i2 : ∀ w, (Instr.index 197 (.agg #[.int .i64 0, .int .i64 1, .int .i64 4, .int .i64 5, .int .i64 7]) (.int .i64 2)).run Tryz.prog w = .ok (.int .i64 4) w := fun w => by simp [Instr.index, asIntOf, run_underlying ui, go_sem]
  have i3 : ∀ w, (Instr.index 197 (.agg #[.int .i64 0, .int .i64 1, .int .i64 4, .int .i64 5, .int .i64 7]) (.int .i64 3)).run Tryz.prog w = .ok (.int .i64 5) w := fun w => by simp [Instr.index, asIntOf, run_underlying ui, go_sem]
  have i4 : ∀ w, (Instr.index 197 (.agg #[.int .i64 0, .int .i64 1, .int .i64 4, .int .i64 5, .int .i64 7]) (.int .i64 4)).run Tryz.prog w = .ok (.int .i64 7) w := fun w => by simp [Instr.index, asIntOf, run_underlying ui, go_sem]
  by_cases h0 : n = 0
  · subst h0
    go_enter Tryz.func167, Tryz.ntmps167
    go_wp2
    refine wp_loop_rounds 6 ?_
    rw [rounds_succ]
    go_wp2
    go_ret
    exact ⟨rfl, rfl⟩
  by_cases h1 : n = 1
  · subst h1
    go_enter Tryz.func167, Tryz.ntmps167
    go_wp2
    refine wp_loop_rounds 6 ?_
    rw [rounds_succ]
    go_wp2
    rw [rounds_succ]
    go_wp2
    go_ret
    exact ⟨rfl, rfl⟩
  by_cases h2 : n = 4
  · subst h2
    go_enter Tryz.func167, Tryz.ntmps167
    go_wp2
    refine wp_loop_rounds 6 ?_
    rw [rounds_succ]
    go_wp2
    rw [rounds_succ]
    go_wp2
    rw [rounds_succ]
    go_wp2
    go_ret
    exact ⟨rfl, rfl⟩
  by_cases h3 : n = 5
  · subst h3
    go_enter Tryz.func167, Tryz.ntmps167
    go_wp2
    refine wp_loop_rounds 6 ?_
    rw [rounds_succ]
    go_wp2
    rw [rounds_succ]
    go_wp2
    rw [rounds_succ]
    go_wp2
    rw [rounds_succ]
    go_wp2
    go_ret
    exact ⟨rfl, rfl⟩
  by_cases h4 : n = 7
  · subst h4
    go_enter Tryz.func167, Tryz.ntmps167
    go_wp2
    refine wp_loop_rounds 6 ?_
    rw [rounds_succ]
    go_wp2
    rw [rounds_succ]
    go_wp2
    rw [rounds_succ]
    go_wp2
    rw [rounds_succ]
    go_wp2
    rw [rounds_succ]
    go_wp2
    go_ret
    exact ⟨rfl, rfl⟩
  have e : kindN n = -1 := by unfold kindN; rw [if_neg h0, if_neg h1, if_neg h2, if_neg h3, if_neg h4]
  rw [e]
  have b0 : ((0 : Int) == n) = false := by simpa using fun e => h0 e.symm
  have b1 : ((1 : Int) == n) = false := by simpa using fun e => h1 e.symm
  have b2 : ((4 : Int) == n) = false := by simpa using fun e => h2 e.symm
  have b3 : ((5 : Int) == n) = false := by simpa using fun e => h3 e.symm
  have b4 : ((7 : Int) == n) = false := by simpa using fun e => h4 e.symm
  clear e h0 h1 h2 h3 h4
  go_enter Tryz.func167, Tryz.ntmps167
  go_wp2
  refine wp_loop_rounds 6 ?_
  rw [rounds_succ]
  go_wp2
  rw [rounds_succ]
  go_wp2
  rw [rounds_succ]
  go_wp2
  rw [rounds_succ]
  go_wp2
  rw [rounds_succ]
  go_wp2
  rw [rounds_succ]
  go_wp2
  go_ret
  exact ⟨rfl, rfl⟩

def kdR (l : List Ent) (s : List UInt8) : Option (Ty × List UInt8) := (uR 1 s).bind fun k =>
  if k.1 = 0 then some (⟨0, []⟩, k.2) else if k.1 = 1 then some (⟨1, []⟩, k.2) else if k.1 = 4 then some (⟨2, []⟩, k.2) else if k.1 = 5 then some (⟨3, []⟩, k.2)
  else if k.1 = 7 then (nameR l k.2).bind fun x => some (⟨4, x.1⟩, x.2) else none
theorem tyR_kd (l : List Ent) (loc : Bool) (s : List UInt8) : tyR l loc s = (kdR l s).bind fun t => some (if loc = true ∧ t.1.kind = 2 then [t.1, ⟨0, []⟩] else [t.1], t.2) := by
  unfold tyR kdR nameR
  cases uR 1 s with
  | none => rfl
  | some k =>
    obtain ⟨k, r⟩ := k
    simp only [Option.bind_some]
    split
    · simp
    · split
      · simp
      · split
        · cases loc <;> simp
        · split
          · simp
          · split
            · cases uR 2 r with
              | none => rfl
              | some n =>
                simp only [Option.bind_some]
                cases clsR l n.1 with
                | none => rfl
                | some x => simp
            · rfl

set_option maxHeartbeats 800000 in
theorem rKind_any (C : Cr) (i : Nat) (en : Bool) (w : World) (h : Rd8 C i en w) (hT : Tab8 w) :
    Calls Tryz.prog 159 #[.pointer (some ⟨C.X, 0, none⟩)] w fun e w' => ∃ x i' en', e = .returned (.agg (tyc x).toArray) ∧ (fitI x.kind ∧ Txt8 C.l x.name) ∧ Got (kdR C.l) C.bs i en x i' en' ∧ Rd8 C i' en' w' ∧ FX C w w' := by
  have hB := h.hB
  have hB1 := h.one
  obtain ⟨w0, e0, f0, r0⟩ : ∃ w0, w.alloc (.cells #[.int .i64 0, .string ⟨#[]⟩] 143) = w0 ∧ Below w.heap.size w w0 ∧ w0.heap[w.heap.size]? = some (.cells #[.int .i64 0, .string ⟨#[]⟩] 143 (0, 0)) := ⟨_, rfl, (Below.refl _ _).alloc (Nat.le_refl _) _, heap_alloc_new w _⟩
  have R0 := h.below f0
  have F0 : FX C w w0 := (FX.refl C w).on f0 hB
  have HN := hide (rNumber_any C i en w0 R0 1 (by omega))
  have H0 := hide (And.intro R0 (And.intro F0 (And.intro r0 (hT.below f0))))
  clear h f0 r0 R0 F0 hT
  go_enter Tryz.func159, Tryz.ntmps159
  go_wp2_with fail
  refine (unhide HN).mono ?_
  rintro e w1 ⟨n1, j1, e1, rfl, b1, g1, R1, f1⟩
  clear HN
  obtain ⟨R0, F0, r0, T0⟩ := unhide H0
  have HN := hide (kindOf_any w1 (f1.tab hB1 T0) n1)
  have H1 := hide (And.intro b1 (And.intro g1 (And.intro R1 f1)))
  clear b1 g1 R1 f1 e0 R0 F0 r0 T0
  go_wp2_with fail
  refine (unhide HN).mono ?_
  rintro e w2 ⟨rfl, e2⟩
  have e2' := e2.symm
  clear e2 HN
  subst e2'
  obtain ⟨kd, hkd⟩ : ∃ kd, kindN n1 = kd := ⟨_, rfl⟩
  have HKD := hide hkd
  rw [hkd]
  clear hkd
  have b4 : Below w1.heap.size w1 (w1.alloc (.cells #[.int .i64 kd, .string ⟨#[]⟩] 143)) := (Below.refl _ _).alloc (Nat.le_refl _) _
  have r4 : (w1.alloc (.cells #[.int .i64 kd, .string ⟨#[]⟩] 143)).heap[w1.heap.size]? = some (.cells #[.int .i64 kd, .string ⟨#[]⟩] 143 (0, 0)) := heap_alloc_new w1 _
  obtain ⟨R0, F0, r0, T0⟩ := unhide H0
  obtain ⟨b1, g1, R1, f1⟩ := unhide H1
  have R4 := R1.below b4
  have F4 : FX C w1 (w1.alloc (.cells #[.int .i64 kd, .string ⟨#[]⟩] 143)) := (FX.refl C w1).on b4 R1.hB
  have d0 := bx_cell r4 0 _ rfl
  by_cases h4 : kd = 4
  · subst h4
    have HN := hide (rName_any C j1 e1 _ R4)
    have HX := hide (And.intro R4 (And.intro F4 r4))
    clear R0 F0 r0 T0 b1 g1 R1 f1 R4 F4 b4 r4
    go_wp2_with fail
    refine (unhide HN).mono ?_
    rintro e w5 ⟨nm, j5, e5, rfl, t5, g5, _, R5, f5⟩
    obtain ⟨R4, F4, r4⟩ := unhide HX
    obtain ⟨R0, F0, r0, T0⟩ := unhide H0
    obtain ⟨b1, g1, R1, f1⟩ := unhide H1
    have hlt := lt_of_heap r0
    have hsz1 := f1.size
    have r5 := R0.blk (f1.trans (F4.trans f5)) r0 (by decide) (by decide)
    have l5 := R4.blk f5 r4 (by decide) (by decide)
    have l6 := heap_setCell_same w5 w1.heap.size 1 _ _ (.string ⟨nm.toArray⟩) l5
    have R6 := R5.set l5 (by decide) 1 (.string ⟨nm.toArray⟩)
    have F6 : FX C w1 (w5.setCell ⟨w1.heap.size, 1, none⟩ (.string ⟨nm.toArray⟩)) := ⟨(F4.trans f5).below.setCell (p := ⟨w1.heap.size, 1, none⟩) R1.hB _, fun k hk hn => (Below.heap_setCell _ _ _ _ (by simp only; omega)).trans ((F4.trans f5).other k hk hn)⟩
    have r6 : (w5.setCell ⟨w1.heap.size, 1, none⟩ (.string ⟨nm.toArray⟩)).heap[w.heap.size]? = _ := (Below.heap_setCell _ _ _ _ (by simp only; omega)).trans r5
    have hne : ¬ w1.heap.size = w.heap.size := by omega
    have c0 := bx_cell r5 0 _ rfl
    have c1 := bx_cell r5 1 _ rfl
    have z0 := bx_thaw r5 0
    have z1 := bx_thaw r5 1
    have d0 := bx_cell l5 0 _ rfl
    have d1 := bx_cell l5 1 _ rfl
    have y1 := bx_thaw l5 1
    have HG : Hid (Got (kdR C.l) C.bs i en ⟨4, nm⟩ j5 e5) := hide ⟨fun e => g5.1 (g1.1 e), fun e v0 r hr => by
      unfold kdR at hr
      obtain ⟨k1, hr⟩ := got_bind g1 e hr
      have hk := unhide HKD
      have hn7 : n1 = 7 := by
        unfold kindN at hk
        split at hk
        · omega
        · split at hk
          · omega
          · split at hk
            · omega
            · split at hk
              · omega
              · split at hk
                · assumption
                · omega
      subst hn7
      simp only at hr
      rw [if_neg (by decide), if_neg (by decide), if_neg (by decide), if_neg (by decide), if_pos trivial] at hr
      obtain ⟨k5, hr⟩ := got_bind g5 k1 hr
      obtain ⟨h1, h2⟩ := got_end hr
      exact ⟨h1, k5, h2⟩⟩
    have HF : Hid (fitI 4 ∧ Txt8 C.l nm) := hide ⟨by unfold fitI; omega, t5⟩
    have HR := hide (And.intro R6 (And.intro (F0.trans (f1.trans F6)) r6))
    clear H0 H1 HX R0 F0 r0 T0 b1 g1 R1 f1 R4 F4 r4 R5 f5 g5 t5 r5 l5 l6 R6 F6 r6 HN HKD hlt hsz1
    go_wp2_with fail
    obtain ⟨R6, F6, r6⟩ := unhide HR
    refine bodyPost_ret (v := .agg (tyc ⟨4, nm⟩).toArray) ?_ rfl ⟨⟨4, nm⟩, j5, e5, rfl, unhide HF, unhide HG, R6.cells r6 (by decide) 0 (tyc ⟨4, nm⟩), F6.cells (Nat.le_refl _) hB 0 (tyc ⟨4, nm⟩)⟩
    exact results_cell_row Tryz.results159 _ _ w.heap.size 143 _ (0, 0) _ rfl (bx_whole [.int .i64 0, .string ⟨#[]⟩] (tyc ⟨4, nm⟩) r6 rfl) Tryz.underlying143 rfl sizeType8
  · have h4' : (kd == 4) = false := by simpa using h4
    have r5 := R0.blk (f1.trans F4) r0 (by decide) (by decide)
    have c0 := bx_cell r5 0 _ rfl
    have c1 := bx_cell r5 1 _ rfl
    have z0 := bx_thaw r5 0
    have z1 := bx_thaw r5 1
    have d1 := bx_cell r4 1 _ rfl
    have hlt := lt_of_heap r0
    have hsz1 := f1.size
    have hne : ¬ w1.heap.size = w.heap.size := by omega
    have HG : Hid (Got (kdR C.l) C.bs i en ⟨kd, []⟩ j1 e1) := hide ⟨fun e => g1.1 e, fun e v0 r hr => by
      unfold kdR at hr
      obtain ⟨k1, hr⟩ := got_bind g1 e hr
      have hk := unhide HKD
      simp only at hr
      unfold kindN at hk
      split at hk
      · rename_i q
        rw [if_pos q] at hr
        obtain ⟨h1, h2⟩ := got_end hr
        exact ⟨by rw [← h1, ← hk], k1, h2⟩
      · rename_i q
        rw [if_neg q] at hr
        split at hk
        · rename_i q
          rw [if_pos q] at hr
          obtain ⟨h1, h2⟩ := got_end hr
          exact ⟨by rw [← h1, ← hk], k1, h2⟩
        · rename_i q
          rw [if_neg q] at hr
          split at hk
          · rename_i q
            rw [if_pos q] at hr
            obtain ⟨h1, h2⟩ := got_end hr
            exact ⟨by rw [← h1, ← hk], k1, h2⟩
          · rename_i q
            rw [if_neg q] at hr
            split at hk
            · rename_i q
              rw [if_pos q] at hr
              obtain ⟨h1, h2⟩ := got_end hr
              exact ⟨by rw [← h1, ← hk], k1, h2⟩
            · rename_i q
              rw [if_neg q] at hr
              split at hk
              · exact absurd hk.symm h4
              · rename_i q
                rw [if_neg q] at hr
                cases hr⟩
    have HF : Hid (fitI kd ∧ Txt8 C.l []) := hide ⟨by
      have hk := unhide HKD
      unfold kindN at hk
      unfold fitI
      omega, .inl rfl⟩
    have HR := hide (And.intro R4 (And.intro (F0.trans (f1.trans F4)) r5))
    clear H0 H1 R0 F0 r0 T0 b1 g1 R1 f1 R4 F4 b4 r4 r5 HKD h4 hsz1
    go_wp2_with fail
    obtain ⟨R6, F6, r6⟩ := unhide HR
    refine bodyPost_ret (v := .agg (tyc ⟨kd, []⟩).toArray) ?_ rfl ⟨⟨kd, []⟩, j1, e1, rfl, unhide HF, unhide HG, R6.cells r6 (by decide) 0 (tyc ⟨kd, []⟩), F6.cells (Nat.le_refl _) hB 0 (tyc ⟨kd, []⟩)⟩
    exact results_cell_row Tryz.results159 _ _ w.heap.size 143 _ (0, 0) _ rfl (bx_whole [.int .i64 0, .string ⟨#[]⟩] (tyc ⟨kd, []⟩) r6 rfl) Tryz.underlying143 rfl sizeType8
end Go.Proofs.YthhdfokcciibmaaGreatDoor

/- The landed class: its reader: bytes; wide. -/
namespace Go.Proofs.YthhdfokcciibmaaGreatDoor
open Go.RowKit
set_option linter.unusedVariables false
set_option maxRecDepth 100000

theorem Rd8.moved {C : Cr} {i j : Nat} {en : Bool} {w W : World} (h : Rd8 C i en w) (hle : j ≤ C.bs.length) (h1 : ∃ F', RD F' W C.B C.x C.bs j) (h2 : Kx C.x w W) (h3 : Below C.B w W) : Rd8 C j en W ∧ FX C w W := by
  obtain ⟨a, c, q1, q2⟩ := h.pl
  have hb : W.heap[C.X]? = _ := (h2 C.X h.X_lt h.ne).trans q1
  refine ⟨⟨h.ne, h.hX, h1, hle, h.len, ⟨a, c, hb, ?_⟩, h.few, h.cl, h.z0, h.one⟩, ⟨h3, fun k hk hn => h2 k hk (fun e => hn (.inr e))⟩⟩
  rcases q2 with q2 | ⟨q, e1, e2, q2⟩
  · exact .inl q2
  · refine .inr ⟨q, e1, e2, (h2 q (lt_of_heap q2) fun e => ?_).trans q2⟩
    subst e
    obtain ⟨Z, h4⟩ := h.x_blk
    rw [h4] at q2
    injection q2 with q2
    injection q2 with _ q2
    cases q2
def bytesR (s : List UInt8) : Option (List UInt8 × List UInt8) := (uR 4 s).bind fun n => takeR n.1 n.2

set_option maxHeartbeats 800000 in
theorem rBytes_any (C : Cr) (i : Nat) (en : Bool) (w : World) (h : Rd8 C i en w) :
    Calls Tryz.prog 147 #[.pointer (some ⟨C.X, 0, none⟩)] w fun e w' => ∃ (s : Sl) (x : List UInt8) (i' : Nat) (en' : Bool), e = .returned s.v ∧ (Orw byc 5 1 w' w.heap.size s.v x ∧ x.length ≤ 1000000) ∧ Got bytesR C.bs i en x i' en' ∧ Rd8 C i' en' w' ∧ FX C w w' := by
  have hc0 : ∀ j e1 W, Rd8 C j e1 W → W.cell? ⟨C.X, 0, none⟩ = some (.pointer (some ⟨C.x, 0, none⟩)) := fun j e1 W hW => by
    obtain ⟨a, c, q1, _⟩ := hW.pl
    exact bx_cell q1 0 _ rfl
  have HN := hide (rNumber_any C i en w.drew (h.below (Below.refl _ _).drew) 4 (by omega))
  have HC0 := hide hc0
  have HW := hide h
  have hB := h.hB
  have c0 := hc0 _ _ _ h
  clear h hc0
  go_enter Tryz.func147, Tryz.ntmps147
  go_wp2
  refine wp_region_txt (fun W => W.cell? ⟨C.X, 0, none⟩ = some (.pointer (some ⟨C.x, 0, none⟩))) [5, 6] (List.range 12) (by kernel_rfl) (by kernel_rfl) (unhide HC0 _ _ _ ((unhide HW).below (Below.refl _ _).drew)) ?_
  repeat (first
    | (refine Txt.reads (v := ?_) (by rfl) (by rfl) (by rfl) ?_ ?_; rotate_left; (focus ((intro W hSW; go_simp) <;> with_reducible rfl)); simp only [Act.put, List.setIfInBounds_toArray, List.set_cons_zero, List.set_cons_succ]))
  refine Txt.acts (by rfl) (by rfl) (by rfl) (fun K hK => ?_)
  go_simp
  refine (unhide HN).mono ?_
  rintro e w1 ⟨n, j1, e1, rfl, b1, g1, R1, f1⟩
  refine hK.out _ _ (unhide HC0 _ _ _ R1) ?_
  clear hK K
  obtain ⟨F, hF⟩ := R1.rd
  have HD := hide (dBytes_all F w1 C.B C.x C.bs j1 n hF (by have := R1.len; omega) R1.hi (by omega))
  have H1 := hide (And.intro b1 (And.intro g1 (And.intro R1 f1)))
  clear b1 g1 R1 f1 hF
  refine Txt.acts (by rfl) (by rfl) (by rfl) (fun K hK => ?_)
  go_simp
  refine (unhide HD).mono ?_
  rintro e w2 ⟨v, rfl, o2, ⟨F', r1, -, -⟩, r2, r3⟩
  obtain ⟨b1, g1, R1, f1⟩ := unhide H1
  have hlen : (takeW C.bs j1 n).1.length ≤ C.bs.length := by
    unfold takeW
    split
    · simp
    · split
      · simp
      · simp only [List.length_take, List.length_drop]; omega
  have hgt : Got bytesR C.bs i en (takeW C.bs j1 n).1 (takeW C.bs j1 n).2.2 (e1 || decide ((takeW C.bs j1 n).2.1 ≠ 0)) := ⟨fun e => by rw [g1.1 e]; rfl, fun e v0 r hr => by
    unfold bytesR at hr
    obtain ⟨k1, hr⟩ := got_bind g1 e hr
    unfold takeR at hr
    simp only at hr
    split at hr
    · rename_i hl
      rw [List.length_drop] at hl
      obtain ⟨h1, h2⟩ := got_end hr
      have hi1 := R1.hi
      have : takeW C.bs j1 n = ((C.bs.drop j1).take n.toNat, 0, j1 + n.toNat) := by
        unfold takeW
        rw [if_neg (by omega), if_neg (by omega)]
      rw [this, k1]
      exact ⟨h1, rfl, by rw [← h2, List.drop_drop]⟩
    · cases hr⟩
  have htl := takeW_le (bs := C.bs) (i := j1) (n := n) R1.hi
  generalize takeW C.bs j1 n = G at *
  obtain ⟨x, er, j2⟩ := G
  simp only at o2 r1 hlen hgt htl ⊢
  obtain ⟨R2, f2⟩ := R1.moved htl ⟨F', r1⟩ r3 r2.below
  obtain ⟨a2, c2, rfl, _⟩ := own_form o2
  refine hK.out _ _ (unhide HC0 _ _ _ R2) ?_
  clear hK K
  repeat (first
    | (refine Txt.reads (v := ?_) (by rfl) (by rfl) (by rfl) ?_ ?_; rotate_left; (focus ((intro W hSW; go_simp) <;> with_reducible rfl)); simp only [Act.put, List.setIfInBounds_toArray, List.set_cons_zero, List.set_cons_succ]))
  refine Txt.done ?_
  obtain ⟨a3, c3, q3, _⟩ := R2.pl
  have d2 := bx_cell q3 2 _ rfl
  have z2 := bx_thaw q3 2
  have hsz := f1.size
  have O2 : Orw byc 5 1 w2 w.heap.size (.slice a2 x.length c2) x := (orw_bv o2 rfl).base (by simpa using hsz)
  have HO : Hid (∀ e3, Orw byc 5 1 (w2.setCell ⟨C.X, 2, none⟩ (.bool e3)) w.heap.size (.slice a2 x.length c2) x) := hide fun e3 => R2.orw (R2.mark e3).2 O2 (by decide) (by decide)
  have FW : FX C w w.drew := (FX.refl C w).on (Below.refl _ _).drew hB
  have HR := hide (And.intro R2 (FW.trans (f1.trans f2)))
  have HG := hide hgt
  have HL : Hid (x.length ≤ 1000000) := hide (by have := R2.len; omega)
  clear H1 HN HC0 HW HD b1 g1 R1 f1 F' r1 r2 r3 o2 O2 hgt htl hlen R2 f2 q3 c0 FW
  cases e1 with
  | true =>
    go_wp2
    go_ret
    exact ⟨⟨_, _, _⟩, x, j2, true, rfl, ⟨unhide HO true, unhide HL⟩, by simpa using unhide HG, ((unhide HR).1.mark true).1, (unhide HR).2.trans ((unhide HR).1.mark true).2⟩
  | false =>
    by_cases he : er = 0
    · have he' : (er != 0) = false := by simp [he]
      go_wp2
      go_ret
      exact ⟨⟨_, _, _⟩, x, j2, false, rfl, ⟨unhide HO false, unhide HL⟩, by simpa [he] using unhide HG, ((unhide HR).1.mark false).1, (unhide HR).2.trans ((unhide HR).1.mark false).2⟩
    · have he' : (er != 0) = true := by simp [he]
      go_wp2
      go_ret
      exact ⟨⟨_, _, _⟩, x, j2, true, rfl, ⟨unhide HO true, unhide HL⟩, by simpa [he] using unhide HG, ((unhide HR).1.mark true).1, (unhide HR).2.trans ((unhide HR).1.mark true).2⟩
end Go.Proofs.YthhdfokcciibmaaGreatDoor
