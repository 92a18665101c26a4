/- Joined: CfD CfE CfF. -/
import Derived.Test.YtpmhcignenfhgaaDoorJO
import Derived.Test.YtpmhcignenfhgaaDoorJCeH

/- The landed code: cases. -/
namespace Go.Proofs.YtpmhcignenfhgaaDoor
open Go.RowKit
set_option linter.unusedVariables false
set_option maxRecDepth 100000

/-- So many, one behind the other, by their numbers. -/
def many9 {α : Type} (one : Nat → Nat → Option (α × Nat)) : Nat → Nat → Nat → Option (List α × Nat)
  | 0, _, i => some ([], i)
  | n + 1, k, i => (one k i).bind fun x => (many9 one n (k + 1) x.2).bind fun r => some (x.1 :: r.1, r.2)
theorem many9_succ {α : Type} (one : Nat → Nat → Option (α × Nat)) (n k i : Nat) : many9 one (n + 1) k i = (one k i).bind fun x => (many9 one n (k + 1) x.2).bind fun r => some (x.1 :: r.1, r.2) := rfl
def slN9 : Value → Nat
  | .slice _ n _ => n
  | _ => 0
/-- Between two of them. -/
structure Mid9 {α : Type} (one : Nat → Nat → Option (α × Nat)) (N i : Nat) (wr : Bool) (xs : List α) (j : Nat) (wj : Bool) : Prop where
  tru : wr = true → wj = true
  no : wr = false → wj = true → many9 one N 0 i = none
  yes : wr = false → wj = false → many9 one N 0 i = (many9 one (N - xs.length) xs.length j).bind fun r => some (xs ++ r.1, r.2)
  le : i ≤ j
theorem Mid9.start {α : Type} (one : Nat → Nat → Option (α × Nat)) (N i : Nat) (wr : Bool) : Mid9 one N i wr [] i wr :=
  ⟨fun e => e, (fun e1 e2 => by rw [e1] at e2; cases e2), (fun _ _ => by cases h : many9 one N 0 i <;> simp), Nat.le_refl _⟩
theorem Mid9.next {α : Type} {one : Nat → Nat → Option (α × Nat)} {N i : Nat} {wr : Bool} {xs : List α} {j : Nat} (h : Mid9 one N i wr xs j false) (hl : xs.length < N) {x : α} {j' : Nat} {w' : Bool} (g : G9 (one xs.length j) false x j' w') (hle : j ≤ j') : Mid9 one N i wr (xs ++ [x]) j' w' := by
  have hwr : wr = false := by cases wr; rfl; have := h.tru rfl; cases this
  have h2 := h.yes hwr rfl
  obtain ⟨m, hm⟩ : ∃ m, N - xs.length = m + 1 := ⟨N - xs.length - 1, by omega⟩
  rw [hm, many9_succ] at h2
  refine ⟨(fun e => by rw [hwr] at e; cases e), fun _ e => ?_, fun _ e => ?_, by have := h.le; omega⟩
  · rcases g.2 rfl with ⟨_, g2⟩ | ⟨g1, g2⟩
    · rw [g2] at e; cases e
    · rw [h2, g1]; rfl
  · rcases g.2 rfl with ⟨g1, g2⟩ | ⟨g1, g2⟩
    · rw [h2, g1, List.length_append, List.length_cons, List.length_nil, show N - (xs.length + (0 + 1)) = m by omega, Nat.zero_add]
      simp only [Option.bind_some]
      cases many9 one m (xs.length + 1) j' with
      | none => rfl
      | some r => simp
    · rw [g2] at e; cases e
theorem Mid9.done {α : Type} {one : Nat → Nat → Option (α × Nat)} {N i : Nat} {wr : Bool} {xs : List α} {j : Nat} {wj : Bool} (h : Mid9 one N i wr xs j wj) (hx : ¬ xs.length < N ∨ wj = true) (hl : xs.length ≤ N) : G9 (many9 one N 0 i) wr xs j wj := by
  refine ⟨h.tru, fun e => ?_⟩
  cases wj with
  | true => exact .inr ⟨h.no e rfl, rfl⟩
  | false =>
    refine .inl ⟨?_, rfl⟩
    rw [h.yes e rfl, show N - xs.length = 0 by have := hx.resolve_right (by simp); omega]
    simp [many9]
def CasFit (x : Cas) : Prop := (-9000000000000000000 ≤ x.key ∧ x.key ≤ 9000000000000000000) ∧ (-9000000000000000000 ≤ x.to_ ∧ x.to_ ≤ 9000000000000000000)
/-- One case, its key told by keyR. -/
def one9 (keyR : Nat → Nat → Option (Int × Nat)) (bs : List UInt8) (bg : Int) (k j : Nat) : Option (Cas × Nat) := (keyR k j).bind fun x => (gR bs x.2 4 true).bind fun y => some (⟨x.1, bg + y.1⟩, y.2)
def casR (keyR : Nat → Nat → Option (Int × Nat)) (bs : List UInt8) (bg n : Int) (i : Nat) : Option (List Cas × Nat) := if n ≤ 256 then many9 (one9 keyR bs bg) n.toNat 0 i else none
def cases_post (keyR : Nat → Nat → Option (Int × Nat)) (C : Cr9) (i : Nat) (bg : Int) (wg : Bool) (n : Int) (w : World) (e : Ending) (w' : World) : Prop :=
  ∃ (s : Sl) (xs : List Cas) (i' : Nat) (wr' : Bool), e = .returned s.v ∧ Orw cac 51 2 w' w.heap.size s.v xs ∧ (∀ x ∈ xs, CasFit x) ∧ xs.length ≤ 256 ∧ G9 (casR keyR C.bs bg n i) wg xs i' wr' ∧ i ≤ i' ∧ Rd9 C i' bg wr' w' ∧ FX9 C w w'
theorem orw_blk0 {α : Type} {cs : α → List Value} {e : TypeId} {sz : Nat} {w : World} {base : Nat} {v : Value} {l : List α} (h : Orw cs e sz w base v l) {k : Nat} (hk : v.ownBlock = some k) : ∃ X fr, w.heap[k]? = some (.cells X e fr) ∧ fr = (0, 0) := by
  rcases h.2 with ⟨hv, _⟩ | ⟨g, cap, cur, hv, hb, hh, r⟩
  · rw [hv] at hk; cases hk
  · rw [hv] at hk
    injection hk with hk
    subst hk
    exact ⟨_, _, hh, rfl⟩
theorem Rd9.orw {C : Cr9} {i : Nat} {bg : Int} {wr : Bool} {W W' : World} (h : Rd9 C i bg wr W) (f : FX9 C W W') {α : Type} {cs : α → List Value} {e : TypeId} {sz base : Nat} {v : Value} {l : List α} (o : Orw cs e sz W base v l) (h1 : e ≠ 74) (h2 : e ≠ 95) : Orw cs e sz W' base v l := by
  refine o.below fun k hk => ?_
  obtain ⟨X, fr, hX, hfr⟩ := orw_blk0 o hk
  subst hfr
  rw [hX]
  exact h.blks f hX h1 h2
theorem Rd9.grown {C : Cr9} {i : Nat} {bg : Int} {wr : Bool} {W W' : World} (h : Rd9 C i bg wr W) {α : Type} {cs : α → List Value} {e : TypeId} {sz base : Nat} {v : Value} {l : List α} (o : Orw cs e sz W base v l) (g : W.grownBy W' v.ownBlock) (he : ¬ (e = 74 ∨ e = 95 ∨ e = 5)) : Rd9 C i bg wr W' :=
  h.keep fun k Z T hk hT => g.block k (lt_of_heap hk) fun ek => by
    obtain ⟨X, fr, hX, hfr⟩ := orw_blk0 o ek.symm
    rw [hk] at hX
    injection hX with hX
    injection hX with _ hX
    rw [hX] at hT
    exact he hT
theorem FX9.grown {C : Cr9} {w W W' : World} (f : FX9 C w W) (hB : C.B ≤ w.heap.size) {α : Type} {cs : α → List Value} {e : TypeId} {sz : Nat} {v : Value} {l : List α} (o : Orw cs e sz W w.heap.size v l) (g : W.grownBy W' v.ownBlock) : FX9 C w W' :=
  ⟨f.below.grown g (Nat.le_trans hB f.size) (fun k hk => Nat.le_trans hB (o.lt k hk).1), fun k hk hn => (g.block k (Nat.lt_of_lt_of_le hk f.size) (fun ek => by have := (o.lt k ek.symm).1; omega)).trans (f.other k hk hn)⟩
theorem h9key1_any (C : Cr9) (j : Nat) (bg : Int) (wj : Bool) (w : World) (h : Rd9 C j bg wj w) (b : Nat) (first : Int) (k : Nat) (hb : w.heap[b]? = some (.cells #[.int .i64 first] 3 (0, 0))) (h1 : -9000000000000000000 ≤ first ∧ first ≤ 8000000000000000000) (hk : k ≤ 256) :
    Calls Tryd.prog 79 #[.int .i64 (k : Int), .pointer (some ⟨b, 0, none⟩)] w fun e w' => ∃ n i' wr', e = .returned (.int .i64 n) ∧ G9 (some (first + (k : Int), j)) wj n i' wr' ∧ j ≤ i' ∧ (-9000000000000000000 ≤ n ∧ n ≤ 9000000000000000000) ∧ Rd9 C i' bg wr' w' ∧ FX9 C w w' := by
  have hw : IntKind.i64.wrap (first + k) = first + k := by rw [IntKind.wrap_i64]; omega
  have hc : w.cell? ⟨b, 0, none⟩ = some (.int .i64 first) := bx_cell hb 0 _ rfl
  have HR := hide h
  clear h
  go_enter Tryd.func79, Tryd.ntmps79
  go_wp2
  go_ret
  exact ⟨_, j, wj, rfl, G9.pure _ _ _, Nat.le_refl _, by omega, unhide HR, FX9.refl C w⟩
theorem h9key2_any (C : Cr9) (j : Nat) (bg : Int) (wj : Bool) (w : World) (h : Rd9 C j bg wj w) (b : Nat) (k : Nat) (hb : w.heap[b]? = some (.cells #[.pointer (some ⟨C.X, 0, none⟩)] 65 (0, 0))) :
    Calls Tryd.prog 81 #[.int .i64 (k : Int), .pointer (some ⟨b, 0, none⟩)] w fun e w' => ∃ n i' wr', e = .returned (.int .i64 n) ∧ G9 (gR C.bs j 4 true) wj n i' wr' ∧ j ≤ i' ∧ (-9000000000000000000 ≤ n ∧ n ≤ 9000000000000000000) ∧ Rd9 C i' bg wr' w' ∧ FX9 C w w' := by
  have hc : w.cell? ⟨b, 0, none⟩ = some (.pointer (some ⟨C.X, 0, none⟩)) := bx_cell hb 0 _ rfl
  have HN := hide (h9s4_any C j bg wj w h)
  clear h
  go_enter Tryd.func81, Tryd.ntmps81
  go_wp2_with fail
  refine (unhide HN).mono ?_
  rintro e w2 ⟨n, i', wr', rfl, g1, g2, g3, _, _, r2, f2⟩
  have HX := hide (And.intro g1 (And.intro g2 (And.intro r2 f2)))
  clear g1 g2 r2 f2 HN
  go_wp2
  go_ret
  obtain ⟨g1, g2, r2, f2⟩ := unhide HX
  exact ⟨n, i', wr', rfl, g1, g2, by omega, r2, f2⟩
set_option maxHeartbeats 1600000 in
theorem h9cases1_any (C : Cr9) (i : Nat) (bg : Int) (wg : Bool) (w : World) (h : Rd9 C i bg wg w) (n : Int) (b : Nat) (first : Int) (hfi : -9000000000000000000 ≤ first ∧ first ≤ 8000000000000000000) (hbg : 0 ≤ bg ∧ bg ≤ 140737488351232) (hb : w.heap[b]? = some (.cells #[.int .i64 first] 3 (0, 0))) :
    Calls Tryd.prog 78 #[.pointer (some ⟨C.X, 0, none⟩), .int .i64 n, .func (.func 79) #[] #[.pointer (some ⟨b, 0, none⟩)]] w (cases_post (fun (k j : Nat) => some (first + (k : Int), j)) C i bg wg n w) := by
  have hB := h.hB
  have HR := hide h
  have HF := hide (fun bad => h9refuse_any C i bg wg w h bad)
  have HKB : Hid (∀ j wj W W', Rd9 C j bg wj W → W.heap[b]? = some (.cells #[.int .i64 first] 3 (0, 0)) → FX9 C W W' → W'.heap[b]? = some (.cells #[.int .i64 first] 3 (0, 0))) := fun j wj W W' h1 h2 h3 => h1.blks h3 h2 (by decide) (by decide)
  have hb1 := hb
  clear h
  go_enter Tryd.func78, Tryd.ntmps78
  go_wp2_with fail
  refine (unhide HF _).mono ?_
  rintro e w1 ⟨rfl, r1, f1⟩
  have hb2 := unhide HKB _ _ _ _ (unhide HR) hb f1
  clear HF hb hb1
  obtain ⟨N, hN⟩ : ∃ N, N = n.toNat := ⟨_, rfl⟩
  have HIN : Hid (∀ xs j wj, Mid9 (one9 (fun (k j : Nat) => some (first + (k : Int), j)) C.bs bg) N i (wg || decide (256 < n)) xs j wj → (¬ xs.length < N ∨ wj = true) → xs.length ≤ N → G9 (casR (fun (k j : Nat) => some (first + (k : Int), j)) C.bs bg n i) wg xs j wj) := fun xs j wj hm hx hl => by
    have := hm.done hx hl
    unfold casR
    by_cases hn : n ≤ 256
    · rw [if_pos hn, ← hN]
      rw [decide_eq_false (by omega), Bool.or_false] at this
      exact this
    · rw [if_neg hn]
      rw [decide_eq_true (by omega), Bool.or_true] at this
      exact ⟨fun _ => this.1 rfl, fun _ => .inr ⟨rfl, this.1 rfl⟩⟩
  have H1 := hide (And.intro r1 (And.intro f1 hb2))
  have HNN := hide hN
  have hw0 : n ≤ 256 ∨ (wg || decide (256 < n)) = true := by
    by_cases hn : n ≤ 256
    · exact .inl hn
    · exact .inr (by rw [decide_eq_true (by omega)]; simp)
  generalize (wg || decide (256 < n)) = wz at *
  generalize decide (256 < n) = dz at *
  have HW0 := hide hw0
  clear r1 f1 hb2 hN hw0
  go_wp2
  go_loopw [7, 8] (fun v k W => ∃ xs j wj, k = .int .i64 ((xs : List Cas).length : Int) ∧ Orw cac 51 2 W w.heap.size v xs ∧ xs.length ≤ N ∧ (xs.length ≤ 256) ∧ (∀ x ∈ xs, CasFit x) ∧ Mid9 (one9 (fun (k j : Nat) => some (first + (k : Int), j)) C.bs bg) N i wz xs j wj ∧ Rd9 C j bg wj W ∧ FX9 C w W ∧ W.heap[b]? = some (.cells #[.int .i64 first] 3 (0, 0))) (fun v _ _ => N - slN9 v)
  case atStart => exact ⟨[], i, wz, rfl, Orw.nil _ _ _ _ _, Nat.zero_le _, Nat.zero_le _, (fun x hx => by cases hx), Mid9.start _ _ _ _, (unhide H1).1, (unhide H1).2.1, (unhide H1).2.2⟩
  case round =>
    obtain ⟨xs, j, wj, rfl, hO, hN, h256, hE, hM, hR, hF, hbW⟩ := hrel
    obtain ⟨a, c, rfl, hf1, hf2, hf3⟩ := hO.form
    have cX := hR.cells.2.2.1
    by_cases hlt : xs.length < N
    · have hlt1 : (xs.length : Int) < n := by have := unhide HNN; omega
      cases wj with
      | true =>
        have HD := hide (And.intro hO (And.intro hE (And.intro hM (And.intro hR hF))))
        clear hO hE hM hR hF hf1 hf2 hf3 hbW
        go_wp2
        go_ret
        obtain ⟨hO, hE, hM, hR, hF⟩ := unhide HD
        exact ⟨⟨a, xs.length, c⟩, xs, j, true, rfl, hO, hE, h256, unhide HIN _ _ _ hM (.inr rfl) hN, hM.le, hR, hF⟩
      | false =>
        have hn256 : n ≤ 256 := (unhide HW0).resolve_right (fun e => by have := hM.tru e; cases this)
        have HP := hide (h9key1_any C j bg false wr hR b first xs.length hbW hfi (by omega))
        have HD := hide (And.intro hO (And.intro hE (And.intro hM (And.intro hR (And.intro hF hbW)))))
        clear hO hE hM hR hF hf1 hf2 hf3 hbW
        go_wp2_with fail
        refine (unhide HP).mono ?_
        rintro e w2 ⟨key, j2, e2, rfl, g2, le2, fk2, R2, f2⟩
        have HQ := hide (h9far_any C j2 bg e2 w2 R2 hbg)
        have HE2 := hide (And.intro g2 (And.intro le2 (And.intro R2 f2)))
        clear g2 le2 R2 f2 HP cX
        go_wp2_with fail
        refine (unhide HQ).mono ?_
        rintro e w3 ⟨to_, j3, e3, rfl, g3, le3, fk3, _, R3, f3⟩
        obtain ⟨hO, hE, hM, hR, hF, hbW⟩ := unhide HD
        obtain ⟨g2, le2, R2, f2⟩ := unhide HE2
        clear HQ HD HE2
        obtain ⟨x, hx⟩ : ∃ x : Cas, x = ⟨key, bg + to_⟩ := ⟨_, rfl⟩
        have hxk : x.key = key := by rw [hx]
        have hxt : x.to_ = bg + to_ := by rw [hx]
        have hfit : CasFit x := by unfold CasFit; rw [hxk, hxt]; omega
        have g4 : G9 (one9 (fun (k j : Nat) => some (first + (k : Int), j)) C.bs bg xs.length j) false x j3 e3 := by
          rw [hx]
          exact g2.bind (g3.bind (G9.pure _ _ _))
        rw [← hxk, ← hxt]
        clear hx hxk hxt g2 g3
        have O2 : Orw cac 51 2 w3 w.heap.size (.slice a xs.length c) xs := R2.orw f3 (hR.orw f2 hO (by decide) (by decide)) (by decide) (by decide)
        have F2 := (hF.trans f2).trans f3
        have hb3 := unhide HKB _ _ _ _ R2 (unhide HKB _ _ _ _ hR hbW f2) f3
        have b3 : Below w3.heap.size w3 (w3.alloc (.cells #[.int .i64 x.key, .int .i64 x.to_] 51)) := (Below.refl _ _).alloc (Nat.le_refl _) _
        have O3 : Orw cac 51 2 (w3.alloc (.cells #[.int .i64 x.key, .int .i64 x.to_] 51)) w.heap.size (.slice a xs.length c) xs := O2.below fun k hk => b3.block k (O2.lt k hk).2
        have l3 := ls_one (cs := cac) (sz := 2) w3 #[.int .i64 x.key, .int .i64 x.to_] 51 x rfl
        have R4 := R3.below b3
        have F3 := F2.on b3 hB
        have hb4 : (w3.alloc (.cells #[.int .i64 x.key, .int .i64 x.to_] 51)).heap[b]? = some (.cells #[.int .i64 first] 3 (0, 0)) := (b3.block b (lt_of_heap hb3)).trans hb3
        have hM2 := hM.next hlt g4 (by omega)
        have ok3 : ∀ y ∈ xs ++ [x], CasFit y := fun y hy => by
          rcases List.mem_append.1 hy with hy | hy
          · exact hE y hy
          · simp at hy
            subst hy
            exact hfit
        have hln : (xs.length + 1) * 16 ≤ 140737488355328 := by omega
        have hln2 : xs.length + 1 ≤ 140737488355328 := by omega
        have hbs : w.heap.size ≤ (w3.alloc (.cells #[.int .i64 x.key, .int .i64 x.to_] 51)).heap.size := F3.size
        have h257 : xs.length + 1 ≤ 256 := by have := unhide HNN; omega
        have HO3 := hide O3
        have HL3 := hide l3
        have HLN := hide hln
        have HLN2 := hide hln2
        have HBS := hide hbs
        have HX := hide (And.intro R4 (And.intro F3 (And.intro ok3 (And.intro hM2 hb4))))
        clear hO hE hM hR hF O2 F2 b3 O3 l3 R3 F3 hM2 ok3 hln hln2 hbs R4 hb3 hb4 hbW f2 f3 R2 g4 hfit
        go_wp2_with (at_builtin; refine listR_append rkC rfl _ _ rfl w.heap.size _ _ rfl (unhide HO3) _ 1 1 [_] rfl (unhide HL3) (fun e => by cases e) (unhide HLN) (unhide HLN2) (unhide HBS) ?_)
        intro v' w5 o4 g4
        obtain ⟨R4, F3, ok3, hM2, hb4⟩ := unhide HX
        obtain ⟨a4, c4, hv4, _⟩ := o4.form
        have R5 := R4.grown (unhide HO3) g4 (by decide)
        have F5 := F3.grown hB (unhide HO3) g4
        have hb5 : w5.heap[b]? = some (.cells #[.int .i64 first] 3 (0, 0)) := (g4.block b (lt_of_heap hb4) fun ek => by
          obtain ⟨X, fr, hX, hfr⟩ := orw_blk0 (unhide HO3) ek.symm
          rw [hb4] at hX
          injection hX with hX
          injection hX with _ hX
          cases hX).trans hb4
        have HZ := hide (And.intro o4 (And.intro ok3 (And.intro R5 (And.intro F5 (And.intro hM2 hb5)))))
        have HV := hide hv4
        clear o4 ok3 R5 F5 R4 F3 hM2 g4 HX HO3 HL3 HLN HLN2 HBS hv4 hb4 hb5
        go_wp2
        go_roundw
        case rel =>
          obtain ⟨o4, ok4, R5, F5, hM2, hb5⟩ := unhide HZ
          exact ⟨_, j3, e3, by simp, o4, by simp; omega, by simp; omega, ok4, hM2, R5, F5, hb5⟩
        case measure =>
          rw [unhide HV]
          simp [slN9]
          omega
    · have hlt1 : ¬ (xs.length : Int) < n := by have := unhide HNN; omega
      have HD := hide (And.intro hO (And.intro hE (And.intro hM (And.intro hR hF))))
      clear hO hE hM hR hF hf1 hf2 hf3 hbW
      go_wp2
      go_ret
      obtain ⟨hO, hE, hM, hR, hF⟩ := unhide HD
      exact ⟨⟨a, xs.length, c⟩, xs, j, wj, rfl, hO, hE, h256, unhide HIN _ _ _ hM (.inl hlt) hN, hM.le, hR, hF⟩
set_option maxHeartbeats 1600000 in
theorem h9cases2_any (C : Cr9) (i : Nat) (bg : Int) (wg : Bool) (w : World) (h : Rd9 C i bg wg w) (n : Int) (b : Nat) (hbg : 0 ≤ bg ∧ bg ≤ 140737488351232) (hb : w.heap[b]? = some (.cells #[.pointer (some ⟨C.X, 0, none⟩)] 65 (0, 0))) :
    Calls Tryd.prog 78 #[.pointer (some ⟨C.X, 0, none⟩), .int .i64 n, .func (.func 81) #[] #[.pointer (some ⟨b, 0, none⟩)]] w (cases_post (fun (_ j : Nat) => gR C.bs j 4 true) C i bg wg n w) := by
  have hB := h.hB
  have HR := hide h
  have HF := hide (fun bad => h9refuse_any C i bg wg w h bad)
  have HKB : Hid (∀ j wj W W', Rd9 C j bg wj W → W.heap[b]? = some (.cells #[.pointer (some ⟨C.X, 0, none⟩)] 65 (0, 0)) → FX9 C W W' → W'.heap[b]? = some (.cells #[.pointer (some ⟨C.X, 0, none⟩)] 65 (0, 0))) := fun j wj W W' h1 h2 h3 => h1.blks h3 h2 (by decide) (by decide)
  have hb1 := hb
  clear h
  go_enter Tryd.func78, Tryd.ntmps78
  go_wp2_with fail
  refine (unhide HF _).mono ?_
  rintro e w1 ⟨rfl, r1, f1⟩
  have hb2 := unhide HKB _ _ _ _ (unhide HR) hb f1
  clear HF hb hb1
  obtain ⟨N, hN⟩ : ∃ N, N = n.toNat := ⟨_, rfl⟩
  have HIN : Hid (∀ xs j wj, Mid9 (one9 (fun (_ j : Nat) => gR C.bs j 4 true) C.bs bg) N i (wg || decide (256 < n)) xs j wj → (¬ xs.length < N ∨ wj = true) → xs.length ≤ N → G9 (casR (fun (_ j : Nat) => gR C.bs j 4 true) C.bs bg n i) wg xs j wj) := fun xs j wj hm hx hl => by
    have := hm.done hx hl
    unfold casR
    by_cases hn : n ≤ 256
    · rw [if_pos hn, ← hN]
      rw [decide_eq_false (by omega), Bool.or_false] at this
      exact this
    · rw [if_neg hn]
      rw [decide_eq_true (by omega), Bool.or_true] at this
      exact ⟨fun _ => this.1 rfl, fun _ => .inr ⟨rfl, this.1 rfl⟩⟩
  have H1 := hide (And.intro r1 (And.intro f1 hb2))
  have HNN := hide hN
  have hw0 : n ≤ 256 ∨ (wg || decide (256 < n)) = true := by
    by_cases hn : n ≤ 256
    · exact .inl hn
    · exact .inr (by rw [decide_eq_true (by omega)]; simp)
  generalize (wg || decide (256 < n)) = wz at *
  generalize decide (256 < n) = dz at *
  have HW0 := hide hw0
  clear r1 f1 hb2 hN hw0
  go_wp2
  go_loopw [7, 8] (fun v k W => ∃ xs j wj, k = .int .i64 ((xs : List Cas).length : Int) ∧ Orw cac 51 2 W w.heap.size v xs ∧ xs.length ≤ N ∧ (xs.length ≤ 256) ∧ (∀ x ∈ xs, CasFit x) ∧ Mid9 (one9 (fun (_ j : Nat) => gR C.bs j 4 true) C.bs bg) N i wz xs j wj ∧ Rd9 C j bg wj W ∧ FX9 C w W ∧ W.heap[b]? = some (.cells #[.pointer (some ⟨C.X, 0, none⟩)] 65 (0, 0))) (fun v _ _ => N - slN9 v)
  case atStart => exact ⟨[], i, wz, rfl, Orw.nil _ _ _ _ _, Nat.zero_le _, Nat.zero_le _, (fun x hx => by cases hx), Mid9.start _ _ _ _, (unhide H1).1, (unhide H1).2.1, (unhide H1).2.2⟩
  case round =>
    obtain ⟨xs, j, wj, rfl, hO, hN, h256, hE, hM, hR, hF, hbW⟩ := hrel
    obtain ⟨a, c, rfl, hf1, hf2, hf3⟩ := hO.form
    have cX := hR.cells.2.2.1
    by_cases hlt : xs.length < N
    · have hlt1 : (xs.length : Int) < n := by have := unhide HNN; omega
      cases wj with
      | true =>
        have HD := hide (And.intro hO (And.intro hE (And.intro hM (And.intro hR hF))))
        clear hO hE hM hR hF hf1 hf2 hf3 hbW
        go_wp2
        go_ret
        obtain ⟨hO, hE, hM, hR, hF⟩ := unhide HD
        exact ⟨⟨a, xs.length, c⟩, xs, j, true, rfl, hO, hE, h256, unhide HIN _ _ _ hM (.inr rfl) hN, hM.le, hR, hF⟩
      | false =>
        have hn256 : n ≤ 256 := (unhide HW0).resolve_right (fun e => by have := hM.tru e; cases this)
        have HP := hide (h9key2_any C j bg false wr hR b xs.length hbW)
        have HD := hide (And.intro hO (And.intro hE (And.intro hM (And.intro hR (And.intro hF hbW)))))
        clear hO hE hM hR hF hf1 hf2 hf3 hbW
        go_wp2_with fail
        refine (unhide HP).mono ?_
        rintro e w2 ⟨key, j2, e2, rfl, g2, le2, fk2, R2, f2⟩
        have HQ := hide (h9far_any C j2 bg e2 w2 R2 hbg)
        have HE2 := hide (And.intro g2 (And.intro le2 (And.intro R2 f2)))
        clear g2 le2 R2 f2 HP cX
        go_wp2_with fail
        refine (unhide HQ).mono ?_
        rintro e w3 ⟨to_, j3, e3, rfl, g3, le3, fk3, _, R3, f3⟩
        obtain ⟨hO, hE, hM, hR, hF, hbW⟩ := unhide HD
        obtain ⟨g2, le2, R2, f2⟩ := unhide HE2
        clear HQ HD HE2
        obtain ⟨x, hx⟩ : ∃ x : Cas, x = ⟨key, bg + to_⟩ := ⟨_, rfl⟩
        have hxk : x.key = key := by rw [hx]
        have hxt : x.to_ = bg + to_ := by rw [hx]
        have hfit : CasFit x := by unfold CasFit; rw [hxk, hxt]; omega
        have g4 : G9 (one9 (fun (_ j : Nat) => gR C.bs j 4 true) C.bs bg xs.length j) false x j3 e3 := by
          rw [hx]
          exact g2.bind (g3.bind (G9.pure _ _ _))
        rw [← hxk, ← hxt]
        clear hx hxk hxt g2 g3
        have O2 : Orw cac 51 2 w3 w.heap.size (.slice a xs.length c) xs := R2.orw f3 (hR.orw f2 hO (by decide) (by decide)) (by decide) (by decide)
        have F2 := (hF.trans f2).trans f3
        have hb3 := unhide HKB _ _ _ _ R2 (unhide HKB _ _ _ _ hR hbW f2) f3
        have b3 : Below w3.heap.size w3 (w3.alloc (.cells #[.int .i64 x.key, .int .i64 x.to_] 51)) := (Below.refl _ _).alloc (Nat.le_refl _) _
        have O3 : Orw cac 51 2 (w3.alloc (.cells #[.int .i64 x.key, .int .i64 x.to_] 51)) w.heap.size (.slice a xs.length c) xs := O2.below fun k hk => b3.block k (O2.lt k hk).2
        have l3 := ls_one (cs := cac) (sz := 2) w3 #[.int .i64 x.key, .int .i64 x.to_] 51 x rfl
        have R4 := R3.below b3
        have F3 := F2.on b3 hB
        have hb4 : (w3.alloc (.cells #[.int .i64 x.key, .int .i64 x.to_] 51)).heap[b]? = some (.cells #[.pointer (some ⟨C.X, 0, none⟩)] 65 (0, 0)) := (b3.block b (lt_of_heap hb3)).trans hb3
        have hM2 := hM.next hlt g4 (by omega)
        have ok3 : ∀ y ∈ xs ++ [x], CasFit y := fun y hy => by
          rcases List.mem_append.1 hy with hy | hy
          · exact hE y hy
          · simp at hy
            subst hy
            exact hfit
        have hln : (xs.length + 1) * 16 ≤ 140737488355328 := by omega
        have hln2 : xs.length + 1 ≤ 140737488355328 := by omega
        have hbs : w.heap.size ≤ (w3.alloc (.cells #[.int .i64 x.key, .int .i64 x.to_] 51)).heap.size := F3.size
        have h257 : xs.length + 1 ≤ 256 := by have := unhide HNN; omega
        have HO3 := hide O3
        have HL3 := hide l3
        have HLN := hide hln
        have HLN2 := hide hln2
        have HBS := hide hbs
        have HX := hide (And.intro R4 (And.intro F3 (And.intro ok3 (And.intro hM2 hb4))))
        clear hO hE hM hR hF O2 F2 b3 O3 l3 R3 F3 hM2 ok3 hln hln2 hbs R4 hb3 hb4 hbW f2 f3 R2 g4 hfit
        go_wp2_with (at_builtin; refine listR_append rkC rfl _ _ rfl w.heap.size _ _ rfl (unhide HO3) _ 1 1 [_] rfl (unhide HL3) (fun e => by cases e) (unhide HLN) (unhide HLN2) (unhide HBS) ?_)
        intro v' w5 o4 g4
        obtain ⟨R4, F3, ok3, hM2, hb4⟩ := unhide HX
        obtain ⟨a4, c4, hv4, _⟩ := o4.form
        have R5 := R4.grown (unhide HO3) g4 (by decide)
        have F5 := F3.grown hB (unhide HO3) g4
        have hb5 : w5.heap[b]? = some (.cells #[.pointer (some ⟨C.X, 0, none⟩)] 65 (0, 0)) := (g4.block b (lt_of_heap hb4) fun ek => by
          obtain ⟨X, fr, hX, hfr⟩ := orw_blk0 (unhide HO3) ek.symm
          rw [hb4] at hX
          injection hX with hX
          injection hX with _ hX
          cases hX).trans hb4
        have HZ := hide (And.intro o4 (And.intro ok3 (And.intro R5 (And.intro F5 (And.intro hM2 hb5)))))
        have HV := hide hv4
        clear o4 ok3 R5 F5 R4 F3 hM2 g4 HX HO3 HL3 HLN HLN2 HBS hv4 hb4 hb5
        go_wp2
        go_roundw
        case rel =>
          obtain ⟨o4, ok4, R5, F5, hM2, hb5⟩ := unhide HZ
          exact ⟨_, j3, e3, by simp, o4, by simp; omega, by simp; omega, ok4, hM2, R5, F5, hb5⟩
        case measure =>
          rw [unhide HV]
          simp [slN9]
          omega
    · have hlt1 : ¬ (xs.length : Int) < n := by have := unhide HNN; omega
      have HD := hide (And.intro hO (And.intro hE (And.intro hM (And.intro hR hF))))
      clear hO hE hM hR hF hf1 hf2 hf3 hbW
      go_wp2
      go_ret
      obtain ⟨hO, hE, hM, hR, hF⟩ := unhide HD
      exact ⟨⟨a, xs.length, c⟩, xs, j, wj, rfl, hO, hE, h256, unhide HIN _ _ _ hM (.inl hlt) hN, hM.le, hR, hF⟩
end Go.Proofs.YtpmhcignenfhgaaDoor

/- The landed code: rise, table, search. -/
namespace Go.Proofs.YtpmhcignenfhgaaDoor
open Go.RowKit
set_option linter.unusedVariables false
set_option maxRecDepth 100000

theorem tab_many (bs : List UInt8) (bg first : Int) : ∀ (n k i : Nat), tabR bs bg n (first + (k : Int)) i = many9 (one9 (fun (k j : Nat) => some (first + (k : Int), j)) bs bg) n k i
  | 0, k, i => rfl
  | n + 1, k, i => by
    have e1 : one9 (fun (k j : Nat) => some (first + (k : Int), j)) bs bg k i = (gR bs i 4 true).bind fun y => some (⟨first + (k : Int), bg + y.1⟩, y.2) := rfl
    rw [many9_succ, e1]
    conv => lhs; unfold tabR
    cases gR bs i 4 true with
    | none => rfl
    | some x =>
      simp only [Option.bind_some]
      rw [← tab_many bs bg first n (k + 1) x.2, show first + ((k + 1 : Nat) : Int) = first + (k : Int) + 1 by omega]
theorem sea_many (bs : List UInt8) (bg : Int) : ∀ (n k i : Nat), seaR bs bg n i = many9 (one9 (fun (_ j : Nat) => gR bs j 4 true) bs bg) n k i
  | 0, k, i => rfl
  | n + 1, k, i => by
    have e1 : one9 (fun (_ j : Nat) => gR bs j 4 true) bs bg k i = (gR bs i 4 true).bind fun x => (gR bs x.2 4 true).bind fun y => some (⟨x.1, bg + y.1⟩, y.2) := rfl
    rw [many9_succ, e1]
    conv => lhs; unfold seaR
    cases gR bs i 4 true with
    | none => rfl
    | some x =>
      simp only [Option.bind_some]
      cases gR bs x.2 4 true with
      | none => rfl
      | some y =>
        simp only [Option.bind_some]
        rw [← sea_many bs bg n (k + 1) y.2]
/-- Each key is above the one ahead, up to a place. -/
def RiseTo (l : List Cas) (k : Nat) : Prop := ∀ j x y, j + 1 < k → l[j]? = some x → l[j + 1]? = some y → x.key < y.key
theorem riseC_iff : ∀ l : List Cas, riseC l = true ↔ RiseTo l l.length
  | [] => ⟨fun _ j x y h => by simp at h, fun _ => rfl⟩
  | [a] => ⟨fun _ j x y h => by simp at h, fun _ => rfl⟩
  | a :: b :: r => by
    unfold riseC
    rw [Bool.and_eq_true, riseC_iff (b :: r), decide_eq_true_iff]
    constructor
    · rintro ⟨h1, h2⟩ j x y hj hx hy
      cases j with
      | zero => simp at hx hy; rw [← hx, ← hy]; exact h1
      | succ j => exact h2 j x y (by simp at hj ⊢; omega) (by simpa using hx) (by simpa using hy)
    · intro h
      exact ⟨h 0 a b (by simp) rfl rfl, fun j x y hj hx hy => h (j + 1) x y (by simp at hj ⊢; omega) (by simpa using hx) (by simpa using hy)⟩
theorem ret_b {a b : Bool} (h : a = b) : Ending.returned (.bool a) = .returned (.bool b) := by rw [h]
set_option maxHeartbeats 800000 in
theorem h9rise_any (w : World) (a : Option Addr) (n c : Nat) (l : List Cas) (h : Ls 2 cac w a n l) (hn : n ≤ 1000000) :
    Calls Tryd.prog 82 #[.slice a n c] w fun e w' => e = .returned (.bool (riseC l)) ∧ Below w.heap.size w w' := by
  have hln := h.1
  have HL := hide h
  clear h
  go_enter Tryd.func82, Tryd.ntmps82
  go_wp2
  go_loopw [3] (fun i wr => ∃ k : Nat, 1 ≤ k ∧ (k ≤ n ∨ k = 1) ∧ i = .int .i64 k ∧ Below w.heap.size w wr ∧ Hid (RiseTo l k)) (fun i _ => n - (intOf i).toNat)
  case atStart => exact ⟨1, by omega, .inr rfl, rfl, Below.refl _ _, fun j x y h => by omega⟩
  case round =>
    obtain ⟨k, hk1, hk, rfl, hR, HQ⟩ := hrel
    by_cases hlt : k < n
    · have hlt1 : (k : Int) < (n : Int) := by omega
      obtain ⟨m, hm⟩ : ∃ m, k = m + 1 := ⟨k - 1, by omega⟩
      have e1 : (k : Int) - 1 = m := by omega
      have e2 : IntKind.i64.wrap (m : Int) = m := by rw [IntKind.wrap_i64]; omega
      have e3 : (m : Int) < (n : Int) := by omega
      obtain ⟨b1, o1, h1a, h1⟩ := Ls.row (unhide HL) (w' := wr) (by omega)
      subst h1a
      obtain ⟨x, hx⟩ : ∃ x, l[m]? = some x := ⟨_, List.getElem?_eq_getElem (by omega)⟩
      obtain ⟨y, hy⟩ : ∃ y, l[k]? = some y := ⟨_, List.getElem?_eq_getElem (by omega)⟩
      have c0 := (h1 hR m x hx).zero
      have d0 := (h1 hR k y hy).zero
      have HX : Hid (x.key < y.key → RiseTo l (k + 1)) := fun hlt j x' y' hj hx' hy' => by
        by_cases hjm : j + 1 = k
        · obtain rfl : j = m := by omega
          rw [hx] at hx'
          rw [hjm, hy] at hy'
          injection hx' with hx'
          injection hy' with hy'
          rw [← hx', ← hy']
          exact hlt
        · exact unhide HQ j x' y' (by omega) hx' hy'
      have HY : Hid (¬ x.key < y.key → riseC l = false) := fun hnl => by
        cases hr : riseC l with
        | false => rfl
        | true => exact absurd ((riseC_iff l).1 hr m x y (by omega) hx (by rw [← hm]; exact hy)) hnl
      have HR := hide hR
      have HM := hide hm
      clear h1 hx hy hR HQ hm
      by_cases hxy : x.key < y.key
      · have f1 : ¬ y.key ≤ x.key := by omega
        have f2 : decide (y.key ≤ x.key) = false := by simpa using hxy
        have HX' := hide (unhide HX hxy)
        clear HX HY
        go_wp2
        go_quiet (fail)
        go_wp2
        go_roundw
        case rel => exact ⟨k + 1, by omega, .inl (by omega), by go_num, below_drewN (unhide HR) _, HX'⟩
        case measure => simp [intOf]; omega
      · have f1 : y.key ≤ x.key := by omega
        have HY' := hide (unhide HY hxy)
        clear HX HY
        go_wp2
        go_quiet (fail)
        go_wp2
        go_ret
        exact ⟨ret_b (unhide HY').symm, below_drewN (unhide HR) _⟩
    · have hlt1 : ¬ (k : Int) < (n : Int) := by omega
      have HT : Hid (riseC l = true) := (riseC_iff l).2 fun j x y hj hx hy => unhide HQ j x y (by omega) hx hy
      have HR := hide hR
      clear hR HQ
      go_wp2
      go_ret
      exact ⟨ret_b (unhide HT).symm, unhide HR⟩
end Go.Proofs.YtpmhcignenfhgaaDoor

/- The landed code: table, search. -/
namespace Go.Proofs.YtpmhcignenfhgaaDoor
open Go.RowKit
set_option linter.unusedVariables false
set_option maxRecDepth 100000

def tabG (bs : List UInt8) (bg first : Int) (i : Nat) : Option (List Cas × Nat) := (gR bs i 4 true).bind fun z => if 1 ≤ z.1 - first + 1 ∧ z.1 - first + 1 ≤ 256 then tabR bs bg (z.1 - first + 1).toNat first z.2 else none
def seaG (bs : List UInt8) (bg : Int) (i : Nat) : Option (List Cas × Nat) := (gR bs i 4 false).bind fun y => if y.1 ≤ 256 then (seaR bs bg y.1.toNat y.2).bind fun r => if riseC r.1 = true then some r else none else none
def cas9_post (o : Option (List Cas × Nat)) (C : Cr9) (i : Nat) (bg : Int) (wg : Bool) (w : World) (e : Ending) (w' : World) : Prop :=
  ∃ (s : Sl) (xs : List Cas) (i' : Nat) (wr' : Bool), e = .returned s.v ∧ Orw cac 51 2 w' w.heap.size s.v xs ∧ (∀ x ∈ xs, CasFit x) ∧ xs.length ≤ 256 ∧ G9 o wg xs i' wr' ∧ i ≤ i' ∧ Rd9 C i' bg wr' w' ∧ FX9 C w w'
theorem tab_got {bs : List UInt8} {bg first z n : Int} {i i1 i2 : Nat} {wg w1 w3 : Bool} {xs : List Cas} (g1 : G9 (gR bs i 4 true) wg z i1 w1) (hn : n = z - first + 1) (g2 : G9 (casR (fun (k j : Nat) => some (first + (k : Int), j)) bs bg n i1) (w1 || decide (n < 1)) xs i2 w3) : G9 (tabG bs bg first i) wg xs i2 w3 := by
  refine g1.bind ⟨fun e => g2.1 (by rw [e]; rfl), fun e => ?_⟩
  subst e
  subst hn
  unfold casR at g2
  by_cases h1 : z - first + 1 < 1
  · rw [decide_eq_true h1] at g2
    rw [if_neg (by omega)]
    exact .inr ⟨rfl, g2.1 rfl⟩
  · rw [decide_eq_false h1] at g2
    by_cases h2 : z - first + 1 ≤ 256
    · rw [if_pos (by omega), show tabR bs bg (z - first + 1).toNat first i1 = tabR bs bg (z - first + 1).toNat (first + ((0 : Nat) : Int)) i1 by simp, tab_many]
      rw [if_pos h2] at g2
      exact g2.2 rfl
    · rw [if_neg (by omega)]
      rw [if_neg h2] at g2
      exact g2.2 rfl
theorem sea_got {bs : List UInt8} {bg y : Int} {i i1 i2 : Nat} {wg w1 w3 : Bool} {xs : List Cas} (g1 : G9 (gR bs i 4 false) wg y i1 w1) (g2 : G9 (casR (fun (_ j : Nat) => gR bs j 4 true) bs bg y i1) w1 xs i2 w3) : G9 (seaG bs bg i) wg xs i2 (w3 || !riseC xs) := by
  refine g1.bind ?_
  unfold casR at g2
  show G9 (if y ≤ 256 then _ else none) w1 xs i2 _
  by_cases h2 : y ≤ 256
  · rw [if_pos h2, sea_many bs bg y.toNat 0 i1]
    rw [if_pos h2] at g2
    have := g2.refuse (fun xs => !riseC xs)
    have e : (fun r : List Cas × Nat => if riseC r.1 = true then some r else none) = fun x : List Cas × Nat => if (!riseC x.1) = true then none else some x := by
      funext x
      cases riseC x.1 <;> rfl
    rw [e]
    exact this
  · rw [if_neg h2]
    rw [if_neg h2] at g2
    refine ⟨fun e => by rw [g2.1 e]; rfl, fun e => .inr ⟨rfl, ?_⟩⟩
    rcases g2.2 e with ⟨g, _⟩ | ⟨_, g⟩
    · cases g
    · rw [g]; rfl
set_option maxHeartbeats 1600000 in
theorem h9table_any (C : Cr9) (i : Nat) (bg : Int) (wg : Bool) (w : World) (h : Rd9 C i bg wg w) (first : Int) (hfi : -4294967296 ≤ first ∧ first ≤ 4294967296) (hbg : 0 ≤ bg ∧ bg ≤ 140737488351232) :
    Calls Tryd.prog 56 #[.pointer (some ⟨C.X, 0, none⟩), .int .i64 first] w (cas9_post (tabG C.bs bg first i) C i bg wg w) := by
  have hB := h.hB
  obtain ⟨w0, hw0, hb0, f0⟩ : ∃ w0, w0 = w.alloc (.cells #[.int .i64 first] 3) ∧ w0.heap[w.heap.size]? = some (.cells #[.int .i64 first] 3 (0, 0)) ∧ Below w.heap.size w w0 := ⟨_, rfl, heap_alloc_last _ _, bA (Below.refl _ _) _⟩
  have hb0' : w0.drew.heap[w.heap.size]? = some (.cells #[.int .i64 first] 3 (0, 0)) := hb0
  have R0 : Rd9 C i bg wg w0.drew := h.below f0.drew
  have HN := hide (h9s4_any C i bg wg w0.drew R0)
  have F0 : Hid (FX9 C w w0.drew) := (FX9.refl C w).on f0.drew hB
  obtain ⟨SS, hSS⟩ : ∃ SS : World → Prop, SS = fun W => ∃ j wj, Rd9 C j bg wj W ∧ W.heap[w.heap.size]? = some (.cells #[.int .i64 first] 3 (0, 0)) := ⟨_, rfl⟩
  have KI : Hid (∀ W, (∃ j wj, Rd9 C j bg wj W ∧ W.heap[w.heap.size]? = some (.cells #[.int .i64 first] 3 (0, 0))) → SS W) := fun W f => by rw [hSS]; exact f
  have KE : Hid (∀ W, SS W → W.cell? ⟨w.heap.size, 0, none⟩ = some (.int .i64 first)) := fun W h => by
    rw [hSS] at h
    obtain ⟨_, _, _, h⟩ := h
    exact bx_cell h 0 _ rfl
  have H0 : Hid (SS w0.drew) := unhide KI _ ⟨_, _, R0, hb0'⟩
  have HKB : Hid (∀ j wj W W', Rd9 C j bg wj W → W.heap[w.heap.size]? = some (.cells #[.int .i64 first] 3 (0, 0)) → FX9 C W W' → W'.heap[w.heap.size]? = some (.cells #[.int .i64 first] 3 (0, 0))) := fun j wj W W' h1 h2 h3 => h1.blks h3 h2 (by decide) (by decide)
  have HB0 := hide hb0'
  have HR0 := hide R0
  have HW0 := hide hw0
  clear h hSS R0 hb0 hb0' f0 hw0
  go_enter Tryd.func56, Tryd.ntmps56
  go_wp2
  rw [← unhide HW0]
  refine wp_region_txt SS [1] [0, 2, 1, 3, 4, 5] (by kernel_rfl) (by kernel_rfl) (unhide H0) ?_
  repeat (refine Txt.reads (v := ?_) (by rfl) (by rfl) (by rfl) ?_ ?_; rotate_left; (focus ((intro W hSW; have q0 := unhide KE W hSW; go_simp) <;> with_reducible rfl)); simp only [Act.put, List.setIfInBounds_toArray, List.set_cons_zero, List.set_cons_succ])
  refine Txt.acts (by rfl) (by rfl) (by rfl) (fun K hK => ?_)
  go_simp
  refine (unhide HN).mono ?_
  rintro e w1 ⟨z, i1, wr1, rfl, g1, le1, fz, _, _, R1, f1⟩
  have hb1 := unhide HKB _ _ _ _ (unhide HR0) (unhide HB0) f1
  refine hK.out _ _ (unhide KI _ ⟨_, _, R1, hb1⟩) ?_
  have w1a : IntKind.i64.wrap (z - first) = z - first := by rw [IntKind.wrap_i64]; omega
  have w1b : IntKind.i64.wrap (z - first + 1) = z - first + 1 := by rw [IntKind.wrap_i64]; omega
  have HX1 := hide (And.intro g1 (And.intro le1 (And.intro R1 (And.intro ((unhide F0).trans f1) hb1))))
  clear hK K g1 le1 R1 f1 HN HR0 HB0 H0 hb1
  try simp only [Act.put, List.setIfInBounds_toArray, List.set_cons_zero, List.set_cons_succ]
  repeat (refine Txt.reads (v := ?_) (by rfl) (by rfl) (by rfl) ?_ ?_; rotate_left; (focus ((intro W hSW; have q0 := unhide KE W hSW; go_simp; try rw [w1a]; try rw [w1b]) <;> with_reducible rfl)); simp only [Act.put, List.setIfInBounds_toArray, List.set_cons_zero, List.set_cons_succ])
  refine Txt.done ?_
  obtain ⟨n, hn⟩ : ∃ n, n = z - first + 1 := ⟨_, rfl⟩
  rw [← hn]
  have hnb : -9000000000000000000 ≤ n ∧ n ≤ 9000000000000000000 := by omega
  have HNN := hide hn
  have HF2 : Hid (Calls Tryd.prog 61 #[.pointer (some ⟨C.X, 0, none⟩), .bool (decide (n < 1))] w1 fun e w' => e = .returned (.tuple #[]) ∧ Rd9 C i1 bg (wr1 || decide (n < 1)) w' ∧ FX9 C w1 w') := h9refuse_any C i1 bg wr1 w1 (unhide HX1).2.2.1 (decide (n < 1))
  clear hn w1a w1b
  go_wp2_with fail
  refine (unhide HF2).mono ?_
  rintro e w2 ⟨rfl, R2, f2⟩
  have hb2 := unhide HKB _ _ _ _ (unhide HX1).2.2.1 (unhide HX1).2.2.2.2 f2
  have HC := hide (h9cases1_any C i1 bg _ w2 R2 n w.heap.size first (by omega) hbg hb2)
  have HF3 := hide ((unhide HX1).2.2.2.1.trans f2)
  clear R2 f2 hb2 HF2
  go_wp2_with fail
  refine (unhide HC).mono ?_
  rintro e w3 ⟨s, xs, i3, wr3, rfl, o3, e3, l3, g3, le3, R3, f3⟩
  have HX3 := hide (And.intro o3 (And.intro e3 (And.intro l3 (And.intro (tab_got (unhide HX1).1 (unhide HNN) g3) (And.intro le3 (And.intro R3 ((unhide HF3).trans f3)))))))
  clear o3 e3 l3 g3 le3 R3 f3 HC
  obtain ⟨sa, sn, sc⟩ := s
  unfold Sl.v
  go_wp2
  go_ret
  obtain ⟨o3, e3, l3, g3, le3, R3, f3⟩ := unhide HX3
  exact ⟨⟨sa, sn, sc⟩, xs, i3, wr3, rfl, o3.base (unhide HF3).size, e3, l3, g3, Nat.le_trans (unhide HX1).2.1 le3, R3, f3⟩
set_option maxHeartbeats 1600000 in
theorem h9search_any (C : Cr9) (i : Nat) (bg : Int) (wg : Bool) (w : World) (h : Rd9 C i bg wg w) (first : Int) (hbg : 0 ≤ bg ∧ bg ≤ 140737488351232) :
    Calls Tryd.prog 57 #[.pointer (some ⟨C.X, 0, none⟩), .int .i64 first] w (cas9_post (seaG C.bs bg i) C i bg wg w) := by
  have hB := h.hB
  obtain ⟨w0, hw0, hb0, f0⟩ : ∃ w0, w0 = w.alloc (.cells #[.pointer (some ⟨C.X, 0, none⟩)] 65) ∧ w0.heap[w.heap.size]? = some (.cells #[.pointer (some ⟨C.X, 0, none⟩)] 65 (0, 0)) ∧ Below w.heap.size w w0 := ⟨_, rfl, heap_alloc_last _ _, bA (Below.refl _ _) _⟩
  have hb0' : w0.drew.heap[w.heap.size]? = some (.cells #[.pointer (some ⟨C.X, 0, none⟩)] 65 (0, 0)) := hb0
  have R0 : Rd9 C i bg wg w0.drew := h.below f0.drew
  have HN := hide (h9u4_any C i bg wg w0.drew R0)
  have F0 : Hid (FX9 C w w0.drew) := (FX9.refl C w).on f0.drew hB
  obtain ⟨SS, hSS⟩ : ∃ SS : World → Prop, SS = fun W => ∃ j wj, Rd9 C j bg wj W ∧ W.heap[w.heap.size]? = some (.cells #[.pointer (some ⟨C.X, 0, none⟩)] 65 (0, 0)) := ⟨_, rfl⟩
  have KI : Hid (∀ W, (∃ j wj, Rd9 C j bg wj W ∧ W.heap[w.heap.size]? = some (.cells #[.pointer (some ⟨C.X, 0, none⟩)] 65 (0, 0))) → SS W) := fun W f => by rw [hSS]; exact f
  have KE : Hid (∀ W, SS W → W.cell? ⟨w.heap.size, 0, none⟩ = some (.pointer (some ⟨C.X, 0, none⟩))) := fun W h => by
    rw [hSS] at h
    obtain ⟨_, _, _, h⟩ := h
    exact bx_cell h 0 _ rfl
  have H0 : Hid (SS w0.drew) := unhide KI _ ⟨_, _, R0, hb0'⟩
  have HKB : Hid (∀ j wj W W', Rd9 C j bg wj W → W.heap[w.heap.size]? = some (.cells #[.pointer (some ⟨C.X, 0, none⟩)] 65 (0, 0)) → FX9 C W W' → W'.heap[w.heap.size]? = some (.cells #[.pointer (some ⟨C.X, 0, none⟩)] 65 (0, 0))) := fun j wj W W' h1 h2 h3 => h1.blks h3 h2 (by decide) (by decide)
  have HB0 := hide hb0'
  have HR0 := hide R0
  have HW0 := hide hw0
  clear h hSS R0 hb0 hb0' f0 hw0
  go_enter Tryd.func57, Tryd.ntmps57
  go_wp2
  rw [← unhide HW0]
  refine wp_region_txt SS [2, 4] [0, 1, 3, 2, 4, 5] (by kernel_rfl) (by kernel_rfl) (unhide H0) ?_
  repeat (refine Txt.reads (v := ?_) (by rfl) (by rfl) (by rfl) ?_ ?_; rotate_left; (focus ((intro W hSW; have q0 := unhide KE W hSW; go_simp) <;> with_reducible rfl)); simp only [Act.put, List.setIfInBounds_toArray, List.set_cons_zero, List.set_cons_succ])
  refine Txt.acts (by rfl) (by rfl) (by rfl) (fun K hK => ?_)
  go_simp
  refine (unhide HN).mono ?_
  rintro e w1 ⟨y, i1, wr1, rfl, g1, le1, fz, _, _, R1, f1⟩
  have hb1 := unhide HKB _ _ _ _ (unhide HR0) (unhide HB0) f1
  refine hK.out _ _ (unhide KI _ ⟨_, _, R1, hb1⟩) ?_
  have HC := hide (h9cases2_any C i1 bg wr1 w1 R1 y w.heap.size hbg hb1)
  have HX1 := hide (And.intro g1 (And.intro le1 (And.intro R1 (And.intro ((unhide F0).trans f1) hb1))))
  clear hK K g1 le1 R1 f1 HN HR0 HB0 H0 hb1
  try simp only [Act.put, List.setIfInBounds_toArray, List.set_cons_zero, List.set_cons_succ]
  repeat (refine Txt.reads (v := ?_) (by rfl) (by rfl) (by rfl) ?_ ?_; rotate_left; (focus ((intro W hSW; have q0 := unhide KE W hSW; go_simp) <;> with_reducible rfl)); simp only [Act.put, List.setIfInBounds_toArray, List.set_cons_zero, List.set_cons_succ])
  refine Txt.acts (by rfl) (by rfl) (by rfl) (fun K hK => ?_)
  go_simp
  refine (unhide HC).mono ?_
  rintro e w3 ⟨s, xs, i3, wr3, rfl, o3, e3, l3, g3, le3, R3, f3⟩
  have hb3 := unhide HKB _ _ _ _ (unhide HX1).2.2.1 (unhide HX1).2.2.2.2 f3
  refine hK.out _ _ (unhide KI _ ⟨_, _, R3, hb3⟩) ?_
  have HX3 := hide (And.intro o3 (And.intro e3 (And.intro l3 (And.intro (sea_got (unhide HX1).1 g3) (And.intro le3 (And.intro R3 (And.intro ((unhide HX1).2.2.2.1.trans f3) hb3)))))))
  clear o3 e3 l3 g3 le3 R3 f3 HC hK K hb3
  obtain ⟨sa, sn, sc⟩ := s
  unfold Sl.v
  repeat (refine Txt.reads (v := ?_) (by rfl) (by rfl) (by rfl) ?_ ?_; rotate_left; (focus ((intro W hSW; have q0 := unhide KE W hSW; go_simp) <;> with_reducible rfl)); simp only [Act.put, List.setIfInBounds_toArray, List.set_cons_zero, List.set_cons_succ])
  refine Txt.done ?_
  go_wp2
  obtain ⟨o3, e3, l3, g3, le3, R3, f3, hb3⟩ := unhide HX3
  have b4 : Below w3.heap.size w3 w3.drew := (Below.refl _ _).drew
  have hsn : sn = xs.length := by
    obtain ⟨a', c', e1, _⟩ := o3.form
    injection e1
  have HRI := hide (h9rise_any w3.drew sa sn sc xs ((o3.ls rkC).below b4) (by omega))
  have H4 : Hid (SS w3.drew) := unhide KI _ ⟨_, _, R3.below b4, (b4.block _ (lt_of_heap hb3)).trans hb3⟩
  have HF4 : Hid (FX9 C w w3.drew) := f3.on b4 hB
  have R4 := hide (R3.below b4)
  have O4 : Hid (Orw cac 51 2 w3.drew w1.heap.size (.slice sa sn sc) xs) := o3.below fun k hk => b4.block k (o3.lt k hk).2
  have HB4 := hide ((b4.block _ (lt_of_heap hb3)).trans hb3)
  clear o3 e3 l3 g3 le3 R3 f3 hb3 b4 hsn
  refine wp_region_txt SS [2, 4] [0, 1, 2, 3, 4] (by kernel_rfl) (by kernel_rfl) (unhide H4) ?_
  repeat (refine Txt.reads (v := ?_) (by rfl) (by rfl) (by rfl) ?_ ?_; rotate_left; (focus ((intro W hSW; have q0 := unhide KE W hSW; go_simp) <;> with_reducible rfl)); simp only [Act.put, List.setIfInBounds_toArray, List.set_cons_zero, List.set_cons_succ])
  refine Txt.acts (by rfl) (by rfl) (by rfl) (fun K hK => ?_)
  go_simp
  refine (unhide HRI).mono ?_
  rintro e w5 ⟨rfl, f5⟩
  have R5 := (unhide R4).below f5
  have hb5 := (f5.block _ (lt_of_heap (unhide HB4))).trans (unhide HB4)
  refine hK.out _ _ (unhide KI _ ⟨_, _, R5, hb5⟩) ?_
  have O5 : Hid (Orw cac 51 2 w5 w1.heap.size (.slice sa sn sc) xs) := (unhide O4).below fun k hk => f5.block k ((unhide O4).lt k hk).2
  have F5 := hide ((unhide HF4).on f5 hB)
  have HRF : Hid (Calls Tryd.prog 61 #[.pointer (some ⟨C.X, 0, none⟩), .bool (!riseC xs)] w5 fun e w' => e = .returned (.tuple #[]) ∧ Rd9 C i3 bg (wr3 || !riseC xs) w' ∧ FX9 C w5 w') := h9refuse_any C i3 bg wr3 w5 R5 (!riseC xs)
  have HR5 := hide R5
  have HB5 := hide hb5
  clear hK K R5 hb5 f5 HRI R4 O4 HB4 H4 HF4
  try simp only [Act.put, List.setIfInBounds_toArray, List.set_cons_zero, List.set_cons_succ]
  repeat (refine Txt.reads (v := ?_) (by rfl) (by rfl) (by rfl) ?_ ?_; rotate_left; (focus ((intro W hSW; have q0 := unhide KE W hSW; go_simp) <;> with_reducible rfl)); simp only [Act.put, List.setIfInBounds_toArray, List.set_cons_zero, List.set_cons_succ])
  refine Txt.acts (by rfl) (by rfl) (by rfl) (fun K hK => ?_)
  go_simp
  refine (unhide HRF).mono ?_
  rintro e w6 ⟨rfl, R6, f6⟩
  refine hK.out _ _ (unhide KI _ ⟨_, _, R6, (unhide HKB _ _ _ _ (unhide HR5) (unhide HB5) f6)⟩) ?_
  have HX6 := hide (And.intro R6 (And.intro ((unhide F5).trans f6) ((unhide HR5).orw f6 (unhide O5) (by decide) (by decide))))
  clear hK K R6 f6 HRF HR5 O5 F5 HB5
  refine Txt.done ?_
  go_wp2
  go_ret
  obtain ⟨o3, e3, l3, g3, le3, _⟩ := unhide HX3
  obtain ⟨R6, f6, o6⟩ := unhide HX6
  exact ⟨⟨sa, sn, sc⟩, xs, i3, _, rfl, o6.base (unhide HX1).2.2.2.1.size, e3, l3, g3, Nat.le_trans (unhide HX1).2.1 le3, R6, f6⟩
end Go.Proofs.YtpmhcignenfhgaaDoor
