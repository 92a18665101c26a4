/- What the walk of WordWrites stands on. -/
import Derived.Test.YtkmcpedhcdgnoaaWdU
import Derived.Test.YtkmcpedhcdgnoaaWdReads
namespace Go.Proofs.Ytkmcpedhcdgnoaa
open Go.RowKit
set_option linter.unusedVariables false

theorem infoI6 : (Try.prog.info? 3).map (fun i => (i.zero, i.size, i.bytes)) = some (some (.int .i64 0), 1, 8) := by kernel_rfl
def iz (zs : List Int) : List Value := zs.map fun z => Value.int .i64 z
theorem iz_one (zs : List Int) : ∀ u ∈ iz zs, u.oneCell' = true := by
  intro u hu
  simp [iz] at hu
  obtain ⟨z, _, rfl⟩ := hu
  rfl
theorem nums_own {w : World} {base n c : Nat} {a : Option Addr} {zs : List Int} (hl : zs.length = n) (h : w.ownsRow base 3 1 (.slice a n c) n (iz zs)) : Nums w a n zs := by
  refine ⟨hl, ?_⟩
  rcases h.2 with ⟨e, h0⟩ | ⟨q, cap, cur, e, _⟩
  · exact .inl h0
  · injection e with e
    subst e
    refine .inr ⟨q, 0, rfl, fun j z hz => ?_⟩
    have := h.cells (g := q) rfl j (.int .i64 z) (by simp [iz, hz])
    rw [Addr.add_mid] at this
    exact this
set_option maxHeartbeats 800000 in
theorem ints_copy (w : World) (la : Option Addr) (ln lc : Nat) (zs : List Int) (hz : Nums w la ln zs) (hnil : la = none → ln = 0 ∧ lc = 0) (hs : ln ≤ 1000000) :
    Calls Try.prog 22 #[.slice la ln lc] w fun e w' => ∃ a c, e = .returned (.slice a ln c) ∧ Nums w' a ln zs ∧ (∀ b o, a = some ⟨b, o, none⟩ → w.heap.size ≤ b) ∧ Below w.heap.size w w' := by
  obtain ⟨i0, hi, hz0, hz1, hz2⟩ := info_parts infoI6
  have hown : (w.alloc (.cells #[] 3)).ownsRow w.heap.size 3 1 (.slice (some ⟨w.heap.size, 0, none⟩) 0 0) 0 [] := World.ownsRow_made w #[] 0 (Nat.le_refl _) (by simp) rfl
  have b0 : Below w.heap.size w (w.alloc (.cells #[] 3)) := (Below.refl _ _).alloc (Nat.le_refl _) _
  cases la with
  | none =>
    obtain ⟨rfl, rfl⟩ := hnil rfl
    have h0 : zs = [] := List.eq_nil_of_length_eq_zero hz.1
    subst h0
    go_enter Try.func22, Try.ntmps22
    go_wp2_with (at_builtin; refine wpList_append_own_none rfl (.tmp 3) (.tmp 4) 30 rfl w.heap.size 3 i0 1 Try.underlying30 hi _ _ _ rfl hown rfl ?_)
    go_ret
    have hfar : ∀ b o, (some (⟨w.heap.size, 0, none⟩ : Addr)) = some ⟨b, o, none⟩ → w.heap.size ≤ b := fun b o e => by
      injection e with e
      injection e with e
      omega
    first
      | exact ⟨_, _, rfl, ⟨rfl, .inl rfl⟩, hfar, b0⟩
      | exact ⟨_, ⟨_, rfl⟩, ⟨rfl, .inl rfl⟩, hfar, b0⟩
  | some ad =>
    have hsrc : ∀ j u, (iz zs)[j]? = some u → (w.alloc (.cells #[] 3)).cell? (ad.add j) = some u := fun j u hu => by
      have hjl := (List.getElem?_eq_some_iff.1 hu).1
      have hzl := hz.1
      have hj : j < zs.length := by simpa [iz] using hjl
      obtain ⟨b, o, e, hc⟩ := hz.2.resolve_left (by omega)
      injection e with e
      subst e
      rw [Addr.add_mid]
      have h1 := hc j _ (List.getElem?_eq_getElem hj)
      have h2 : u = .int .i64 zs[j] := by
        simp [iz, hj] at hu
        exact hu.symm
      rw [h2]
      exact cell_alloc h1 _
    have hzl := hz.1
    clear hz
    go_enter Try.func22, Try.ntmps22
    go_wp2_with (at_builtin; refine wpList_append_own _ rfl (.tmp 3) (.tmp 4) 30 rfl w.heap.size 3 i0 (.int .i64 0) 1 8 Try.underlying30 hi hz0 hz1 hz2 rfl (by decide) _ _ _ rfl hown ad ln lc (iz zs) rfl ?c0 ?c1 ?c2 ?c3 ?c4 ?c5 ?_)
    case c0 => simp [iz, hzl]
    case c1 => exact hsrc
    case c2 => exact iz_one _
    case c3 => unfold maxLen; omega
    case c4 => omega
    case c5 => simp
    intro v' w1 hown' hgrow _
    have hb : Below w.heap.size w w1 := b0.grown hgrow (by simp) (fun k hk => by simp [Value.ownBlock] at hk; omega)
    have ho' : w1.ownsRow w.heap.size 3 1 v' ln (iz zs) := by simpa using hown'
    obtain ⟨a', c', rfl, _⟩ := own_form ho'
    have HN := hide (nums_own hzl ho')
    have HL := hide ho'.lt
    have HB := hide hb
    clear hown' hgrow hb hown hsrc ho' b0
    go_wp2
    go_ret
    first
      | exact ⟨_, _, rfl, unhide HN, fun b o e => (unhide HL b (by rw [e]; rfl)).1, unhide HB⟩
      | exact ⟨_, ⟨_, rfl⟩, unhide HN, fun b o e => (unhide HL b (by rw [e]; rfl)).1, unhide HB⟩

section
variable {RD : (Nat → Prop) → World → Nat → Nat → List UInt8 → Nat → Prop} {WR : (Nat → Prop) → World → Nat → Nat → List UInt8 → Prop}
/-- The writer has written bs; the document's bytes are cs, in the row v. -/
structure WS (WR : (Nat → Prop) → World → Nat → Nat → List UInt8 → Prop) (w : World) (x : Nat) (bs cs : List UInt8) (v : Value) (n A : Nat) (W : World) : Prop where
  fr : Below w.heap.size w W
  wr : ∃ G, WR G W w.heap.size x bs ∧ (∀ k, v.ownBlock = some k → ¬ G k) ∧ ¬ G A
  own : W.ownsRow w.heap.size 5 1 v n (bv cs)
theorem WS.len {w : World} {x : Nat} {bs cs : List UInt8} {v : Value} {n A : Nat} {W : World} (h : WS WR w x bs cs v n A W) : cs.length = n := by
  have := h.own.1
  rw [bv_length] at this
  omega
theorem WS.below (S : Words RD WR) {w : World} {x : Nat} {bs cs : List UInt8} {v : Value} {n A : Nat} {W W' : World} (h : WS WR w x bs cs v n A W) (f : Below W.heap.size W W') : WS WR w x bs cs v n A W' := by
  obtain ⟨G, h1, h2, h3⟩ := h.wr
  exact ⟨h.fr.trans (f.mono h.fr.size), ⟨G, S.wbelow h1 f, h2, h3⟩, own_below h.own f⟩
/-- Behind a step of the writer. -/
theorem WS.step (S : Words RD WR) {w : World} {x : Nat} {bs bs' cs : List UInt8} {v : Value} {n A : Nat} {W W' : World} (h : WS WR w x bs cs v n A W) (hA : A < W.heap.size) (G : Nat → Prop) (hg : WR G W w.heap.size x bs) (h2 : ∀ k, v.ownBlock = some k → ¬ G k) (h3 : ¬ G A) (f : Fr6 G w.heap.size W W') (G' : Nat → Prop) (hg' : WR G' W' w.heap.size x bs') (hG : ∀ j, G' j → G j ∨ W.heap.size ≤ j) : WS WR w x bs' cs v n A W' :=
  ⟨h.fr.trans f.below, ⟨G', hg', fun k hk hk' => by
    rcases hG k hk' with h4 | h4
    · exact h2 k hk h4
    · have := (h.own.lt k hk).2
      omega, fun hk' => by
    rcases hG A hk' with h4 | h4
    · exact h3 h4
    · omega⟩, own_of_block h.own (fun k hk => f.other k (h.own.lt k hk).2 (h2 k hk))⟩
/-- The document's bytes lie in another row now, a new one. -/
theorem WS.moved (S : Words RD WR) {w : World} {x : Nat} {bs cs cs' : List UInt8} {v v' : Value} {n n' A : Nat} {W W' : World} (h : WS WR w x bs cs v n A W) (f : Below W.heap.size W W') (ho : W'.ownsRow W.heap.size 5 1 v' n' (bv cs')) : WS WR w x bs cs' v' n' A W' := by
  obtain ⟨G, h1, h2, h3⟩ := h.wr
  refine ⟨h.fr.trans (f.mono h.fr.size), ⟨G, S.wbelow h1 f, fun k hk hG => ?_, h3⟩, own_base ho h.fr.size⟩
  have h4 := (ho.lt k hk).1
  have h5 := (S.wlt h1 k hG).2
  omega
end

end Go.Proofs.Ytkmcpedhcdgnoaa
