/- Pools as plain values: Put of a field or a method; what follows. -/
import Derived.Test.YtjhiflhmefhogaaPlF
namespace Go.Proofs.Ytjhiflhmefhogaa
open Go.RowKit
set_option linter.unusedVariables false

theorem grown_ref {l : List Ent} {c : Cst} (h : rightL l) (ht : c.tag = 9 ∨ c.tag = 10) (hc : rightC c = true) : Grown l c := by
  have hcc : c.n = 0 ∧ textB c.cls = true ∧ textB c.name = true ∧ textB c.type = true := by
    unfold rightC at hc
    rcases ht with t | t <;> simp [t] at hc
    · exact ⟨hc.1.1.1, hc.1.1.2, hc.1.2, hc.2⟩
    · exact ⟨hc.1.1.1, hc.1.1.2, hc.1.2, hc.2⟩
  have hg : growP l c = (let t := addE l (eUtf c.cls)
    let k := addE t.1 ⟨7, [], 0, t.2, 0⟩
    let n := addE k.1 (eUtf c.name)
    let y := addE n.1 (eUtf c.type)
    let z := addE y.1 ⟨12, [], 0, n.2, y.2⟩
    addE z.1 ⟨c.tag, [], 0, k.2, z.2⟩) := by unfold growP; rw [if_neg (by omega), if_neg (by omega)]
  simp only at hg
  have S : ∀ {a b : Int}, (a = 1 ∨ a = 7 ∨ a = 12) → b = a ∨ b = 0 → (b = 1 ∨ b = 7 ∨ b = 12 ∨ b = 0) := fun h1 h2 => by omega
  obtain ⟨a1, a2, a3, a4⟩ := addE_ext h (okE_utf (l := l) hcc.2.1)
  have A1 := a1.mono (S' := fun b => b = 1 ∨ b = 7 ∨ b = 12 ∨ b = 0) (fun b hb => S (a := 1) (by omega) hb)
  clear a1
  generalize (addE l (eUtf c.cls)).1 = L1 at *
  generalize (addE l (eUtf c.cls)).2 = k1 at *
  have hk1 : tagE L1 (k1 : Int) = 1 := by unfold tagE; rw [a4]; rfl
  obtain ⟨b1, b2, b3, b4⟩ := addE_ext A1.right (okE_class hk1)
  have B1 := b1.mono (S' := fun b => b = 1 ∨ b = 7 ∨ b = 12 ∨ b = 0) (fun b hb => S (a := 7) (by omega) hb)
  clear b1
  generalize (addE L1 ⟨7, [], 0, (k1 : Int), 0⟩).1 = L2 at *
  generalize (addE L1 ⟨7, [], 0, (k1 : Int), 0⟩).2 = k2 at *
  obtain ⟨c1, c2, c3, c4⟩ := addE_ext B1.right (okE_utf (l := L2) hcc.2.2.1)
  have C1 := c1.mono (S' := fun b => b = 1 ∨ b = 7 ∨ b = 12 ∨ b = 0) (fun b hb => S (a := 1) (by omega) hb)
  clear c1
  generalize (addE L2 (eUtf c.name)).1 = L3 at *
  generalize (addE L2 (eUtf c.name)).2 = k3 at *
  obtain ⟨d1, d2, d3, d4⟩ := addE_ext C1.right (okE_utf (l := L3) hcc.2.2.2)
  have D1 := d1.mono (S' := fun b => b = 1 ∨ b = 7 ∨ b = 12 ∨ b = 0) (fun b hb => S (a := 1) (by omega) hb)
  clear d1
  generalize (addE L3 (eUtf c.type)).1 = L4 at *
  generalize (addE L3 (eUtf c.type)).2 = k4 at *
  have n3 := D1.at (i := (k3 : Int)) (by rw [c4]; simp [eUtf])
  rw [c4] at n3
  have hk3 : tagE L4 (k3 : Int) = 1 := by unfold tagE; rw [n3]; rfl
  have hk4 : tagE L4 (k4 : Int) = 1 := by unfold tagE; rw [d4]; rfl
  obtain ⟨g1, g2, g3, g4⟩ := addE_ext D1.right (okE_name hk3 hk4)
  have G1 := g1.mono (S' := fun b => b = 1 ∨ b = 7 ∨ b = 12 ∨ b = 0) (fun b hb => S (a := 12) (by omega) hb)
  clear g1
  generalize (addE L4 ⟨12, [], 0, (k3 : Int), (k4 : Int)⟩).1 = L5 at *
  generalize (addE L4 ⟨12, [], 0, (k3 : Int), (k4 : Int)⟩).2 = k5 at *
  -- what stands in the last
  have E25 := (C1.trans D1).trans G1
  have E15 := B1.trans E25
  have p2 := E25.at (i := (k2 : Int)) (by rw [b4]; simp)
  rw [b4] at p2
  have p1 := E15.at (i := (k1 : Int)) (by rw [a4]; simp [eUtf])
  rw [a4] at p1
  have p3 := G1.at (i := (k3 : Int)) (by rw [n3]; simp [eUtf])
  rw [n3] at p3
  have p4 := G1.at (i := (k4 : Int)) (by rw [d4]; simp [eUtf])
  rw [d4] at p4
  have hk2 : tagE L5 (k2 : Int) = 7 := by unfold tagE; rw [p2]
  have hk5 : tagE L5 (k5 : Int) = 12 := by unfold tagE; rw [g4]
  obtain ⟨q1, q2, q3, q4⟩ := addE_ext G1.right (okE_ref ht hk2 hk5)
  have E05 := A1.trans E15
  have mref : ∀ {X : List Ent} {i : Int}, atE X i = ⟨c.tag, [], 0, (k2 : Int), (k5 : Int)⟩ → atE X (k2 : Int) = ⟨7, [], 0, (k1 : Int), 0⟩ → atE X (k1 : Int) = eUtf c.cls → atE X (k5 : Int) = ⟨12, [], 0, (k3 : Int), (k4 : Int)⟩ → atE X (k3 : Int) = eUtf c.name → atE X (k4 : Int) = eUtf c.type → meanP X i = c := fun {X i} x1 x2 x3 x4 x5 x6 => by
    unfold meanP
    rw [x1]
    simp only
    rw [if_neg (by omega), if_neg (by omega), if_pos ht, x2, x3, x4]
    simp only
    rw [x5, x6]
    apply (Cst.eq_iff _ _).1
    exact ⟨rfl, hcc.1.symm, rfl, rfl, rfl⟩
  have hm : meanP (addE L5 ⟨c.tag, [], 0, (k2 : Int), (k5 : Int)⟩).1 ((addE L5 ⟨c.tag, [], 0, (k2 : Int), (k5 : Int)⟩).2 : Int) = c := mref q4 ((q1.at (by rw [p2]; simp)).trans p2) ((q1.at (by rw [p1]; simp [eUtf])).trans p1) ((q1.at (by rw [g4]; simp)).trans g4) ((q1.at (by rw [p3]; simp [eUtf])).trans p3) ((q1.at (by rw [p4]; simp [eUtf])).trans p4)
  have F1 := E05.mono (S' := fun _ => True) (fun _ _ => trivial)
  have F2 := q1.mono (S' := fun _ => True) (fun _ _ => trivial)
  refine ⟨by rw [hg]; exact F1.trans F2, by rw [hg]; exact q2, by rw [hg]; exact q3, by rw [hg]; exact hm, fun hn j hj hk => ?_⟩
  have hLm : ∀ j : Nat, 1 ≤ j → j < L5.length → meanP L5 (j : Int) ≠ c := fun j h1 h2 he => by
    by_cases hjl : j < l.length
    · rw [E05.mean h hjl] at he
      exact meansE_none hn j h1 hjl he
    · have t := E05.tags j (by omega) h2
      have h3 : (meanP L5 (j : Int)).tag = c.tag := by rw [he]
      unfold meanP at h3
      rcases t with t | t | t | t <;> simp [t, cst0] at h3 <;> omega
  have hnew : addE L5 ⟨c.tag, [], 0, (k2 : Int), (k5 : Int)⟩ = (withE L5 ⟨c.tag, [], 0, (k2 : Int), (k5 : Int)⟩, L5.length) := addE_new (fun j h1 h2 he => hLm j h1 h2 (mref he p2 p1 g4 p3 p4))
  rw [hg] at hk ⊢
  rw [hnew] at hk
  rw [q1.mean G1.right (by exact hk)]
  exact hLm j hj hk

theorem grown_any {l : List Ent} {c : Cst} (h : rightL l) (hc : rightC c = true) : Grown l c := by
  have ht : c.tag = 3 ∨ c.tag = 5 ∨ c.tag = 7 ∨ c.tag = 9 ∨ c.tag = 10 := by
    unfold rightC at hc
    repeat (split at hc; omega)
    cases hc
  by_cases h1 : c.tag = 3 ∨ c.tag = 5
  · exact grown_num h h1 hc
  · by_cases h2 : c.tag = 7
    · exact grown_class h h2 hc
    · exact grown_ref h (by omega) hc
theorem rightC_tag {c : Cst} (h : rightC c = true) : c.tag ≠ 0 := by
  intro e
  unfold rightC at h
  simp [e] at h

/-- What Put answers where it does: a pool that begins with what was there; its number means it, and is the first that does. -/
structure PutFine (l L : List Ent) (c : Cst) (k : Nat) : Prop where
  ext : ∃ e, L = l ++ e
  right : checkP L = true
  pos : 1 ≤ k
  lt : k < L.length
  mean : meanP L (k : Int) = c
  first : meansE L c = k
theorem putP_fine {l : List Ent} {c : Cst} (h : (putP l c).2.2 = 0) : ∃ k : Nat, (putP l c).2.1 = k ∧ PutFine l (putP l c).1 c k ∧ checkP l = true ∧ rightC c = true := by
  unfold putP at h ⊢
  by_cases h1 : checkP l = false
  · rw [if_pos h1] at h
    exact absurd h (by decide)
  · have h1' : checkP l = true := by cases hc : checkP l <;> simp_all
    have hr := (checkP_right.1 h1').2
    have hlen := (checkP_right.1 h1').1
    rw [if_neg h1] at h ⊢
    by_cases h2 : rightC c = false
    · rw [if_pos h2] at h
      exact absurd h (by decide)
    · have h2' : rightC c = true := by cases hc : rightC c <;> simp_all
      rw [if_neg h2] at h ⊢
      by_cases h3 : meansE l c = 0
      · rw [if_neg (by simp [h3])] at h ⊢
        have g := grown_any hr h2'
        by_cases h4 : 1024 < (growP l c).1.length
        · rw [if_pos h4] at h
          exact absurd h (by decide)
        · rw [if_neg h4]
          have gl := g.ext.len
          refine ⟨(growP l c).2, rfl, ⟨g.ext.ext, checkP_right.2 ⟨⟨by show 1 ≤ (growP l c).1.length; omega, by show (growP l c).1.length ≤ 1024; omega⟩, g.ext.right⟩, g.pos, g.lt, g.mean, meansE_eq g.pos g.lt g.mean (g.first h3)⟩, h1', h2'⟩
      · rw [if_pos h3]
        obtain ⟨m1, m2, m3, m4⟩ := meansE_some h3
        exact ⟨meansE l c, rfl, ⟨⟨[], by simp⟩, h1', m1, m2, m3, rfl⟩, h1', h2'⟩
/-- What was put stays, and put again it is where it was. -/
theorem putP_stays {a b : List Ent} {c : Cst} {n : Nat} (hn : 1 ≤ n) (hl : n < a.length) (hm : meanP a (n : Int) = c) (hf : meansE a c = n) (ha : checkP a = true) (hb : ∃ e, b = a ++ e) (hcb : checkP b = true) (hc : rightC c = true) :
    constP b (n : Int) = (c, 0) ∧ putP b c = (b, (n : Int), 0) := by
  obtain ⟨e, rfl⟩ := hb
  have hr := (checkP_right.1 ha).2
  have hmb : meanP (a ++ e) (n : Int) = c := by rw [meanP_keep e hr hl]; exact hm
  have hfb : meansE (a ++ e) c = n := by
    obtain ⟨_, _, _, h4⟩ := meansE_some (l := a) (c := c) (by omega)
    rw [hf] at h4
    exact meansE_eq hn (by simp; omega) hmb (fun j h1 h2 => by rw [meanP_keep e hr (by omega)]; exact h4 j h1 h2)
  refine ⟨?_, ?_⟩
  · unfold constP
    rw [if_neg (by rw [hcb]; simp), hmb, if_neg (rightC_tag hc)]
  · unfold putP
    rw [if_neg (by rw [hcb]; simp), if_neg (by rw [hc]; simp), hfb, if_pos (by omega)]

end Go.Proofs.Ytjhiflhmefhogaa
