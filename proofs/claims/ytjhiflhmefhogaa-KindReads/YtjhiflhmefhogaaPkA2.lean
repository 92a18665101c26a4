/- The landed pool as plain values: what comes of Put. -/
import Derived.Test.YtjhiflhmefhogaaPkA
namespace Go.Proofs.Ytjhiflhmefhogaa
open Go.RowKit
set_option linter.unusedVariables false

theorem clsK_fine {l : List Ent} {s : List UInt8} (h : rightL l) (hs : textB s = true) : GN l (clsK l s).1 (clsK l s).2 (cCls s) (fun t => t = 1 ∨ t = 7 ∨ t = 0) := by
  unfold clsK
  by_cases h0 : firstN l (cCls s) = 0
  · rw [if_pos h0]
    obtain ⟨e1, e2, e3, e4⟩ := addE_ext h (okE_utf (l := l) hs)
    generalize (addE l (eUtf s)).1 = L at *
    generalize (addE l (eUtf s)).2 = k at *
    have hk1 : tagE L (k : Int) = 1 := by unfold tagE; rw [e4]; rfl
    have E1 := e1.mono (S' := fun t => t = 1 ∨ t = 7 ∨ t = 0) (fun t ht => by
      have ht' : t = 1 ∨ t = 0 := ht
      omega)
    refine GN.new E1 (okE_class hk1) ?_ (by simp) (by simp)
    unfold meanN cCls
    simp
    rw [e4]
    rfl
  · rw [if_neg h0]
    obtain ⟨h1, h2, h3⟩ := firstN_some h0
    exact ⟨Ext.refl h _, h1, h2, h3⟩
theorem namK_fine {l : List Ent} {s t : List UInt8} (h : rightL l) (hs : textB s = true) (ht : textB t = true) : GN l (namK l s t).1 (namK l s t).2 (cNam s t) (fun t => t = 1 ∨ t = 12 ∨ t = 0) := by
  unfold namK
  by_cases h0 : firstN l (cNam s t) = 0
  · rw [if_pos h0]
    obtain ⟨e1, e2, e3, e4⟩ := addE_ext h (okE_utf (l := l) hs)
    generalize (addE l (eUtf s)).1 = L at *
    generalize (addE l (eUtf s)).2 = k at *
    obtain ⟨f1, f2, f3, f4⟩ := addE_ext e1.right (okE_utf (l := L) ht)
    generalize (addE L (eUtf t)).1 = L2 at *
    generalize (addE L (eUtf t)).2 = k2 at *
    have a1 := f1.at (i := (k : Int)) (by rw [e4]; simp [eUtf])
    rw [e4] at a1
    have hk1 : tagE L2 (k : Int) = 1 := by unfold tagE; rw [a1]; rfl
    have hk2 : tagE L2 (k2 : Int) = 1 := by unfold tagE; rw [f4]; rfl
    have E1 := e1.mono (S' := fun t => t = 1 ∨ t = 12 ∨ t = 0) (fun t ht => by
      have ht' : t = 1 ∨ t = 0 := ht
      omega)
    have F1 := f1.mono (S' := fun t => t = 1 ∨ t = 12 ∨ t = 0) (fun t ht => by
      have ht' : t = 1 ∨ t = 0 := ht
      omega)
    refine GN.new (E1.trans F1) (okE_name hk1 hk2) ?_ (by simp) (by simp)
    unfold meanN cNam
    simp
    rw [a1, f4]
    exact ⟨rfl, rfl⟩
  · rw [if_neg h0]
    obtain ⟨h1, h2, h3⟩ := firstN_some h0
    exact ⟨Ext.refl h _, h1, h2, h3⟩
theorem rightC_tags {c : Cst} (h : rightC c = true) : c.tag = 3 ∨ c.tag = 5 ∨ c.tag = 7 ∨ c.tag = 9 ∨ c.tag = 10 := by
  unfold rightC at h
  repeat (split at h; omega)
  cases h
/-- What the program's Put comes to, where it grows a pool or finds the number. -/
structure NumFine (l : List Ent) (c : Cst) : Prop where
  ext : ∃ e, (numK l c).1 = l ++ e
  right : rightL (numK l c).1
  pos : 1 ≤ (numK l c).2
  lt : (numK l c).2 < (numK l c).1.length
  mean : meanP (numK l c).1 ((numK l c).2 : Int) = c
  first : meansE (numK l c).1 c = (numK l c).2
theorem num_fine {l : List Ent} {c : Cst} (hr : rightL l) (hc : rightC c = true) : NumFine l c := by
  have ht := rightC_tags hc
  by_cases h0 : firstN l c = 0
  case neg =>
    have e1 : numK l c = (l, firstN l c) := if_pos h0
    have hm := firstN_means (l := l) ht
    obtain ⟨h1, h2, h3⟩ := firstN_some h0
    exact ⟨by rw [e1]; exact ⟨[], by simp⟩, by rw [e1]; exact hr, by rw [e1]; exact h1, by rw [e1]; exact h2, by rw [e1]; exact (meanP_N ht).2 h3, by rw [e1]; exact hm.symm⟩
  case pos =>
    -- one shape for all: L with x behind
    have key : ∀ (L : List Ent) (x : Ent) (S : Int → Prop), Ext l L S → okE L x = true → meanN L x = c → (∀ t, S t → t ≠ c.tag) → numK l c = (withE L x, L.length) → NumFine l c := fun L x S e ho hm hS hn => by
      obtain ⟨w1, w2, w3⟩ := withE_ext e.right ho
      have hmean : meanN (withE L x) (atE (withE L x) (L.length : Int)) = c := by
        rw [w3]
        obtain ⟨ex, hex⟩ := w1.ext
        rw [hex, meanN_keep ex e.right (.inr ho)]
        exact hm
      have hfirst := GN.first (x := x) e hr h0 hS w1.ext
      have hpos := right_len e.right
      have hE : ∃ z, withE L x = l ++ z := by
        obtain ⟨z1, hz1⟩ := w1.ext
        obtain ⟨z2, hz2⟩ := e.ext
        exact ⟨z2 ++ z1, by rw [hz1, hz2]; simp⟩
      refine ⟨by rw [hn]; exact hE, by rw [hn]; exact w1.right, by rw [hn]; exact hpos, by rw [hn]; exact w2, by rw [hn]; exact (meanP_N ht).2 hmean, ?_⟩
      rw [hn]
      show meansE (withE L x) c = L.length
      rw [← firstN_means ht]
      exact firstN_eq hpos w2 hmean hfirst
    by_cases t35 : c.tag = 3 ∨ c.tag = 5
    · have hcc : c = ⟨c.tag, c.n, [], [], []⟩ ∧ okE l ⟨c.tag, [], c.n, 0, 0⟩ = true := by
        unfold rightC at hc
        rcases t35 with t | t <;> simp [t] at hc
        · refine ⟨by rw [t]; exact hc.1, ?_⟩
          unfold okE
          simp [t]
          exact hc.2
        · refine ⟨by rw [t]; exact hc, ?_⟩
          unfold okE
          simp [t]
      refine key l ⟨c.tag, [], c.n, 0, 0⟩ (fun _ => False) (Ext.refl hr _) hcc.2 ?_ (fun t ht => ht.elim) ?_
      · unfold meanN
        rw [if_pos t35]
        exact hcc.1.symm
      · unfold numK
        rw [if_neg (by rw [h0]; simp), if_pos t35]
    by_cases t7 : c.tag = 7
    · have hcc : c = ⟨7, 0, c.cls, [], []⟩ ∧ textB c.cls = true := by
        unfold rightC at hc
        simp [t7] at hc
        exact hc
      have h0' : firstN l (cCls c.cls) = 0 := by
        have e : cCls c.cls = c := hcc.1.symm
        rw [e]
        exact h0
      obtain ⟨e1, e2, e3, e4⟩ := addE_ext hr (okE_utf (l := l) hcc.2)
      have hk1 : tagE (addE l (eUtf c.cls)).1 ((addE l (eUtf c.cls)).2 : Int) = 1 := by unfold tagE; rw [e4]; rfl
      refine key (addE l (eUtf c.cls)).1 ⟨7, [], 0, ((addE l (eUtf c.cls)).2 : Int), 0⟩ _ e1 (okE_class hk1) ?_ (fun t ht => ?_) ?_
      · unfold meanN
        simp
        rw [e4]
        exact hcc.1.symm
      · have ht' : t = 1 ∨ t = 0 := ht
        omega
      · unfold numK
        rw [if_neg (by rw [h0]; simp), if_neg t35, if_pos t7]
        exact if_pos h0'
    · have t9 : c.tag = 9 ∨ c.tag = 10 := by omega
      have hcc : c.n = 0 ∧ textB c.cls = true ∧ textB c.name = true ∧ textB c.type = true := by
        unfold rightC at hc
        rcases t9 with t | t <;> simp [t] at hc
        · exact ⟨hc.1.1.1, hc.1.1.2, hc.1.2, hc.2⟩
        · exact ⟨hc.1.1.1, hc.1.1.2, hc.1.2, hc.2⟩
      have g1 := clsK_fine hr hcc.2.1
      have hn : numK l c = refK l c := by
        unfold numK
        rw [if_neg (by rw [h0]; simp), if_neg t35, if_neg t7]
      unfold refK at hn
      generalize (clsK l c.cls).1 = L1 at *
      generalize (clsK l c.cls).2 = k1 at *
      have g2 := namK_fine g1.ext.right hcc.2.2.1 hcc.2.2.2
      generalize (namK L1 c.name c.type).1 = L2 at *
      generalize (namK L1 c.name c.type).2 = k2 at *
      have m1 := g2.ext.meanN g1.ext.right g1.lt
      rw [g1.mean] at m1
      have m2 := g2.mean
      have q1 := meanN_tag L2 (atE L2 (k1 : Int))
      rw [m1] at q1
      have q1' : (atE L2 (k1 : Int)).tag = 7 := q1.symm
      have q2 := meanN_tag L2 (atE L2 (k2 : Int))
      rw [m2] at q2
      have q2' : (atE L2 (k2 : Int)).tag = 12 := q2.symm
      have E1 := g1.ext.mono (S' := fun t => t = 1 ∨ t = 7 ∨ t = 12 ∨ t = 0) (fun t ht => by omega)
      have E2 := g2.ext.mono (S' := fun t => t = 1 ∨ t = 7 ∨ t = 12 ∨ t = 0) (fun t ht => by omega)
      refine key L2 ⟨c.tag, [], 0, (k1 : Int), (k2 : Int)⟩ _ (E1.trans E2) (okE_ref t9 q1' q2') ?_ (fun t ht => by omega) hn
      unfold meanN at m1 m2
      rw [if_neg (by omega), if_pos q1'] at m1
      rw [if_neg (by omega), if_neg (by omega), if_neg (by omega), if_pos q2'] at m2
      have s1 := congrArg Cst.cls m1
      have s2 := congrArg Cst.name m2
      have s3 := congrArg Cst.type m2
      unfold meanN
      simp only
      rw [if_neg (by omega), if_neg (by omega), if_pos t9]
      apply (Cst.eq_iff _ _).1
      exact ⟨rfl, hcc.1.symm, s1, s2, s3⟩

theorem putK_fine {l : List Ent} {c : Cst} (h : (putK l c).2.2 = 0) : ∃ k : Nat, (putK l c).2.1 = k ∧ PutFine l (putK l c).1 c k ∧ checkP l = true ∧ rightC c = true := by
  unfold putK at h ⊢
  by_cases h1 : checkP l = false
  · rw [if_pos h1] at h
    exact absurd h (by decide)
  · have h1' : checkP l = true := by cases hc : checkP l <;> simp_all
    have hr := (checkP_right.1 h1').2
    rw [if_neg h1] at h ⊢
    by_cases h2 : rightC c = false
    · rw [if_pos h2] at h
      exact absurd h (by decide)
    · have h2' : rightC c = true := by cases hc : rightC c <;> simp_all
      rw [if_neg h2] at h ⊢
      by_cases h4 : 1024 < (numK l c).1.length
      · rw [if_pos h4] at h
        exact absurd h (by decide)
      · rw [if_neg h4]
        have g := num_fine hr h2'
        exact ⟨(numK l c).2, rfl, ⟨g.ext, checkP_right.2 ⟨⟨right_len g.right, by show (numK l c).1.length ≤ 1024; omega⟩, g.right⟩, g.pos, g.lt, g.mean, g.first⟩, h1', h2'⟩
theorem putK_stays {a b : List Ent} {c : Cst} {n : Nat} (hn : 1 ≤ n) (hl : n < a.length) (hm : meanP a (n : Int) = c) (hf : meansE a c = n) (ha : checkP a = true) (hb : ∃ e, b = a ++ e) (hcb : checkP b = true) (hc : rightC c = true) :
    constP b (n : Int) = (c, 0) ∧ putK b c = (b, (n : Int), 0) := by
  obtain ⟨h1, h2⟩ := putP_stays hn hl hm hf ha hb hcb hc
  refine ⟨h1, ?_⟩
  obtain ⟨e, rfl⟩ := hb
  have hr := (checkP_right.1 ha).2
  have hmb : meanP (a ++ e) (n : Int) = c := by rw [meanP_keep e hr hl]; exact hm
  have hfb : meansE (a ++ e) c = n := by
    obtain ⟨_, _, _, h4⟩ := meansE_some (l := a) (c := c) (by omega)
    rw [hf] at h4
    exact meansE_eq hn (by simp; omega) hmb (fun j h1 h2 => by rw [meanP_keep e hr (by omega)]; exact h4 j h1 h2)
  have hN : numK (a ++ e) c = (a ++ e, n) := by
    have := firstN_means (l := a ++ e) (rightC_tags hc)
    rw [hfb] at this
    unfold numK
    rw [this, if_pos (by omega)]
  unfold putK
  rw [if_neg (by rw [hcb]; simp), if_neg (by rw [hc]; simp), hN, if_neg (by have := (checkP_right.1 hcb).1; simp at this ⊢; omega)]
theorem putK_err {l : List Ent} {k : Cst} (h : (putK l k).2.2 ≠ 0) : (putK l k).1 = [] ∧ (putK l k).2.1 = 0 := by
  unfold putK at h ⊢
  split
  · exact ⟨rfl, rfl⟩
  · rename_i h1
    rw [if_neg h1] at h
    split
    · exact ⟨rfl, rfl⟩
    · rename_i h2
      rw [if_neg h2] at h
      split
      · exact ⟨rfl, rfl⟩
      · rename_i h4
        rw [if_neg h4] at h
        exact absurd rfl h
theorem putK_len {l : List Ent} {k : Cst} : (putK l k).1.length ≤ 1024 := by
  unfold putK
  split
  · simp
  · split
    · simp
    · split
      · simp
      · show (numK l k).1.length ≤ _
        omega

end Go.Proofs.Ytjhiflhmefhogaa
