/- What the walks of stage 8's laws ask of the program's class, call by call, where its table is as its text lays it; works8; the walk of ClassFinds. -/
import Derived.Test.YthhdfokcciibmaaDoorJCkG
import Derived.Test.YthhdfokcciibmaaDoorJClFi

namespace Go.Proofs.YthhdfokcciibmaaDoor
open Go.RowKit
set_option linter.unusedVariables false
set_option maxRecDepth 100000

def PrintOk : Prop := ∀ (w : World) (r : ClR), Tab8 w → CIn w r → Calls Tryd.prog 12 #[r.v] w fun e w' => (∃ v, e = .returned (.tuple #[v, .int .i64 (errK r.c)]) ∧ w'.ownsRow w.heap.size 5 1 v (printK r.c).length (bv (printK r.c))) ∧ Below w.heap.size w w'
def FindOk : Prop := ∀ (w : World) (r : ClR) (s t : List UInt8), CIn w r → fitS s → fitS t → Calls Tryd.prog 5 #[r.v, .string ⟨s.toArray⟩, .string ⟨t.toArray⟩] w fun e w' => e = .returned (.tuple #[.int .i64 (findK r.c.methods s t).1, .int .i64 (findK r.c.methods s t).2]) ∧ Below w.heap.size w w'

set_option maxHeartbeats 3200000 in
theorem works8_tab (P : PrintOk) (w : World) (hT : Tab8 w) :
    Calls Tryd.prog 6 #[] w fun e w' => e = .returned (.bool true) ∧ Below w.heap.size w w' := by
  have HS := hide (small8_any w)
  go_enter Tryd.func6, Tryd.ntmps6
  go_wp2_with fail
  refine (unhide HS).mono ?_
  rintro e w1 ⟨⟨r, rfl, hrc, hin⟩, f1⟩
  have HP := P w1 r (hT.below f1) hin
  rw [hrc, errEx, printEx] at HP
  have HP1 := hide HP
  have F1 := hide f1
  clear HP f1 hin hrc HS
  go_wp2_with fail
  refine (unhide HP1).mono ?_
  rintro e w2 ⟨⟨v, rfl, o2⟩, f2⟩
  have F2 := hide ((unhide F1).trans (f2.mono (unhide F1).size))
  obtain ⟨a2, c2, rfl, _⟩ := own_form o2
  have hcv : (convert 30 9 (.slice a2 bytesEx.length c2)).run Tryd.prog w2 = .ok (.string ⟨bytesEx.toArray⟩) w2 := conv_bytes w2 a2 bytesEx c2 (own_bytes o2)
  have hcv : (convert 30 9 (.slice a2 31 c2)).run Tryd.prog w2 = .ok (.string ⟨#[202, 254, 186, 190, 0, 0, 0, 52, 0, 3, 1, 0, 1, 97, 7, 0, 1, 0, 33, 0, 2, 0, 0, 0, 0, 0, 0, 0, 0, 0, 0]⟩) w2 := hcv
  have hL : bytesEx.length = 31 := rfl
  rw [hL]
  clear f2 F1 HP1 o2
  go_wp2
  go_ret
  exact ⟨rfl, unhide F2⟩


set_option maxHeartbeats 6400000 in
theorem finds_tab (P : PrintOk) (PF : FindOk) (w : World) (hT : Tab8 w) (r : ClR) (s t : List UInt8) (hC : CIn w r) (hs : fitS s) (ht : fitS t) :
    Calls Tryd.prog 3 #[r.v, .string ⟨s.toArray⟩, .string ⟨t.toArray⟩] w fun e w' => e = .returned (.bool true) ∧ Below w.heap.size w w' := by
  obtain ⟨cc, p1, f1, m1, mr⟩ := r
  obtain ⟨pl, nm, sp, fl, ml⟩ := cc
  obtain ⟨p1a, p1n, p1c⟩ := p1
  obtain ⟨f1a, f1n, f1c⟩ := f1
  obtain ⟨m1a, m1n, m1c⟩ := m1
  obtain ⟨w0, e0, f0, K0⟩ := one_local w #[.slice p1a p1n p1c, .string ⟨nm.toArray⟩, .string ⟨sp.toArray⟩, .slice f1a f1n f1c, .slice m1a m1n m1c] 26
  have KL : Hid (∀ W, Below w0.heap.size w0 W → W.cell? ⟨w.heap.size, 4, none⟩ = some (.slice m1a m1n m1c)) := fun W f => K0 W f 4 _ rfl
  replace hC := hC.below f0
  have HF := PF w0 _ s t hC hs ht
  have hl := hC.methods.ls.1
  have hsm := hC.methods.small
  have hsame := hC.same
  simp only at hl hsm hsame HF
  have hs1 : m1n ≤ 140737488351232 := by omega
  have HM := hide hC.methods.ls
  simp only at HM
  have E0 := hide e0
  have F0 := hide f0
  have HW : Hid (∀ W, Below w0.heap.size w0 W → Calls Tryd.prog 6 #[] W fun e w' => e = .returned (.bool true) ∧ Below w0.heap.size w0 w') := fun W f => (works8_tab P W ((hT.below f0).below f)).mono (by
    rintro e w' ⟨rfl, f'⟩
    exact ⟨rfl, f.trans (f'.mono f.size)⟩)
  obtain ⟨FK, hFK⟩ : ∃ FK, FK = findK ml s t := ⟨_, rfl⟩
  rw [← hFK] at HF
  have HFK := hide hFK
  obtain ⟨K1, K2⟩ := FK
  have HF1 := hide HF
  clear HF e0 f0 K0 hC hsm hFK
  unfold ClR.v Sl.v at HF1 ⊢
  simp only at HF1 ⊢
  obtain ⟨zs, hzs⟩ : ∃ zs : ByteArray, zs = ⟨s.toArray⟩ := ⟨_, rfl⟩
  obtain ⟨zt, hzt⟩ : ∃ zt : ByteArray, zt = ⟨t.toArray⟩ := ⟨_, rfl⟩
  rw [← hzs, ← hzt] at HF1 ⊢
  have HZ := hide (And.intro hzs hzt)
  clear hzs hzt
  have HSM := hide hsame
  clear hsame
  go_enter Tryd.func3, Tryd.ntmps3
  go_wp2_with fail
  rw [unhide E0]
  refine (unhide HF1).mono ?_
  rintro e w1 ⟨rfl, g1⟩
  have G1 := hide g1
  have k0 := unhide KL _ g1
  clear g1 HF1
  go_wp2
  clear k0
  go_loopw [9] (fun i wr => ∃ k : Nat, k ≤ m1n ∧ i = .int .i64 k ∧ Below w0.heap.size w0 wr ∧ ∀ (j : Nat) (m : Md), j < k → ml[j]? = some m → ¬ (m.name = s ∧ m.type = t)) (fun i _ => m1n - (intOf i).toNat)
  case atStart => exact ⟨0, by omega, rfl, unhide G1, fun j m hj => absurd hj (Nat.not_lt_zero _)⟩
  case round =>
    obtain ⟨k, hk, rfl, hR, hno⟩ := hrel
    have HNO := hide hno
    have k0 := unhide KL _ hR
    have HR := hide hR
    clear hno
    by_cases hlt : k < m1n
    · have hlt1 : (k : Int) < (m1n : Int) := by omega
      obtain ⟨b1, o1, h1a, h1⟩ := Ls.row (unhide HM) (w' := w) (by omega)
      subst h1a
      obtain ⟨x, hx⟩ : ∃ x, mr[k]? = some x := ⟨_, List.getElem?_eq_getElem (by omega)⟩
      have hmx : ml[k]? = some x.m := by rw [unhide HSM, List.getElem?_map, hx]; rfl
      have q1 := h1 hR k x hx
      have c1 := q1 1 _ rfl
      have c2 := q1 2 _ rfl
      have HMX := hide hmx
      clear h1 hx q1 hmx hR
      obtain ⟨sn, hsn⟩ : ∃ sn : ByteArray, sn = ⟨x.m.name.toArray⟩ := ⟨_, rfl⟩
      obtain ⟨st, hst⟩ : ∃ st : ByteArray, st = ⟨x.m.type.toArray⟩ := ⟨_, rfl⟩
      rw [← hsn] at c1
      rw [← hst] at c2
      have i1 : sn = zs ↔ x.m.name = s := by rw [hsn, (unhide HZ).1]; simp
      have i2 : st = zt ↔ x.m.type = t := by rw [hst, (unhide HZ).2]; simp
      have t1 : sn.toList = zs.toList ↔ x.m.name = s := by rw [hsn, (unhide HZ).1]; simp
      have t2 : st.toList = zt.toList ↔ x.m.type = t := by rw [hst, (unhide HZ).2]; simp
      have T1 := hide t1
      have T2 := hide t2
      have I1 := hide i1
      have I2 := hide i2
      clear i1 i2 t1 t2 hsn hst
      by_cases y1 : sn = zs
      · by_cases y2 : st = zt
        · have hK : ((K1, K2) : Int × Int) = ((k : Int), 0) := (unhide HFK).trans (findK_at (unhide HNO) (unhide HMX) ⟨(unhide I1).1 y1, (unhide I2).1 y2⟩)
          injection hK with hK1 hK2
          subst hK1 hK2 y1 y2
          clear I1 I2 T1 T2
          go_wp2_with fail
          refine (unhide HW _ (unhide HR)).mono ?_
          rintro e w2 ⟨rfl, g2⟩
          have G2 := hide ((unhide F0).trans (g2.mono (unhide F0).size))
          clear g2
          go_wp2
          go_ret
          exact ⟨rfl, unhide G2⟩
        · have hno2 : ∀ (j : Nat) (m : Md), j < k + 1 → ml[j]? = some m → ¬ (m.name = s ∧ m.type = t) := fun j m hj hm => by
            by_cases e : j < k
            · exact unhide HNO j m e hm
            · obtain rfl : j = k := by omega
              rw [unhide HMX] at hm
              injection hm with hm
              subst hm
              exact fun h => y2 ((unhide I2).2 h.2)
          have HN2 := hide hno2
          have hb : ¬ st.toList = zt.toList := fun h => y2 ((unhide I2).2 ((unhide T2).1 h))
          have hb2 : (st.toList == zt.toList) = false := by simpa using hb
          clear hno2 I1 I2 T1 T2 y2 HNO
          subst y1
          go_wp2
          exact ⟨⟨k + 1, by omega, by go_num, unhide HR, unhide HN2⟩, by simp [intOf]; omega⟩
      · have hno2 : ∀ (j : Nat) (m : Md), j < k + 1 → ml[j]? = some m → ¬ (m.name = s ∧ m.type = t) := fun j m hj hm => by
          by_cases e : j < k
          · exact unhide HNO j m e hm
          · obtain rfl : j = k := by omega
            rw [unhide HMX] at hm
            injection hm with hm
            subst hm
            exact fun h => y1 ((unhide I1).2 h.1)
        have HN2 := hide hno2
        have hb : ¬ sn.toList = zs.toList := fun h => y1 ((unhide I1).2 ((unhide T1).1 h))
        clear hno2 I1 I2 T1 T2 y1 HNO
        go_wp2
        exact ⟨⟨k + 1, by omega, by go_num, unhide HR, unhide HN2⟩, by simp [intOf]; omega⟩
    · obtain rfl : k = m1n := by omega
      have hK : ((K1, K2) : Int × Int) = (0, 5) := (unhide HFK).trans (findK_none fun j m hm => unhide HNO j m (by have := (List.getElem?_eq_some_iff.1 hm).1; rw [unhide HSM] at this; simp at this; omega) hm)
      injection hK with hK1 hK2
      subst hK1 hK2
      clear hR
      go_wp2_with fail
      refine (unhide HW _ (unhide HR)).mono ?_
      rintro e w2 ⟨rfl, g2⟩
      have G2 := hide ((unhide F0).trans (g2.mono (unhide F0).size))
      clear g2
      go_wp2
      go_ret
      exact ⟨rfl, unhide G2⟩
end Go.Proofs.YthhdfokcciibmaaDoor
