/- What a slice of acts that came in reads as, with all fields. -/
import Derived.Test.YtaflibnalhfenaaDkKept
import Derived.Test.YtaflibnalhfenaaDkVa
import Derived.Test.YtaflibnalhfenaaDkArgs
import Derived.SizedLaws
namespace Go.Proofs.Ytaflibnalhfenaa
open Go.ChangeShapes Go.WideShapes Go.ChangeAt Go.RowKit
set_option linter.unusedVariables false

theorem fact_cells {H : Type} {enc : TypeId × Value → H} {w : World} {base : Nat} {n : Nat} {cs : List Value} {x : DataW H × List MemPlace}
    (h : DataW.trod enc Try.prog w base (fun _ => true) true n 35 cs = some x) (hw : ∀ m ∈ x.1.weights Try.prog 35, m ≤ reachBytes) :
    ∃ a : FAct, (cs[0]? = some (.int .i64 a.kind) ∧ cs[1]? = some (.int .i64 a.at_) ∧ cs[2]? = some (.int .i64 a.n) ∧ cs[3]? = some (.int .u8 (a.byte.toNat : Int)) ∧ cs[4]? = some (.bool a.short) ∧ cs[5]? = some (.slice a.ka a.kept.length a.kc)) ∧ FOk w a := by
  obtain ⟨xs, m, _, rfl, hl, hlen, hf⟩ := DataW.trod_struct Try.underlying35 h
  have f0 := hf 0 { name := "Do", type := 3, offset := 0, embedded := false, tag := "", pkgPath := "", byteOffset := 0 } rfl
  have f1 := hf 1 { name := "At", type := 3, offset := 1, embedded := false, tag := "", pkgPath := "", byteOffset := 8 } rfl
  have f2 := hf 2 { name := "N", type := 3, offset := 2, embedded := false, tag := "", pkgPath := "", byteOffset := 16 } rfl
  have f3 := hf 3 { name := "Byte", type := 5, offset := 3, embedded := false, tag := "", pkgPath := "", byteOffset := 24 } rfl
  have f4 := hf 4 { name := "Short", type := 4, offset := 4, embedded := false, tag := "", pkgPath := "", byteOffset := 25 } rfl
  have f5 := hf 5 { name := "Kept", type := 33, offset := 5, embedded := false, tag := "", pkgPath := "", byteOffset := 32 } rfl
  simp only [cellsI, cellsB, cellsBo, cellsSl] at f0 f1 f2 f3 f4 f5
  have l6 : xs.length = 6 := hlen
  rw [List.getElem?_eq_getElem (by omega)] at f0 f1 f2 f3 f4 f5
  obtain ⟨n0, e0, _, _⟩ := DataW.trod_int Try.underlying3 f0
  obtain ⟨n1, e1, _, _⟩ := DataW.trod_int Try.underlying3 f1
  obtain ⟨n2, e2, _, w2⟩ := DataW.trod_int Try.underlying3 f2
  obtain ⟨n3, e3, _, w3⟩ := DataW.trod_int Try.underlying5 f3
  obtain ⟨s4, e4, _⟩ := DataW.trod_bool Try.underlying4 f4
  obtain ⟨ka, kc, kept, e5, hk, hkn, hkw⟩ := kept_open f5
  have b3 := bounds_u8 w3
  have b2 := bounds_i64 w2
  refine ⟨⟨n0, n1, n2, UInt8.ofNat n3.toNat, s4, kept, ka, kc⟩, ⟨take_one e0, take_one e1, take_one e2, ?_, take_one e4, take_one e5⟩, ⟨b2.2, hk, hkn, ?_⟩⟩
  · have e : ((UInt8.ofNat n3.toNat).toNat : Int) = n3 := by simp; omega
    rw [e]
    exact take_one e3
  · show kept.length * 8 ≤ 140737488351232
    rcases hkw with h0 | ⟨es, ss, hd, hle⟩
    · omega
    · have hm := hw ((es.length + ss.length) * Try.prog.bytesOf 3) (by
        simp only [DataW.weights, Try.underlying35]
        refine DataW.weights_mem_each (j := 5) (t := 33) (d := xs[5].1) rfl ?_ _ ?_
        · rw [List.getElem?_map, List.getElem?_eq_getElem (by omega)]; rfl
        · rw [hd]
          simp [DataW.weights, Try.underlying33])
      rw [bytes_eight] at hm
      unfold reachBytes at hm
      omega

theorem acts_full {H : Type} {enc : TypeId × Value → H} {w : World} {base : Nat} {fuel : Nat} {a : Option Addr} {len cap : Nat} {x : DataW H × List MemPlace}
    (h : DataW.trod enc Try.prog w base (fun _ => true) true fuel 22 [.slice a len cap] = some x) (hw : ∀ m ∈ x.1.weights Try.prog 22, m ≤ reachBytes) :
    ∃ l : List FAct, l.length = len ∧ len ≤ 9223372036854775807 ∧ (len = 0 ∨ ∃ b o, a = some ⟨b, o, none⟩ ∧ ∀ (j : Nat) (y : FAct), l[j]? = some y → FullAt w b (o + j * 6) y ∧ FOk w y) := by
  rcases Go.Deep.open_slice Try.underlying22 h with ⟨hcs, _⟩ | ⟨ad, len', cap', m, n, D, Pl, hcs, _, hl, hm, hmm, hx, hel⟩
  · simp at hcs
    obtain ⟨rfl, rfl, rfl⟩ := hcs
    exact ⟨[], rfl, by omega, .inl rfl⟩
  · simp at hcs
    obtain ⟨rfl, rfl, rfl⟩ := hcs
    unfold maxLen at hm
    have hlm : len ≤ m := by rw [hmm]; split <;> omega
    by_cases h0 : len = 0
    · subst h0
      exact ⟨[], rfl, by omega, .inl rfl⟩
    have hsp : ad = ⟨ad.block, ad.off, none⟩ := by
      obtain ⟨cs', h1, h2⟩ := hel 0 (by omega)
      rw [cellsA] at h1
      obtain ⟨y, c0, _⟩ := act_cells h2
      have g0 := (World.cells?_some h1).2.2 0 (by omega)
      rw [c0] at g0
      exact spot_none (w := w) (a := ad) (by simpa [Addr.add] using g0)
    have hE : ∀ i, i < len → ∃ y : FAct, FullAt w ad.block (ad.off + i * 6) y ∧ FOk w y := by
      intro i hi
      obtain ⟨cs', h1, h2⟩ := hel i (by omega)
      rw [cellsA] at h1
      have hwi : ∀ k ∈ (D i).weights Try.prog 35, k ≤ reachBytes := by
        intro k hk
        refine hw k ?_
        rw [hx]
        simp only [DataW.weights, Try.underlying22]
        refine List.mem_cons_of_mem _ (List.mem_append_left _ (weightsAll_mem hk ?_))
        exact List.mem_map.2 ⟨i, List.mem_range.2 hi, rfl⟩
      obtain ⟨y, ⟨c0, c1, c2, c3, c4, c5⟩, hok⟩ := fact_cells h2 hwi
      have hc := World.cells?_some h1
      have g0 := hc.2.2 0 (by omega)
      have g1 := hc.2.2 1 (by omega)
      have g2 := hc.2.2 2 (by omega)
      have g3 := hc.2.2 3 (by omega)
      have g4 := hc.2.2 4 (by omega)
      have g5 := hc.2.2 5 (by omega)
      rw [c0] at g0
      rw [c1] at g1
      rw [c2] at g2
      rw [c3] at g3
      rw [c4] at g4
      rw [c5] at g5
      rw [hsp, Addr.add_mid, Addr.add_mid] at g0 g1 g2 g3 g4 g5
      exact ⟨y, ⟨g0, g1, g2, g3, g4, g5⟩, hok⟩
    · let F : ∀ i, i < len → FAct := fun i hi => Classical.choose (hE i hi)
      have hF : ∀ i (hi : i < len), FullAt w ad.block (ad.off + i * 6) (F i hi) ∧ FOk w (F i hi) := fun i hi => Classical.choose_spec (hE i hi)
      refine ⟨List.ofFn (fun i : Fin len => F i.1 i.2), by simp, by omega, .inr ⟨ad.block, ad.off, by rw [← hsp], ?_⟩⟩
      intro j z hz
      have hj : j < len := by have := (List.getElem?_eq_some_iff.1 hz).1; simpa using this
      have hzz : z = F j hj := by
        obtain ⟨_, e⟩ := List.getElem?_eq_some_iff.1 hz
        rw [← e]; simp
      subst hzz
      exact ⟨(hF j hj).1, (hF j hj).2⟩

end Go.Proofs.Ytaflibnalhfenaa
