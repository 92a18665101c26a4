/- Joined: CgU CgV CgW. -/
import Derived.Test.YtpmhcignenfhgaaDoorJCdE
import Derived.Test.YtpmhcignenfhgaaDoorJW
import Derived.Test.YtpmhcignenfhgaaDoorJCgH
import Derived.Test.YtpmhcignenfhgaaDoorJD
import Derived.Test.YtpmhcignenfhgaaDoorJTxA

/- The document's reader of a table's, or a search's, cases: what it keeps in memory. -/
namespace Go.Proofs.YtpmhcignenfhgaaDoor
open Go.RowKit
set_option linter.unusedVariables false
set_option maxRecDepth 100000

theorem o9pad_any (w : World) (i : Nat) (hi : i ≤ 100000) : Calls Tryd.prog 46 #[.int .i64 (i : Int)] w fun e w' => e = .returned (.int .i64 (((4 - (i + 1) % 4) % 4 : Nat) : Int)) ∧ w' = w := by
  have hm : Int.tmod (i + 1) 4 = (((i + 1) % 4 : Nat) : Int) := by rw [Int.tmod_eq_emod_of_nonneg (by omega)]; omega
  have hm2 : Int.tmod (4 - (((i + 1) % 4 : Nat) : Int)) 4 = (((4 - (i + 1) % 4) % 4 : Nat) : Int) := by rw [Int.tmod_eq_emod_of_nonneg (by omega)]; omega
  have hr : (((i + 1) % 4 : Nat) : Int) < 4 := by omega
  generalize hM : (((i + 1) % 4 : Nat) : Int) = M at hm hm2 hr
  have hM0 : 0 ≤ M := by omega
  generalize (((4 - (i + 1) % 4) % 4 : Nat) : Int) = R at *
  clear hM
  go_enter Tryd.func46, Tryd.ntmps46
  go_wp2
  go_ret
  exact ⟨rfl, rfl⟩
/-- The reader at z, the instruction's box and the answer's place behind w, the cases in a row of their own. -/
structure Cm (w0 w : World) (z : Nat) (a : Option Addr) (n c j : Nat) (at_ op A B : Int) (s : Sl) (cs : List Cas) (W : World) : Prop where
  rd : W.heap[z]? = some (.cells #[.slice a n c, .int .i64 (j : Int)] 100 (0, 0))
  bx : W.heap[w.heap.size]? = some (.cells #[.int .i64 at_, .int .i64 op, .int .i64 A, .int .i64 B, .slice s.a s.n s.c] 38 (0, 0))
  rs : W.heap[w.heap.size + 1]? = some (.cells inc0 38 (0, 0))
  row : Orw cac 51 2 W (w.heap.size + 2) (.slice s.a s.n s.c) cs
  fr : ∀ k, k < w.heap.size → k ≠ z → W.heap[k]? = w.heap[k]?
  bel : Below w0.heap.size w0 W
  sz : w.heap.size + 2 ≤ W.heap.size
  z0 : w0.heap.size ≤ z
  zw : z < w.heap.size
section
variable {w0 w : World} {z : Nat} {a : Option Addr} {n c j : Nat} {at_ op A B : Int} {s : Sl} {cs : List Cas} {W : World}
theorem Cm.rw (h : Cm w0 w z a n c j at_ op A B s cs W) {W' : World} {j' : Nat} (r : Rw z W W' #[.slice a n c, .int .i64 (j' : Int)]) : Cm w0 w z a n c j' at_ op A B s cs W' := by
  have h0 := h.z0
  have h1 := h.zw
  refine ⟨r.blk, (r.oth _ (by omega)).trans h.bx, (r.oth _ (by omega)).trans h.rs, h.row.below fun k hk => r.oth k (by have := (h.row.lt k hk).1; omega), fun k hk hne => (r.oth k hne).trans (h.fr k hk hne), h.bel.trans (r.bel.mono h0), Nat.le_trans h.sz r.bel.size, h0, h1⟩
theorem Cm.get (h : Cm w0 w z a n c j at_ op A B s cs W) {bs : List UInt8} (hb : Arg w0 a n c bs) (hn : n ≤ 4097) (hj : j ≤ n) {k : Nat} (hk : k = 1 ∨ k = 2 ∨ k = 4) (sg : Bool) :
    (∃ x, gR bs j k sg = some (x, j + k) ∧ Calls Tryd.prog 63 #[.pointer (some ⟨z, 0, none⟩), .int .i64 (k : Int), .bool sg] W fun e W' => e = .returned (.tuple #[.int .i64 x, .int .i64 0]) ∧ Cm w0 w z a n c (j + k) at_ op A B s cs W') ∨
    (gR bs j k sg = none ∧ ∃ er, (er == 0) = false ∧ (er != 0) = true ∧ Calls Tryd.prog 63 #[.pointer (some ⟨z, 0, none⟩), .int .i64 (k : Int), .bool sg] W fun e W' => e = .returned (.tuple #[.int .i64 0, .int .i64 er]) ∧ Cm w0 w z a n c j at_ op A B s cs W') := by
  have hl := hb.bs.1
  have HG := hGet_any W z a n c j bs (hb.below h.bel) (by omega) hj h.rd (k : Int) (by omega) sg
  rcases gR_getW (bs := bs) (i := j) (k := k) (sg := sg) hk (by omega) with ⟨x, g1, e1⟩ | ⟨g1, er, hne, e1⟩
  · rw [e1] at HG
    exact .inl ⟨x, g1, HG.mono fun e W' hh => ⟨hh.1, h.rw hh.2⟩⟩
  · rw [e1] at HG
    exact .inr ⟨g1, er, by simpa using hne, by simpa using hne, HG.mono fun e W' hh => ⟨hh.1, h.rw hh.2⟩⟩
theorem Cm.setA (h : Cm w0 w z a n c j at_ op A B s cs W) (A' : Int) : Cm w0 w z a n c j at_ op A' B s cs (W.setCell ⟨w.heap.size, 2, none⟩ (.int .i64 A')) := by
  have h0 := h.z0
  have h1 := h.zw
  have ho : ∀ k, k ≠ w.heap.size → (W.setCell ⟨w.heap.size, 2, none⟩ (.int .i64 A')).heap[k]? = W.heap[k]? := fun k hk => heap_setCell_other _ _ _ _ hk
  exact ⟨(ho _ (by omega)).trans h.rd, heap_setCell_same W _ 2 _ _ _ h.bx, (ho _ (by omega)).trans h.rs, h.row.below fun k hk => ho k (by have := (h.row.lt k hk).1; omega), fun k hk hne => (ho k (by omega)).trans (h.fr k hk hne), h.bel.setCell (p := ⟨w.heap.size, 2, none⟩) (by simp only; omega) _, by have := h.sz; simpa [World.setCell] using this, h0, h1⟩
theorem Cm.setB (h : Cm w0 w z a n c j at_ op A B s cs W) (B' : Int) : Cm w0 w z a n c j at_ op A B' s cs (W.setCell ⟨w.heap.size, 3, none⟩ (.int .i64 B')) := by
  have h0 := h.z0
  have h1 := h.zw
  have ho : ∀ k, k ≠ w.heap.size → (W.setCell ⟨w.heap.size, 3, none⟩ (.int .i64 B')).heap[k]? = W.heap[k]? := fun k hk => heap_setCell_other _ _ _ _ hk
  exact ⟨(ho _ (by omega)).trans h.rd, heap_setCell_same W _ 3 _ _ _ h.bx, (ho _ (by omega)).trans h.rs, h.row.below fun k hk => ho k (by have := (h.row.lt k hk).1; omega), fun k hk hne => (ho k (by omega)).trans (h.fr k hk hne), h.bel.setCell (p := ⟨w.heap.size, 3, none⟩) (by simp only; omega) _, by have := h.sz; simpa [World.setCell] using this, h0, h1⟩
theorem Cm.grow (h : Cm w0 w z a n c j at_ op A B s cs W) {X : Obj} {s' : Sl} {cs' : List Cas} {w3 : World} (o3 : Orw cac 51 2 w3 (w.heap.size + 2) (.slice s'.a s'.n s'.c) cs') (g3 : (W.alloc X).grownBy w3 (Value.slice s.a s.n s.c).ownBlock) :
    Cm w0 w z a n c j at_ op A B s' cs' (w3.setCell ⟨w.heap.size, 4, none⟩ (.slice s'.a s'.n s'.c)) := by
  have h0 := h.z0
  have h1 := h.zw
  have h2 := h.sz
  have hk3 : ∀ k, k < w.heap.size + 2 → w3.heap[k]? = W.heap[k]? := fun k hk => (g3.block k (by simp; omega) (fun e => by have := (h.row.lt k e.symm).1; omega)).trans (heap_alloc_old _ _ (by omega))
  have ho : ∀ k, k ≠ w.heap.size → (w3.setCell ⟨w.heap.size, 4, none⟩ (.slice s'.a s'.n s'.c)).heap[k]? = w3.heap[k]? := fun k hk => heap_setCell_other _ _ _ _ hk
  have hb3 : Below w0.heap.size w0 w3 := (bA h.bel X).grown g3 (bA h.bel X).size (fun k hk => by have := (h.row.lt k hk).1; omega)
  have hsz : w.heap.size + 2 ≤ w3.heap.size := by
    have h3 := (hk3 (w.heap.size + 1) (by omega)).trans h.rs
    have := lt_of_heap h3
    omega
  refine ⟨(ho _ (by omega)).trans ((hk3 _ (by omega)).trans h.rd), ?_, (ho _ (by omega)).trans ((hk3 _ (by omega)).trans h.rs), o3.below fun k hk => ho k (by have := (o3.lt k hk).1; omega), fun k hk hne => (ho k (by omega)).trans ((hk3 k (by omega)).trans (h.fr k hk hne)), hb3.setCell (p := ⟨w.heap.size, 4, none⟩) (by simp only; omega) _, by simpa [World.setCell] using hsz, h0, h1⟩
  exact heap_setCell_same w3 _ 4 _ _ _ ((hk3 _ (by omega)).trans h.bx)
end
/-- What the document's cases answers. -/
def cas_post (bs : List UInt8) (q : Nat) (w0 w : World) (z : Nat) (at_ op : Int) (e : Ending) (w' : World) : Prop :=
  ∃ (A B : Int) (s : Sl) (cs : List Cas) (nx : Int) (ok : Bool), e = .returned (.tuple #[.agg #[.int .i64 at_, .int .i64 op, .int .i64 A, .int .i64 B, .slice s.a s.n s.c], .int .i64 nx, .bool ok]) ∧ Orw cac 51 2 w' (w.heap.size + 2) (.slice s.a s.n s.c) cs ∧ (∀ k, k < w.heap.size → k ≠ z → w'.heap[k]? = w.heap[k]?) ∧ Below w0.heap.size w0 w' ∧ w.heap.size ≤ w'.heap.size ∧
    ((ok = true ∧ ∃ j : Nat, nx = j ∧ casO bs at_ op q = some (A, B, cs, j)) ∨ (ok = false ∧ casO bs at_ op q = none))
theorem results_two9 {fn : Func} {p u v : Tmp} {ty : TypeId} (h : fn.results = #[.cell p ty, .tmp u, .tmp v]) (tmps : Array Value) (P : Program) (w : World) :
    (results fn tmps).run P w = ((asAddr (tmps.getD p undef)).run P w).andThen fun a w₁ => ((loadVar ty a).run P w₁).andThen fun x w₂ => .ok (.tuple #[x, tmps.getD u undef, tmps.getD v undef]) w₂ := by
  simp only [results, h]
  simp [Sem.run_bind, Result.andThen]
/-- The five cells of the answer's place, set. -/
def res5 (W : World) (A : Nat) (c0 c1 c2 c3 c4 : Value) : World := ((((W.setCell ⟨A, 0, none⟩ c0).setCell ⟨A, 1, none⟩ c1).setCell ⟨A, 2, none⟩ c2).setCell ⟨A, 3, none⟩ c3).setCell ⟨A, 4, none⟩ c4
theorem res5_same {W : World} {A : Nat} {x0 x1 x2 x3 x4 : Value} (c0 c1 c2 c3 c4 : Value) (h : W.heap[A]? = some (.cells #[x0, x1, x2, x3, x4] 38 (0, 0))) : (res5 W A c0 c1 c2 c3 c4).heap[A]? = some (.cells #[c0, c1, c2, c3, c4] 38 (0, 0)) := by
  have h1 := heap_setCell_same _ A 4 _ _ c4 (heap_setCell_same _ A 3 _ _ c3 (heap_setCell_same _ A 2 _ _ c2 (heap_setCell_same _ A 1 _ _ c1 (heap_setCell_same W A 0 _ _ c0 h))))
  unfold res5
  rw [h1]
  simp
theorem res5_other {W : World} {A : Nat} (c0 c1 c2 c3 c4 : Value) {k : Nat} (hk : k ≠ A) : (res5 W A c0 c1 c2 c3 c4).heap[k]? = W.heap[k]? := by
  unfold res5
  rw [heap_setCell_other _ _ _ _ hk, heap_setCell_other _ _ _ _ hk, heap_setCell_other _ _ _ _ hk, heap_setCell_other _ _ _ _ hk, heap_setCell_other _ _ _ _ hk]
theorem res5_below {B A : Nat} {w W : World} (c0 c1 c2 c3 c4 : Value) (h : Below B w W) (hA : B ≤ A) : Below B w (res5 W A c0 c1 c2 c3 c4) :=
  ((((h.setCell (p := ⟨A, 0, none⟩) hA _).setCell (p := ⟨A, 1, none⟩) hA _).setCell (p := ⟨A, 2, none⟩) hA _).setCell (p := ⟨A, 3, none⟩) hA _).setCell (p := ⟨A, 4, none⟩) hA _
set_option maxHeartbeats 800000 in
theorem res5_run {fn : Func} {p u v : Tmp} (h : fn.results = #[.cell p 38, .tmp u, .tmp v]) (w : World) (A : Nat) (b0 b1 b2 b3 : Int) (sa : Option Addr) (sn sc : Nat) (hb : w.heap[A]? = some (.cells #[.int .i64 b0, .int .i64 b1, .int .i64 b2, .int .i64 b3, .slice sa sn sc] 38 (0, 0))) (tmps : Array Value) (hp : tmps.getD p undef = .pointer (some ⟨A, 0, none⟩)) :
    (results fn tmps).run Tryd.prog w = .ok (.tuple #[.agg #[.int .i64 b0, .int .i64 b1, .int .i64 b2, .int .i64 b3, .slice sa sn sc], tmps.getD u undef, tmps.getD v undef]) w := by
  have h0 := bx_cell hb 0 _ rfl
  have h1 := bx_cell hb 1 _ rfl
  have h2 := bx_cell hb 2 _ rfl
  have h3 := bx_cell hb 3 _ rfl
  have h4 := bx_cell hb 4 _ rfl
  rw [results_two9 h, hp]
  go_simp
/-- A return of cases. -/
theorem Cm.ret {bs : List UInt8} {q : Nat} {w0 w : World} {z : Nat} {a : Option Addr} {n c j : Nat} {at_ op A B : Int} {s : Sl} {cs : List Cas} {W : World} (h : Cm w0 w z a n c j at_ op A B s cs W) {fn : Func} (hf : fn.results = #[.cell 4 38, .tmp 5, .tmp 6]) {tmps : Array Value} (hp : tmps.getD 4 undef = .pointer (some ⟨w.heap.size + 1, 0, none⟩)) {nx : Int} {ok : Bool} (h5 : tmps.getD 5 undef = .int .i64 nx) (h6 : tmps.getD 6 undef = .bool ok)
    (hc : (ok = true ∧ ∃ j : Nat, nx = j ∧ casO bs at_ op q = some (A, B, cs, j)) ∨ (ok = false ∧ casO bs at_ op q = none)) {ds : List Deferred} (hd : ds = []) :
    bodyPost Tryd.prog fn (cas_post bs q w0 w z at_ op) .ret ⟨tmps, ds⟩ (res5 W (w.heap.size + 1) (.int .i64 at_) (.int .i64 op) (.int .i64 A) (.int .i64 B) (.slice s.a s.n s.c)) := by
  subst hd
  have h0 := h.z0
  have h1 := h.zw
  have h2 := h.sz
  have hb := res5_same (.int .i64 at_) (.int .i64 op) (.int .i64 A) (.int .i64 B) (.slice s.a s.n s.c) h.rs
  have ho : ∀ k, k ≠ w.heap.size + 1 → (res5 W (w.heap.size + 1) (.int .i64 at_) (.int .i64 op) (.int .i64 A) (.int .i64 B) (.slice s.a s.n s.c)).heap[k]? = W.heap[k]? := fun k hk => res5_other _ _ _ _ _ hk
  refine bodyPost_ret (res5_run hf _ (w.heap.size + 1) at_ op A B s.a s.n s.c hb tmps hp) rfl ?_
  rw [h5, h6]
  exact ⟨A, B, s, cs, nx, ok, rfl, h.row.below fun k hk => ho k (by have := (h.row.lt k hk).1; omega), fun k hk hne => (ho k (by omega)).trans (h.fr k hk hne), res5_below _ _ _ _ _ h.bel (by omega), by have := lt_of_heap hb; omega, hc⟩
end Go.Proofs.YtpmhcignenfhgaaDoor

/- The document's reader of a table's cases. -/
namespace Go.Proofs.YtpmhcignenfhgaaDoor
open Go.RowKit
set_option linter.unusedVariables false
set_option maxRecDepth 100000

theorem Cm.cells {w0 w : World} {z : Nat} {a : Option Addr} {n c j : Nat} {at_ op A B : Int} {s : Sl} {cs : List Cas} {W : World} (h : Cm w0 w z a n c j at_ op A B s cs W) :
    (W.cell? ⟨w.heap.size, 0, none⟩ = some (.int .i64 at_) ∧ W.cell? ⟨w.heap.size, 1, none⟩ = some (.int .i64 op) ∧ W.cell? ⟨w.heap.size, 2, none⟩ = some (.int .i64 A) ∧ W.cell? ⟨w.heap.size, 3, none⟩ = some (.int .i64 B) ∧ W.cell? ⟨w.heap.size, 4, none⟩ = some (.slice s.a s.n s.c)) ∧
    (W.cell? ⟨w.heap.size + 1, 0, none⟩ = some (.int .i64 0) ∧ W.cell? ⟨w.heap.size + 1, 1, none⟩ = some (.int .i64 0) ∧ W.cell? ⟨w.heap.size + 1, 2, none⟩ = some (.int .i64 0) ∧ W.cell? ⟨w.heap.size + 1, 3, none⟩ = some (.int .i64 0) ∧ W.cell? ⟨w.heap.size + 1, 4, none⟩ = some (.slice none 0 0)) ∧
    W.cell? ⟨z, 1, none⟩ = some (.int .i64 (j : Int)) ∧
    (∀ q, W.frozen? ⟨w.heap.size, q, none⟩ = false) ∧ (∀ q, W.frozen? ⟨w.heap.size + 1, q, none⟩ = false) :=
  ⟨⟨bx_cell h.bx 0 _ rfl, bx_cell h.bx 1 _ rfl, bx_cell h.bx 2 _ rfl, bx_cell h.bx 3 _ rfl, bx_cell h.bx 4 _ rfl⟩, ⟨bx_cell h.rs 0 _ rfl, bx_cell h.rs 1 _ rfl, bx_cell h.rs 2 _ rfl, bx_cell h.rs 3 _ rfl, bx_cell h.rs 4 _ rfl⟩, bx_cell h.rd 1 _ rfl, fun q => bx_thaw h.bx q, fun q => bx_thaw h.rs q⟩
theorem Cm.grown {w0 w : World} {z : Nat} {a : Option Addr} {n c j : Nat} {at_ op A B : Int} {s : Sl} {cs : List Cas} {W : World} (h : Cm w0 w z a n c j at_ op A B s cs W) {X : Obj} {w3 : World} (g3 : (W.alloc X).grownBy w3 (Value.slice s.a s.n s.c).ownBlock) :
    w3.cell? ⟨w.heap.size, 4, none⟩ = some (.slice s.a s.n s.c) ∧ ∀ q, w3.frozen? ⟨w.heap.size, q, none⟩ = false := by
  have h2 := h.sz
  have hb : w3.heap[w.heap.size]? = _ := ((g3.block w.heap.size (by simp; omega) (fun e => by have := (h.row.lt _ e.symm).1; omega)).trans (heap_alloc_old _ _ (by omega))).trans h.bx
  exact ⟨bx_cell hb 4 _ rfl, fun q => bx_thaw hb q⟩
theorem cas_none1 {bs : List UInt8} {at_ : Int} {q j1 : Nat} {x : Int} (h : gR bs q 4 true = some (x, j1)) (h2 : gR bs j1 4 true = none) : casO bs at_ 170 q = none := by
  unfold casO
  rw [h]
  simp only [Option.bind_some, if_true]
  rw [h2]
  rfl
theorem cas_none2 {bs : List UInt8} {at_ : Int} {q j1 j2 : Nat} {x y : Int} (h : gR bs q 4 true = some (x, j1)) (h2 : gR bs j1 4 true = some (y, j2)) (h3 : gR bs j2 4 true = none) : casO bs at_ 170 q = none := by
  unfold casO
  rw [h]
  simp only [Option.bind_some, if_true]
  rw [h2]
  simp only [Option.bind_some]
  rw [h3]
  rfl
theorem cas_none {bs : List UInt8} {at_ op : Int} {q : Nat} (h : gR bs q 4 true = none) : casO bs at_ op q = none := by
  unfold casO
  rw [h]
  rfl
theorem Cm.start {w0 w : World} {z : Nat} {a : Option Addr} {n c q : Nat} (at_ op : Int) (f0 : Below w0.heap.size w0 w) (hz0 : w0.heap.size ≤ z) (hzw : z < w.heap.size) (rd : w.heap[z]? = some (.cells #[.slice a n c, .int .i64 (q : Int)] 100 (0, 0))) :
    Cm w0 w z a n c q at_ op 0 0 ⟨none, 0, 0⟩ [] ((w.alloc (.cells #[.int .i64 at_, .int .i64 op, .int .i64 0, .int .i64 0, .slice none 0 0] 38)).alloc (.cells inc0 38)) :=
  ⟨(heap_alloc_old _ _ (by simp; omega)).trans ((heap_alloc_old _ _ hzw).trans rd), (heap_alloc_old _ _ (by simp)).trans (heap_alloc_last _ _), alloc2_last _ _ _, Orw.nil _ _ _ _ _, fun k hk _ => (heap_alloc_old _ _ (by simp; omega)).trans (heap_alloc_old _ _ hk), bA (bA f0 _) _, by simp, hz0, hzw⟩
set_option maxHeartbeats 2000000 in
theorem o9cases_170 (w0 w : World) (f0 : Below w0.heap.size w0 w) (z : Nat) (hz0 : w0.heap.size ≤ z) (hzw : z < w.heap.size) (a : Option Addr) (n c : Nat) (bs : List UInt8) (hb : Arg w0 a n c bs) (hn : n ≤ 4097) (q : Nat) (hq : q ≤ n)
    (rd : w.heap[z]? = some (.cells #[.slice a n c, .int .i64 (q : Int)] 100 (0, 0))) (i : Nat) (hi : i ≤ n) :
    Calls Tryd.prog 64 #[.pointer (some ⟨z, 0, none⟩), .agg #[.int .i64 (i : Int), .int .i64 170, .int .i64 0, .int .i64 0, .slice none 0 0]] w (cas_post bs q w0 w z (i : Int) 170) := by
  have hbl := hb.bs.1
  obtain ⟨w1, hw1, hC1⟩ : ∃ w1, w1 = (w.alloc (.cells #[.int .i64 (i : Int), .int .i64 170, .int .i64 0, .int .i64 0, .slice none 0 0] 38)).alloc (.cells #[.int .i64 0, .int .i64 0, .int .i64 0, .int .i64 0, .slice none 0 0] 38) ∧ Cm w0 w z a n c q i 170 0 0 ⟨none, 0, 0⟩ [] w1 := ⟨_, rfl, Cm.start (i : Int) 170 f0 hz0 hzw rd⟩
  have HW1 := hide hw1
  have HB := hide hb
  clear hw1 f0 hz0 hzw rd
  generalize hPO : cas_post bs q w0 w z (i : Int) 170 = PO
  have KR : Hid (∀ {j : Nat} {A B : Int} {s : Sl} {cs : List Cas} {W : World} (h : Cm w0 w z a n c j i 170 A B s cs W) {tmps : Array Value} (hp : tmps.getD 4 undef = .pointer (some ⟨w.heap.size + 1, 0, none⟩)) {nx : Int} {ok : Bool} (h5 : tmps.getD 5 undef = .int .i64 nx) (h6 : tmps.getD 6 undef = .bool ok)
    (hc : (ok = true ∧ ∃ j : Nat, nx = j ∧ casO bs i 170 q = some (A, B, cs, j)) ∨ (ok = false ∧ casO bs i 170 q = none)),
    bodyPost Tryd.prog Tryd.f64 PO .ret ⟨tmps, []⟩ (res5 W (w.heap.size + 1) (.int .i64 i) (.int .i64 170) (.int .i64 A) (.int .i64 B) (.slice s.a s.n s.c))) := by
    intro j A B s cs W h tmps hp nx ok h5 h6 hc
    rw [← hPO]
    exact h.ret Tryd.results64 hp h5 h6 hc rfl
  clear hPO
  go_enter Tryd.func64, Tryd.ntmps64
  rcases hC1.get (unhide HB) hn hq (k := 4) (by omega) true with ⟨x, g1, H1⟩ | ⟨g1, er, he1, he2, H1⟩
  case inr =>
    have HC := hide H1
    have G1 := hide (cas_none (at_ := i) (op := 170) g1)
    clear H1 g1 hC1
    go_wp2_with fail
    rw [← unhide HW1]
    refine (unhide HC).mono ?_
    rintro e w2 ⟨rfl, hC2⟩
    obtain ⟨⟨c0, c1, c2, c3, c4⟩, ⟨r0, r1, r2, r3, r4⟩, rz, t1, t2⟩ := hC2.cells
    simp only at c4
    have HC3 := hide (hC2.setA (i : Int))
    clear hC2 HC
    go_wp2
    exact unhide KR (unhide HC3) rfl rfl rfl (.inr ⟨rfl, unhide G1⟩)
  have hx := gR_small (k := 4) (by omega) g1
  have hq4 := (gR_some g1).2
  have hx1 := hx.1
  have hx2 := hx.2.2.1 rfl
  have HC := hide H1
  have G1 := hide g1
  clear H1 g1 hC1 hx
  go_wp2_with fail
  rw [← unhide HW1]
  refine (unhide HC).mono ?_
  rintro e w2 ⟨rfl, hC2⟩
  obtain ⟨⟨c0, c1, c2, c3, c4⟩, ⟨r0, r1, r2, r3, r4⟩, rz, t1, t2⟩ := hC2.cells
  simp only at c4
  have hC3 := hC2.setA ((i : Int) + x)
  obtain ⟨w3, hw3⟩ : ∃ w3, w3 = w2.setCell ⟨w.heap.size, 2, none⟩ (.int .i64 ((i : Int) + x)) := ⟨_, rfl⟩
  rw [← hw3] at hC3
  have HW3 := hide hw3
  clear hC2 HC hw3
  rcases hC3.get (unhide HB) hn (by omega) (k := 4) (by omega) true with ⟨y, g2, H2⟩ | ⟨g2, er, he1, he2, H2⟩
  case inr =>
    have HC := hide H2
    have G2 := hide (cas_none1 (at_ := i) (unhide G1) g2)
    have G2n := hide g2
    clear H2 g2 hC3
    go_wp2_with fail
    rw [← unhide HW3]
    refine (unhide HC).mono ?_
    rintro e w4 ⟨rfl, hC4⟩
    clear c0 c1 c2 c3 c4 r0 r1 r2 r3 r4 rz t1 t2 HC
    rcases hC4.get (unhide HB) hn (by omega) (k := 4) (by omega) true with ⟨y, g3, H3⟩ | ⟨g3, er3, hf1, hf2, H3⟩
    case inl => rw [unhide G2n] at g3; cases g3
    have HC := hide H3
    clear H3 g3 hC4
    go_wp2_with fail
    refine (unhide HC).mono ?_
    rintro e w5 ⟨rfl, hC5⟩
    obtain ⟨⟨c0, c1, c2, c3, c4⟩, ⟨r0, r1, r2, r3, r4⟩, rz, t1, t2⟩ := hC5.cells
    simp only at c4
    have HC6 := hide (hC5.setB 0)
    clear hC5 HC
    go_wp2
    exact unhide KR (unhide HC6) rfl rfl rfl (.inr ⟨rfl, unhide G2⟩)
  have hy := gR_small (k := 4) (by omega) g2
  have hq8 := (gR_some g2).2
  have hy1 := hy.1
  have hy2 := hy.2.2.1 rfl
  have HC := hide H2
  have G2 := hide g2
  clear H2 g2 hC3 hy
  go_wp2_with fail
  rw [← unhide HW3]
  refine (unhide HC).mono ?_
  rintro e w4 ⟨rfl, hC4⟩
  clear c0 c1 c2 c3 c4 r0 r1 r2 r3 r4 rz t1 t2 HC
  rcases hC4.get (unhide HB) hn (by omega) (k := 4) (by omega) true with ⟨v, g3, H3⟩ | ⟨g3, er, he1, he2, H3⟩
  case inr =>
    have HC := hide H3
    have G3 := hide (cas_none2 (at_ := i) (unhide G1) (unhide G2) g3)
    clear H3 g3 hC4
    go_wp2_with fail
    refine (unhide HC).mono ?_
    rintro e w5 ⟨rfl, hC5⟩
    obtain ⟨⟨c0, c1, c2, c3, c4⟩, ⟨r0, r1, r2, r3, r4⟩, rz, t1, t2⟩ := hC5.cells
    simp only at c4
    have HC6 := hide (hC5.setB y)
    clear hC5 HC
    go_wp2
    exact unhide KR (unhide HC6) rfl rfl rfl (.inr ⟨rfl, unhide G3⟩)
  have hv := gR_small (k := 4) (by omega) g3
  have hq12 := (gR_some g3).2
  have hv1 := hv.1
  have hv2 := hv.2.2.1 rfl
  have HC := hide H3
  have CO := hide (casO_170 (at_ := i) (unhide G1) (unhide G2) g3)
  clear H3 g3 hC4 hv G1 G2
  go_wp2_with fail
  refine (unhide HC).mono ?_
  rintro e w5 ⟨rfl, hC5⟩
  obtain ⟨⟨c0, c1, c2, c3, c4⟩, ⟨r0, r1, r2, r3, r4⟩, rz, t1, t2⟩ := hC5.cells
  simp only at c4
  have HC6 := hide (hC5.setB y)
  clear hC5 HC
  by_cases hlo : v - y + 1 < 1
  · have G3 : Hid (casO bs i 170 q = none) := by show _ = _; rw [unhide CO, if_neg (by omega)]
    clear CO
    go_wp2
    exact unhide KR (unhide HC6) rfl rfl rfl (.inr ⟨rfl, unhide G3⟩)
  by_cases hhi : 256 < v - y + 1
  · have G3 : Hid (casO bs i 170 q = none) := by show _ = _; rw [unhide CO, if_neg (by omega)]
    clear CO
    go_wp2
    exact unhide KR (unhide HC6) rfl rfl rfl (.inr ⟨rfl, unhide G3⟩)
  obtain ⟨N, hN⟩ : ∃ N : Nat, v - y + 1 = (N : Int) := ⟨(v - y + 1).toNat, by omega⟩
  have hN1 : 1 ≤ N ∧ N ≤ 256 := by omega
  have CO2 : Hid (casO bs i 170 q = (tabR bs i N y (q + 4 + 4 + 4)).bind fun r => some ((i : Int) + x, y, r.1, r.2)) := by
    show _ = _
    rw [unhide CO, if_pos (by omega), hN, Int.toNat_natCast]
  obtain ⟨w6, hw6⟩ : ∃ w6, w6 = w5.setCell ⟨w.heap.size, 3, none⟩ (.int .i64 y) := ⟨_, rfl⟩
  rw [← hw6] at HC6
  have HW6 := hide hw6
  clear CO hw6
  go_wp2
  rw [← unhide HW6]
  clear c0 c1 c2 c3 c4 r0 r1 r2 r3 r4 rz t1 t2
  have hy3 : -2147483648 ≤ y ∧ y < 2147483648 := ⟨hy1, hy2⟩
  have HQ := hide (And.intro hq12 hbl)
  clear hq4 hq8 hq12 hbl hlo hhi HW6 HW3 HW1
  go_loopw [14, 15, 16, 17] (fun vk _ _ _ W => ∃ (k : Nat) (s : Sl) (cs : List Cas) (j : Nat), k ≤ N ∧ vk = .int .i64 (k : Int) ∧ Cm w0 w z a n c j i 170 ((i : Int) + x) y s cs W ∧ Tk bs i N y (q + 4 + 4 + 4) k cs j ∧ j ≤ n ∧ cs.length = k) (fun vk _ _ _ _ => N - (intOf vk).toNat)
  case atStart => exact ⟨0, _, [], _, by omega, rfl, unhide HC6, Tk.start _ _ _ _ _, by have := unhide HQ; omega, rfl⟩
  case round =>
    obtain ⟨k, ⟨sa, sn, sc⟩, cs, j, hk, rfl, hC, hTk, hj, hcl⟩ := hrel
    obtain ⟨⟨c0, c1, c2, c3, c4⟩, ⟨r0, r1, r2, r3, r4⟩, rz, t1, t2⟩ := hC.cells
    simp only at c4
    by_cases hlt : k < N
    · have hlt1 : (k : Int) < (N : Int) := by omega
      rcases hC.get (unhide HB) hn hj (k := 4) (by omega) true with ⟨v3, g3, H3⟩ | ⟨g3, er, he1, he2, H3⟩
      case inr =>
        have HG := hide H3
        have G3 : Hid (casO bs i 170 q = none) := by show _ = _; rw [unhide CO2, hTk.fails hlt g3]; rfl
        clear H3 g3 hC hTk
        go_wp2_with fail
        refine (unhide HG).mono ?_
        rintro e w7 ⟨rfl, hC7⟩
        clear c0 c1 c2 c3 c4 r0 r1 r2 r3 r4 rz t1 t2 HG
        obtain ⟨⟨c0, c1, c2, c3, c4⟩, ⟨r0, r1, r2, r3, r4⟩, rz, t1, t2⟩ := hC7.cells
        simp only at c4
        have HC7 := hide hC7
        clear hC7
        go_wp2
        exact unhide KR (unhide HC7) rfl rfl rfl (.inr ⟨rfl, unhide G3⟩)
      have hb3 := gR_small (k := 4) (by omega) g3
      have hb31 := hb3.1
      have hb32 := hb3.2.2.1 rfl
      have hj4 := (gR_some g3).2
      have HG := hide H3
      have HTK := hide (hTk.next hlt g3)
      clear H3 g3 hC hTk hb3
      go_wp2_with fail
      refine (unhide HG).mono ?_
      rintro e w7 ⟨rfl, hC7⟩
      clear c0 c1 c2 c3 c4 r0 r1 r2 r3 r4 rz t1 t2 HG
      obtain ⟨⟨c0, c1, c2, c3, c4⟩, ⟨r0, r1, r2, r3, r4⟩, rz, t1, t2⟩ := hC7.cells
      simp only at c4
      have HO : Hid (Orw cac 51 2 (w7.alloc (.cells #[.int .i64 (y + (k : Int)), .int .i64 ((i : Int) + v3)] 51)) (w.heap.size + 2) (.slice sa sn sc) cs) := orw_al9 hC7.row _
      have HS : Hid (Ls 2 cac (w7.alloc (.cells #[.int .i64 (y + (k : Int)), .int .i64 ((i : Int) + v3)] 51)) (some ⟨w7.heap.size, 0, none⟩) 1 [⟨y + (k : Int), (i : Int) + v3⟩]) := ls_one (cs := cac) (sz := 2) w7 _ _ ⟨y + (k : Int), (i : Int) + v3⟩ rfl
      have HSZ : Hid (w.heap.size + 2 ≤ (w7.alloc (.cells #[.int .i64 (y + (k : Int)), .int .i64 ((i : Int) + v3)] 51)).heap.size) := by have := hC7.sz; show _ ≤ _; simp; omega
      have HC7 := hide hC7
      clear hC7
      go_wp2_with (at_builtin; refine listR_append rkC rfl _ _ rfl (w.heap.size + 2) _ _ rfl (unhide HO) _ 1 1 [⟨y + (k : Int), (i : Int) + v3⟩] rfl (unhide HS) (fun e => by cases e) (by omega) (by omega) (unhide HSZ) ?_)
      intro v4 w8 o8 g8
      obtain ⟨ta, tc, hv4, _⟩ := o8.form
      subst hv4
      obtain ⟨d4, d5⟩ := (unhide HC7).grown g8
      simp only at d4
      have hll : (cs ++ [(⟨y + (k : Int), (i : Int) + v3⟩ : Cas)]).length = k + 1 := by simp [hcl]
      rw [hll] at o8 ⊢
      have HC9 := hide ((unhide HC7).grow (s' := ⟨ta, k + 1, tc⟩) o8 g8)
      have HLL := hide hll
      clear hll
      clear o8 g8 c0 c1 c2 c3 c4 r0 r1 r2 r3 r4 rz t1 t2
      go_wp2
      go_roundw
      case rel => exact ⟨k + 1, ⟨ta, k + 1, tc⟩, _, j + 4, by omega, by go_num, unhide HC9, unhide HTK, by have := unhide HQ; omega, unhide HLL⟩
      case measure => simp [intOf]; omega
    · obtain rfl : k = N := by omega
      have G3 : Hid (casO bs i 170 q = some ((i : Int) + x, y, cs, j)) := by show _ = _; rw [unhide CO2, hTk.done]; rfl
      have HC7 := hide hC
      clear hC hTk
      go_wp2
      have KX : Hid (∀ W, (W = wr.drew ∨ W = res5 wr.drew (w.heap.size + 1) (.int .i64 i) (.int .i64 170) (.int .i64 ((i : Int) + x)) (.int .i64 y) (.slice sa sn sc)) → (W.cell? ⟨w.heap.size, 0, none⟩ = some (.int .i64 (i : Int)) ∧ W.cell? ⟨w.heap.size, 1, none⟩ = some (.int .i64 170) ∧ W.cell? ⟨w.heap.size, 2, none⟩ = some (.int .i64 ((i : Int) + x)) ∧ W.cell? ⟨w.heap.size, 3, none⟩ = some (.int .i64 y) ∧ W.cell? ⟨w.heap.size, 4, none⟩ = some (.slice sa sn sc)) ∧ W.cell? ⟨z, 1, none⟩ = some (.int .i64 (j : Int))) := by
        intro W hW
        have hzw := (unhide HC7).zw
        have hb : W.heap[w.heap.size]? = some (.cells #[.int .i64 (i : Int), .int .i64 170, .int .i64 ((i : Int) + x), .int .i64 y, .slice sa sn sc] 38 (0, 0)) := by
          rcases hW with rfl | rfl
          · exact (unhide HC7).bx
          · exact (res5_other _ _ _ _ _ (by omega)).trans (unhide HC7).bx
        have hr : W.heap[z]? = some (.cells #[.slice a n c, .int .i64 (j : Int)] 100 (0, 0)) := by
          rcases hW with rfl | rfl
          · exact (unhide HC7).rd
          · exact (res5_other _ _ _ _ _ (by omega)).trans (unhide HC7).rd
        exact ⟨⟨bx_cell hb 0 _ rfl, bx_cell hb 1 _ rfl, bx_cell hb 2 _ rfl, bx_cell hb 3 _ rfl, bx_cell hb 4 _ rfl⟩, bx_cell hr 1 _ rfl⟩
      have HC8 : Hid (Cm w0 w z a n c j i 170 ((i : Int) + x) y ⟨sa, sn, sc⟩ cs wr.drew) := by
        have h := unhide HC7
        exact ⟨h.rd, h.bx, h.rs, h.row.below (fun _ _ => rfl), h.fr, h.bel.drew, h.sz, h.z0, h.zw⟩
      clear c0 c1 c2 c3 c4 rz
      have r0 : wr.drew.cell? ⟨w.heap.size + 1, 0, none⟩ = some (.int .i64 0) := r0
      have r1 : wr.drew.cell? ⟨w.heap.size + 1, 1, none⟩ = some (.int .i64 0) := r1
      have r2 : wr.drew.cell? ⟨w.heap.size + 1, 2, none⟩ = some (.int .i64 0) := r2
      have r3 : wr.drew.cell? ⟨w.heap.size + 1, 3, none⟩ = some (.int .i64 0) := r3
      have r4 : wr.drew.cell? ⟨w.heap.size + 1, 4, none⟩ = some (.slice none 0 0) := r4
      have t2 : ∀ q, wr.drew.frozen? ⟨w.heap.size + 1, q, none⟩ = false := t2
      refine wp_region_txt (fun W => W = wr.drew ∨ W = res5 wr.drew (w.heap.size + 1) (.int .i64 i) (.int .i64 170) (.int .i64 ((i : Int) + x)) (.int .i64 y) (.slice sa sn sc)) [5] (List.range 8) (by kernel_rfl) (by kernel_rfl) (.inl rfl) ?_
      repeat (first
        | (refine Txt.reads (v := ?_) (by rfl) (by rfl) (by rfl) ?_ ?_; rotate_left; (focus ((intro W hSW; obtain ⟨⟨p0, p1, p2, p3, p4⟩, p5⟩ := unhide KX W hSW; go_simp) <;> with_reducible rfl)); simp only [Act.put, List.setIfInBounds_toArray, List.set_cons_zero, List.set_cons_succ]))
      refine Txt.acts (by rfl) (by rfl) (by rfl) (fun K hK => ?_)
      go_simp
      refine hK.out _ _ (.inr rfl) ?_
      clear hK K
      repeat (first
        | (refine Txt.reads (v := ?_) (by rfl) (by rfl) (by rfl) ?_ ?_; rotate_left; (focus ((intro W hSW; go_simp) <;> with_reducible rfl)); simp only [Act.put, List.setIfInBounds_toArray, List.set_cons_zero, List.set_cons_succ]))
      refine Txt.done ?_
      go_wp2
      exact unhide KR (unhide HC8) rfl rfl rfl (.inl ⟨rfl, j, rfl, unhide G3⟩)
end Go.Proofs.YtpmhcignenfhgaaDoor

/- The document's reader of a search's cases. -/
namespace Go.Proofs.YtpmhcignenfhgaaDoor
open Go.RowKit
set_option linter.unusedVariables false
set_option maxRecDepth 100000

theorem cas_none3 {bs : List UInt8} {at_ : Int} {q j1 : Nat} {x : Int} (h : gR bs q 4 true = some (x, j1)) (h2 : gR bs j1 4 false = none) : casO bs at_ 171 q = none := by
  unfold casO
  rw [h]
  simp only [Option.bind_some]
  rw [if_neg (by decide), h2]
  rfl
set_option maxHeartbeats 2000000 in
theorem o9cases_171 (w0 w : World) (f0 : Below w0.heap.size w0 w) (z : Nat) (hz0 : w0.heap.size ≤ z) (hzw : z < w.heap.size) (a : Option Addr) (n c : Nat) (bs : List UInt8) (hb : Arg w0 a n c bs) (hn : n ≤ 4097) (q : Nat) (hq : q ≤ n)
    (rd : w.heap[z]? = some (.cells #[.slice a n c, .int .i64 (q : Int)] 100 (0, 0))) (i : Nat) (hi : i ≤ n) :
    Calls Tryd.prog 64 #[.pointer (some ⟨z, 0, none⟩), .agg #[.int .i64 (i : Int), .int .i64 171, .int .i64 0, .int .i64 0, .slice none 0 0]] w (cas_post bs q w0 w z (i : Int) 171) := by
  have hbl := hb.bs.1
  obtain ⟨w1, hw1, hC1⟩ : ∃ w1, w1 = (w.alloc (.cells #[.int .i64 (i : Int), .int .i64 171, .int .i64 0, .int .i64 0, .slice none 0 0] 38)).alloc (.cells #[.int .i64 0, .int .i64 0, .int .i64 0, .int .i64 0, .slice none 0 0] 38) ∧ Cm w0 w z a n c q i 171 0 0 ⟨none, 0, 0⟩ [] w1 := ⟨_, rfl, Cm.start (i : Int) 171 f0 hz0 hzw rd⟩
  have HW1 := hide hw1
  have HB := hide hb
  clear hw1 f0 hz0 hzw rd
  generalize hPO : cas_post bs q w0 w z (i : Int) 171 = PO
  have KR : Hid (∀ {j : Nat} {A B : Int} {s : Sl} {cs : List Cas} {W : World} (h : Cm w0 w z a n c j i 171 A B s cs W) {tmps : Array Value} (hp : tmps.getD 4 undef = .pointer (some ⟨w.heap.size + 1, 0, none⟩)) {nx : Int} {ok : Bool} (h5 : tmps.getD 5 undef = .int .i64 nx) (h6 : tmps.getD 6 undef = .bool ok)
    (hc : (ok = true ∧ ∃ j : Nat, nx = j ∧ casO bs i 171 q = some (A, B, cs, j)) ∨ (ok = false ∧ casO bs i 171 q = none)),
    bodyPost Tryd.prog Tryd.f64 PO .ret ⟨tmps, []⟩ (res5 W (w.heap.size + 1) (.int .i64 i) (.int .i64 171) (.int .i64 A) (.int .i64 B) (.slice s.a s.n s.c))) := by
    intro j A B s cs W h tmps hp nx ok h5 h6 hc
    rw [← hPO]
    exact h.ret Tryd.results64 hp h5 h6 hc rfl
  clear hPO
  go_enter Tryd.func64, Tryd.ntmps64
  rcases hC1.get (unhide HB) hn hq (k := 4) (by omega) true with ⟨x, g1, H1⟩ | ⟨g1, er, he1, he2, H1⟩
  case inr =>
    have HC := hide H1
    have G1 := hide (cas_none (at_ := i) (op := 171) g1)
    clear H1 g1 hC1
    go_wp2_with fail
    rw [← unhide HW1]
    refine (unhide HC).mono ?_
    rintro e w2 ⟨rfl, hC2⟩
    obtain ⟨⟨c0, c1, c2, c3, c4⟩, ⟨r0, r1, r2, r3, r4⟩, rz, t1, t2⟩ := hC2.cells
    simp only at c4
    have HC3 := hide (hC2.setA (i : Int))
    clear hC2 HC
    go_wp2
    exact unhide KR (unhide HC3) rfl rfl rfl (.inr ⟨rfl, unhide G1⟩)
  have hx := gR_small (k := 4) (by omega) g1
  have hq4 := (gR_some g1).2
  have hx1 := hx.1
  have hx2 := hx.2.2.1 rfl
  have HC := hide H1
  have G1 := hide g1
  clear H1 g1 hC1 hx
  go_wp2_with fail
  rw [← unhide HW1]
  refine (unhide HC).mono ?_
  rintro e w2 ⟨rfl, hC2⟩
  obtain ⟨⟨c0, c1, c2, c3, c4⟩, ⟨r0, r1, r2, r3, r4⟩, rz, t1, t2⟩ := hC2.cells
  simp only at c4
  have hC3 := hC2.setA ((i : Int) + x)
  obtain ⟨w3, hw3⟩ : ∃ w3, w3 = w2.setCell ⟨w.heap.size, 2, none⟩ (.int .i64 ((i : Int) + x)) := ⟨_, rfl⟩
  rw [← hw3] at hC3
  have HW3 := hide hw3
  clear hC2 HC hw3
  rcases hC3.get (unhide HB) hn (by omega) (k := 4) (by omega) false with ⟨y, g2, H2⟩ | ⟨g2, er, he1, he2, H2⟩
  case inr =>
    have HC := hide H2
    have G2 := hide (cas_none3 (at_ := i) (unhide G1) g2)
    clear H2 g2 hC3
    go_wp2_with fail
    rw [← unhide HW3]
    refine (unhide HC).mono ?_
    rintro e w4 ⟨rfl, hC4⟩
    clear c0 c1 c2 c3 c4 r0 r1 r2 r3 r4 rz t1 t2 HC
    obtain ⟨⟨c0, c1, c2, c3, c4⟩, ⟨r0, r1, r2, r3, r4⟩, rz, t1, t2⟩ := hC4.cells
    simp only at c4
    have HC6 := hide hC4
    clear hC4
    go_wp2
    exact unhide KR (unhide HC6) rfl rfl rfl (.inr ⟨rfl, unhide G2⟩)
  have hy := gR_small (k := 4) (by omega) g2
  have hq8 := (gR_some g2).2
  have hy1 := hy.2.2.2 rfl
  have hy2 := hy.2.1
  have HC := hide H2
  have CO := hide (casO_171 (at_ := i) (unhide G1) g2)
  clear H2 g2 hC3 hy
  go_wp2_with fail
  rw [← unhide HW3]
  refine (unhide HC).mono ?_
  rintro e w6 ⟨rfl, hC4⟩
  clear c0 c1 c2 c3 c4 r0 r1 r2 r3 r4 rz t1 t2 HC
  obtain ⟨⟨c0, c1, c2, c3, c4⟩, ⟨r0, r1, r2, r3, r4⟩, rz, t1, t2⟩ := hC4.cells
  simp only at c4
  have HC6 := hide hC4
  clear hC4
  by_cases hhi : 256 < y
  · have G3 : Hid (casO bs i 171 q = none) := by show _ = _; rw [unhide CO, if_neg (by omega)]
    clear CO
    go_wp2
    exact unhide KR (unhide HC6) rfl rfl rfl (.inr ⟨rfl, unhide G3⟩)
  obtain ⟨N, rfl⟩ : ∃ N : Nat, y = (N : Int) := ⟨y.toNat, by omega⟩
  have hN1 : N ≤ 256 := by omega
  have hN2 : ¬ (256 : Int) < (N : Int) := by omega
  have HN1 := hide hN1
  clear hN1 hy1 hy2 hhi
  have CO2 : Hid (casO bs i 171 q = (seaT bs i N (q + 4 + 4)).bind fun r => some ((i : Int) + x, 0, r.1, r.2)) := by
    show _ = _
    rw [unhide CO, if_pos (by omega), Int.toNat_natCast]
  clear CO
  go_wp2
  clear c0 c1 c2 c3 c4 r0 r1 r2 r3 r4 rz t1 t2
  have HQ := hide (And.intro hq8 hbl)
  clear hq4 hq8 hbl HW3 HW1
  have hN1 := unhide HN1
  go_loopw [8, 14, 15, 16, 17] (fun _ vk _ _ _ W => ∃ (k : Nat) (s : Sl) (cs : List Cas) (j : Nat), k ≤ N ∧ vk = .int .i64 (k : Int) ∧ Cm w0 w z a n c j i 171 ((i : Int) + x) 0 s cs W ∧ Sk bs i N (q + 4 + 4) k cs j ∧ j ≤ n ∧ cs.length = k) (fun _ vk _ _ _ _ => N - (intOf vk).toNat)
  case atStart => exact ⟨0, _, [], _, by omega, rfl, unhide HC6, Sk.start _ _ _ _, by have := unhide HQ; omega, rfl⟩
  case round =>
    obtain ⟨k, ⟨sa, sn, sc⟩, cs, j, hk, rfl, hC, hTk, hj, hcl⟩ := hrel
    obtain ⟨⟨c0, c1, c2, c3, c4⟩, ⟨r0, r1, r2, r3, r4⟩, rz, t1, t2⟩ := hC.cells
    simp only at c4
    by_cases hlt : k < N
    · have hlt1 : (k : Int) < (N : Int) := by omega
      rcases hC.get (unhide HB) hn hj (k := 4) (by omega) true with ⟨ky, g3, H3⟩ | ⟨g3, er, he1, he2, H3⟩
      case inr =>
        have HG := hide H3
        have G3 : Hid (casO bs i 171 q = none) := by show _ = _; rw [unhide CO2, hTk.fails1 hlt g3]; rfl
        clear H3 g3 hC hTk
        go_wp2_with fail
        refine (unhide HG).mono ?_
        rintro e w7 ⟨rfl, hC7⟩
        clear c0 c1 c2 c3 c4 r0 r1 r2 r3 r4 rz t1 t2 HG
        obtain ⟨⟨c0, c1, c2, c3, c4⟩, ⟨r0, r1, r2, r3, r4⟩, rz, t1, t2⟩ := hC7.cells
        simp only at c4
        have HC7 := hide hC7
        clear hC7
        go_wp2
        exact unhide KR (unhide HC7) rfl rfl rfl (.inr ⟨rfl, unhide G3⟩)
      have hj4 := (gR_some g3).2
      have HG := hide H3
      have G3 := hide g3
      have HTK := hide hTk
      clear H3 g3 hC hTk
      go_wp2_with fail
      refine (unhide HG).mono ?_
      rintro e w7 ⟨rfl, hC7⟩
      clear c0 c1 c2 c3 c4 r0 r1 r2 r3 r4 rz t1 t2 HG
      have hC7n := hC7
      obtain ⟨⟨c0, c1, c2, c3, c4⟩, ⟨r0, r1, r2, r3, r4⟩, rz, t1, t2⟩ := hC7n.cells
      simp only at c4
      clear hC7n
      cases k with
      | zero =>
        have hcn : cs = [] := List.length_eq_zero_iff.1 hcl
        have HLAST : Hid (∀ x, cs.getLast? = some x → x.key < ky) := by intro x hx; rw [hcn] at hx; cases hx
        clear hcn
        rcases hC7.get (unhide HB) hn (by have := unhide HQ; omega) (k := 4) (by omega) true with ⟨v3, g4, H4⟩ | ⟨g4, er, he1, he2, H4⟩
        case inr =>
          have HG := hide H4
          have G4 : Hid (casO bs i 171 q = none) := by show _ = _; rw [unhide CO2, (unhide HTK).fails2 hlt (unhide G3) g4]; rfl
          clear H4 g4 hC7
          go_wp2_with fail
          refine (unhide HG).mono ?_
          rintro e w8 ⟨rfl, hC8⟩
          clear c0 c1 c2 c3 c4 HG
          obtain ⟨⟨c0, c1, c2, c3, c4⟩, ⟨r0, r1, r2, r3, r4⟩, rz, t1, t2⟩ := hC8.cells
          simp only at c4
          have HC8 := hide hC8
          clear hC8
          go_wp2
          exact unhide KR (unhide HC8) rfl rfl rfl (.inr ⟨rfl, unhide G4⟩)
        have hb3 := gR_small (k := 4) (by omega) g4
        have hb31 := hb3.1
        have hb32 := hb3.2.2.1 rfl
        have hj8 := (gR_some g4).2
        have HG := hide H4
        have HTN := hide ((unhide HTK).next hlt (unhide G3) (unhide HLAST) g4)
        clear H4 g4 hC7 hb3
        go_wp2_with fail
        refine (unhide HG).mono ?_
        rintro e w8 ⟨rfl, hC8⟩
        clear c0 c1 c2 c3 c4 HG
        obtain ⟨⟨c0, c1, c2, c3, c4⟩, ⟨r0, r1, r2, r3, r4⟩, rz, t1, t2⟩ := hC8.cells
        simp only at c4
        have HO : Hid (Orw cac 51 2 (w8.alloc (.cells #[.int .i64 ky, .int .i64 ((i : Int) + v3)] 51)) (w.heap.size + 2) (.slice sa sn sc) cs) := orw_al9 hC8.row _
        have HS : Hid (Ls 2 cac (w8.alloc (.cells #[.int .i64 ky, .int .i64 ((i : Int) + v3)] 51)) (some ⟨w8.heap.size, 0, none⟩) 1 [⟨ky, (i : Int) + v3⟩]) := ls_one (cs := cac) (sz := 2) w8 _ _ ⟨ky, (i : Int) + v3⟩ rfl
        have HSZ : Hid (w.heap.size + 2 ≤ (w8.alloc (.cells #[.int .i64 ky, .int .i64 ((i : Int) + v3)] 51)).heap.size) := by have := hC8.sz; show _ ≤ _; simp; omega
        have HC8 := hide hC8
        clear hC8
        go_wp2_with (at_builtin; refine listR_append rkC rfl _ _ rfl (w.heap.size + 2) _ _ rfl (unhide HO) _ 1 1 [⟨ky, (i : Int) + v3⟩] rfl (unhide HS) (fun e => by cases e) (by omega) (by omega) (unhide HSZ) ?_)
        intro v4 w9 o8 g8
        obtain ⟨ta, tc, hv4, _⟩ := o8.form
        subst hv4
        obtain ⟨d4, d5⟩ := (unhide HC8).grown g8
        simp only at d4
        have hll : (cs ++ [(⟨ky, (i : Int) + v3⟩ : Cas)]).length = 0 + 1 := by simp [hcl]
        rw [hll] at o8 ⊢
        have HC9 := hide ((unhide HC8).grow (s' := ⟨ta, 0 + 1, tc⟩) o8 g8)
        have HLL := hide hll
        clear hll o8 g8 c0 c1 c2 c3 c4 r0 r1 r2 r3 r4 rz t1 t2
        go_wp2
        go_roundw
        case rel => exact ⟨0 + 1, ⟨ta, 0 + 1, tc⟩, _, j + 4 + 4, by omega, by go_num, unhide HC9, unhide HTN, by have := unhide HQ; omega, unhide HLL⟩
        case measure => simp [intOf]; omega
      | succ m =>
        have hsn : sn = m + 1 := by
          obtain ⟨a', c', e', _⟩ := hC7.row.form
          injection e' with _ e2 _
          have e2 : sn = cs.length := e2
          omega
        obtain ⟨b1, o1, h1a, h1⟩ := Ls.row (hC7.row.ls rkC) (w' := w7) (by simp only; omega)
        simp only at h1a
        subst h1a
        obtain ⟨lx, hlx⟩ : ∃ lx, cs[m]? = some lx := ⟨_, List.getElem?_eq_getElem (by omega)⟩
        have hgl : cs.getLast? = some lx := by rw [List.getLast?_eq_getElem?, hcl]; exact hlx
        have d0 := (h1 (Below.refl _ _) m lx hlx).zero
        have HGL := hide hgl
        clear h1 hlx hgl
        subst hsn
        by_cases hkey : ky ≤ lx.key
        · have G4 : Hid (casO bs i 171 q = none) := by show _ = _; rw [unhide CO2, (unhide HTK).fails3 hlt (unhide G3) (unhide HGL) hkey]; rfl
          have HC8 := hide hC7
          clear hC7
          go_wp2
          exact unhide KR (unhide HC8) rfl rfl rfl (.inr ⟨rfl, unhide G4⟩)
        have HLAST : Hid (∀ x, cs.getLast? = some x → x.key < ky) := by intro x hx; rw [unhide HGL] at hx; injection hx with hx; subst hx; omega
        rcases hC7.get (unhide HB) hn (by have := unhide HQ; omega) (k := 4) (by omega) true with ⟨v3, g4, H4⟩ | ⟨g4, er, he1, he2, H4⟩
        case inr =>
          have HG := hide H4
          have G4 : Hid (casO bs i 171 q = none) := by show _ = _; rw [unhide CO2, (unhide HTK).fails2 hlt (unhide G3) g4]; rfl
          clear H4 g4 hC7
          go_wp2_with fail
          refine (unhide HG).mono ?_
          rintro e w8 ⟨rfl, hC8⟩
          clear c0 c1 c2 c3 c4 HG
          obtain ⟨⟨c0, c1, c2, c3, c4⟩, ⟨r0, r1, r2, r3, r4⟩, rz, t1, t2⟩ := hC8.cells
          simp only at c4
          have HC8 := hide hC8
          clear hC8
          go_wp2
          exact unhide KR (unhide HC8) rfl rfl rfl (.inr ⟨rfl, unhide G4⟩)
        have hb3 := gR_small (k := 4) (by omega) g4
        have hb31 := hb3.1
        have hb32 := hb3.2.2.1 rfl
        have hj8 := (gR_some g4).2
        have HG := hide H4
        have HTN := hide ((unhide HTK).next hlt (unhide G3) (unhide HLAST) g4)
        clear H4 g4 hC7 hb3
        go_wp2_with fail
        refine (unhide HG).mono ?_
        rintro e w8 ⟨rfl, hC8⟩
        clear c0 c1 c2 c3 c4 HG
        obtain ⟨⟨c0, c1, c2, c3, c4⟩, ⟨r0, r1, r2, r3, r4⟩, rz, t1, t2⟩ := hC8.cells
        simp only at c4
        have HO : Hid (Orw cac 51 2 (w8.alloc (.cells #[.int .i64 ky, .int .i64 ((i : Int) + v3)] 51)) (w.heap.size + 2) (.slice (some ⟨b1, o1, none⟩) (m + 1) sc) cs) := orw_al9 hC8.row _
        have HS : Hid (Ls 2 cac (w8.alloc (.cells #[.int .i64 ky, .int .i64 ((i : Int) + v3)] 51)) (some ⟨w8.heap.size, 0, none⟩) 1 [⟨ky, (i : Int) + v3⟩]) := ls_one (cs := cac) (sz := 2) w8 _ _ ⟨ky, (i : Int) + v3⟩ rfl
        have HSZ : Hid (w.heap.size + 2 ≤ (w8.alloc (.cells #[.int .i64 ky, .int .i64 ((i : Int) + v3)] 51)).heap.size) := by have := hC8.sz; show _ ≤ _; simp; omega
        have HC8 := hide hC8
        clear hC8
        go_wp2_with (at_builtin; refine listR_append rkC rfl _ _ rfl (w.heap.size + 2) _ _ rfl (unhide HO) _ 1 1 [⟨ky, (i : Int) + v3⟩] rfl (unhide HS) (fun e => by cases e) (by omega) (by omega) (unhide HSZ) ?_)
        intro v4 w9 o8 g8
        obtain ⟨ta, tc, hv4, _⟩ := o8.form
        subst hv4
        obtain ⟨d4, d5⟩ := (unhide HC8).grown g8
        simp only at d4
        have hll : (cs ++ [(⟨ky, (i : Int) + v3⟩ : Cas)]).length = m + 1 + 1 := by simp [hcl]
        rw [hll] at o8 ⊢
        have HC9 := hide ((unhide HC8).grow (s' := ⟨ta, m + 1 + 1, tc⟩) o8 g8)
        have HLL := hide hll
        clear hll o8 g8 c0 c1 c2 c3 c4 r0 r1 r2 r3 r4 rz t1 t2
        go_wp2
        go_roundw
        case rel => exact ⟨m + 1 + 1, ⟨ta, m + 1 + 1, tc⟩, _, j + 4 + 4, by omega, by go_num, unhide HC9, unhide HTN, by have := unhide HQ; omega, unhide HLL⟩
        case measure => simp [intOf]; omega
    · obtain rfl : k = N := by omega
      have G3 : Hid (casO bs i 171 q = some ((i : Int) + x, 0, cs, j)) := by show _ = _; rw [unhide CO2, hTk.done]; rfl
      have HC7 := hide hC
      clear hC hTk
      go_wp2
      have KX : Hid (∀ W, (W = wr.drew ∨ W = res5 wr.drew (w.heap.size + 1) (.int .i64 i) (.int .i64 171) (.int .i64 ((i : Int) + x)) (.int .i64 0) (.slice sa sn sc)) → (W.cell? ⟨w.heap.size, 0, none⟩ = some (.int .i64 (i : Int)) ∧ W.cell? ⟨w.heap.size, 1, none⟩ = some (.int .i64 171) ∧ W.cell? ⟨w.heap.size, 2, none⟩ = some (.int .i64 ((i : Int) + x)) ∧ W.cell? ⟨w.heap.size, 3, none⟩ = some (.int .i64 0) ∧ W.cell? ⟨w.heap.size, 4, none⟩ = some (.slice sa sn sc)) ∧ W.cell? ⟨z, 1, none⟩ = some (.int .i64 (j : Int))) := by
        intro W hW
        have hzw := (unhide HC7).zw
        have hb : W.heap[w.heap.size]? = some (.cells #[.int .i64 (i : Int), .int .i64 171, .int .i64 ((i : Int) + x), .int .i64 0, .slice sa sn sc] 38 (0, 0)) := by
          rcases hW with rfl | rfl
          · exact (unhide HC7).bx
          · exact (res5_other _ _ _ _ _ (by omega)).trans (unhide HC7).bx
        have hr : W.heap[z]? = some (.cells #[.slice a n c, .int .i64 (j : Int)] 100 (0, 0)) := by
          rcases hW with rfl | rfl
          · exact (unhide HC7).rd
          · exact (res5_other _ _ _ _ _ (by omega)).trans (unhide HC7).rd
        exact ⟨⟨bx_cell hb 0 _ rfl, bx_cell hb 1 _ rfl, bx_cell hb 2 _ rfl, bx_cell hb 3 _ rfl, bx_cell hb 4 _ rfl⟩, bx_cell hr 1 _ rfl⟩
      have HC8 : Hid (Cm w0 w z a n c j i 171 ((i : Int) + x) 0 ⟨sa, sn, sc⟩ cs wr.drew) := by
        have h := unhide HC7
        exact ⟨h.rd, h.bx, h.rs, h.row.below (fun _ _ => rfl), h.fr, h.bel.drew, h.sz, h.z0, h.zw⟩
      clear c0 c1 c2 c3 c4 rz
      have r0 : wr.drew.cell? ⟨w.heap.size + 1, 0, none⟩ = some (.int .i64 0) := r0
      have r1 : wr.drew.cell? ⟨w.heap.size + 1, 1, none⟩ = some (.int .i64 0) := r1
      have r2 : wr.drew.cell? ⟨w.heap.size + 1, 2, none⟩ = some (.int .i64 0) := r2
      have r3 : wr.drew.cell? ⟨w.heap.size + 1, 3, none⟩ = some (.int .i64 0) := r3
      have r4 : wr.drew.cell? ⟨w.heap.size + 1, 4, none⟩ = some (.slice none 0 0) := r4
      have t2 : ∀ q, wr.drew.frozen? ⟨w.heap.size + 1, q, none⟩ = false := t2
      refine wp_region_txt (fun W => W = wr.drew ∨ W = res5 wr.drew (w.heap.size + 1) (.int .i64 i) (.int .i64 171) (.int .i64 ((i : Int) + x)) (.int .i64 0) (.slice sa sn sc)) [5] (List.range 8) (by kernel_rfl) (by kernel_rfl) (.inl rfl) ?_
      repeat (first
        | (refine Txt.reads (v := ?_) (by rfl) (by rfl) (by rfl) ?_ ?_; rotate_left; (focus ((intro W hSW; obtain ⟨⟨p0, p1, p2, p3, p4⟩, p5⟩ := unhide KX W hSW; go_simp) <;> with_reducible rfl)); simp only [Act.put, List.setIfInBounds_toArray, List.set_cons_zero, List.set_cons_succ]))
      refine Txt.acts (by rfl) (by rfl) (by rfl) (fun K hK => ?_)
      go_simp
      refine hK.out _ _ (.inr rfl) ?_
      clear hK K
      repeat (first
        | (refine Txt.reads (v := ?_) (by rfl) (by rfl) (by rfl) ?_ ?_; rotate_left; (focus ((intro W hSW; go_simp) <;> with_reducible rfl)); simp only [Act.put, List.setIfInBounds_toArray, List.set_cons_zero, List.set_cons_succ]))
      refine Txt.done ?_
      go_wp2
      exact unhide KR (unhide HC8) rfl rfl rfl (.inl ⟨rfl, j, rfl, unhide G3⟩)
end Go.Proofs.YtpmhcignenfhgaaDoor
