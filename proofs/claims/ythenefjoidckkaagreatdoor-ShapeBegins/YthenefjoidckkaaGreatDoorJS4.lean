/- Joined: ShF ShG ShH ShI. -/
import Derived.Test.YthenefjoidckkaaGreatDoorJS3

/- Layer 11: deeds that only pop, take or push (written by mk/mkshf.py). -/
namespace Go.Proofs.YthenefjoidckkaaGreatDoor
open Go.RowKit
set_option linter.unusedVariables false
set_option maxRecDepth 100000

set_option maxHeartbeats 400000 in
theorem p11ref_any (W : World) (S : ByteArray) : Calls Tryz.prog 25 #[.string S] W fun e w' => e = .returned (.agg #[.int .i64 4, .string S]) ∧ Below W.heap.size W w' := by
  go_enter Tryz.func25, Tryz.ntmps25
  go_wp2
  exact bodyPost_ret (ty_ret1 Tryz.results25 _ W.heap.size _ _ (heap_alloc_last _ _) _ rfl) rfl ⟨rfl, bA (Below.refl _ _) _⟩
theorem WK.cel {C : Wcx} {x : Wst} {W : World} (k : WK C x W) : W.cell? ⟨C.X, 2, none⟩ = some (.int .i64 C.p.bk.kind) ∧ W.cell? ⟨C.X, 3, none⟩ = some (.string ⟨C.p.bk.name.toArray⟩) ∧ W.cell? ⟨C.X, 12, none⟩ = some (.int .i64 x.ow.kind) ∧ W.cell? ⟨C.X, 13, none⟩ = some (.string ⟨x.ow.name.toArray⟩) ∧ W.cell? ⟨C.X, 15, none⟩ = some (.int .i64 x.to_.kind) ∧ W.cell? ⟨C.X, 16, none⟩ = some (.string ⟨x.to_.name.toArray⟩) := by
  obtain ⟨_, _, _, _, _, k⟩ := k
  exact ⟨bx_cell k.blk 2 _ rfl, bx_cell k.blk 3 _ rfl, bx_cell k.blk 12 _ rfl, bx_cell k.blk 13 _ rfl, bx_cell k.blk 15 _ rfl, bx_cell k.blk 16 _ rfl⟩
theorem WK.ok {C : Wcx} {x : Wst} {W : World} (k : WK C x W) : WsOk x := k.1
set_option maxHeartbeats 400000 in
theorem w11popInt_any (C : Wcx) (x : Wst) (W : World) (k : WK C x W) (hC : Cok C) (hs : x.st.length + x.ha.length ≤ 100000000) :
    Calls Tryz.prog 78 #[.pointer (some ⟨C.X, 0, none⟩)] W fun e w' => Tp C W x (popD C.p.cl tyI x) e w' := by
  have HT := hide (w11pop_any C x W k hC tyI (by unfold nmOk tyI; simp) (by omega))
  clear k
  generalize popD C.p.cl tyI x = r at *
  unfold tyV tyI at HT
  simp only at HT
  go_enter Tryz.func78, Tryz.ntmps78
  go_wp2_with fail
  refine (unhide HT).mono ?_
  intro e w3 h3
  obtain ⟨b, rfl⟩ := h3.1.ret
  have H3 := hide h3
  clear h3 HT
  go_wp2
  go_ret
  exact unhide H3
set_option maxHeartbeats 400000 in
theorem w11popLong_any (C : Wcx) (x : Wst) (W : World) (k : WK C x W) (hC : Cok C) (hs : x.st.length + x.ha.length ≤ 100000000) :
    Calls Tryz.prog 80 #[.pointer (some ⟨C.X, 0, none⟩)] W fun e w' => Tp C W x (popD C.p.cl tyJ x) e w' := by
  have HT := hide (w11pop_any C x W k hC tyJ (by unfold nmOk tyJ; simp) (by omega))
  clear k
  generalize popD C.p.cl tyJ x = r at *
  unfold tyV tyJ at HT
  simp only at HT
  go_enter Tryz.func80, Tryz.ntmps80
  go_wp2_with fail
  refine (unhide HT).mono ?_
  intro e w3 h3
  obtain ⟨b, rfl⟩ := h3.1.ret
  have H3 := hide h3
  clear h3 HT
  go_wp2
  go_ret
  exact unhide H3
set_option maxHeartbeats 400000 in
theorem w11popInts_any (C : Wcx) (x : Wst) (W : World) (k : WK C x W) (hC : Cok C) (hs : x.st.length + x.ha.length ≤ 100000000) :
    Calls Tryz.prog 82 #[.pointer (some ⟨C.X, 0, none⟩)] W fun e w' => Tp C W x (popD C.p.cl (refT [91, 73]) x) e w' := by
  have HF := hide (p11ref_any W ⟨#[91, 73]⟩)
  have HT : Hid (∀ W', Below W.heap.size W W' → Calls Tryz.prog 123 #[.pointer (some ⟨C.X, 0, none⟩), .agg #[.int .i64 4, .string ⟨#[91, 73]⟩]] W' fun e w' => Tp C W x (popD C.p.cl (refT [91, 73]) x) e w') := fun W' f => (w11pop_any C x W' (k.below f) hC (refT [91, 73]) (by unfold nmOk refT; simp) (by omega)).mono fun e w' h => h.pre (KeepsW.below f)
  clear k
  generalize popD C.p.cl (refT [91, 73]) x = r at *
  go_enter Tryz.func82, Tryz.ntmps82
  go_wp2_with fail
  refine (unhide HF).mono ?_
  rintro e w2 ⟨rfl, f2⟩
  have HT2 := hide (unhide HT w2 f2)
  clear HF HT f2
  go_wp2_with fail
  refine (unhide HT2).mono ?_
  intro e w3 h3
  obtain ⟨b, rfl⟩ := h3.1.ret
  have H3 := hide h3
  clear h3 HT2
  go_wp2
  go_ret
  exact unhide H3
set_option maxHeartbeats 400000 in
theorem w11popLongs_any (C : Wcx) (x : Wst) (W : World) (k : WK C x W) (hC : Cok C) (hs : x.st.length + x.ha.length ≤ 100000000) :
    Calls Tryz.prog 83 #[.pointer (some ⟨C.X, 0, none⟩)] W fun e w' => Tp C W x (popD C.p.cl (refT [91, 74]) x) e w' := by
  have HF := hide (p11ref_any W ⟨#[91, 74]⟩)
  have HT : Hid (∀ W', Below W.heap.size W W' → Calls Tryz.prog 123 #[.pointer (some ⟨C.X, 0, none⟩), .agg #[.int .i64 4, .string ⟨#[91, 74]⟩]] W' fun e w' => Tp C W x (popD C.p.cl (refT [91, 74]) x) e w') := fun W' f => (w11pop_any C x W' (k.below f) hC (refT [91, 74]) (by unfold nmOk refT; simp) (by omega)).mono fun e w' h => h.pre (KeepsW.below f)
  clear k
  generalize popD C.p.cl (refT [91, 74]) x = r at *
  go_enter Tryz.func83, Tryz.ntmps83
  go_wp2_with fail
  refine (unhide HF).mono ?_
  rintro e w2 ⟨rfl, f2⟩
  have HT2 := hide (unhide HT w2 f2)
  clear HF HT f2
  go_wp2_with fail
  refine (unhide HT2).mono ?_
  intro e w3 h3
  obtain ⟨b, rfl⟩ := h3.1.ret
  have H3 := hide h3
  clear h3 HT2
  go_wp2
  go_ret
  exact unhide H3
set_option maxHeartbeats 400000 in
theorem w11popBytes_any (C : Wcx) (x : Wst) (W : World) (k : WK C x W) (hC : Cok C) (hs : x.st.length + x.ha.length ≤ 100000000) :
    Calls Tryz.prog 84 #[.pointer (some ⟨C.X, 0, none⟩)] W fun e w' => Tp C W x (popD C.p.cl (refT [91, 66]) x) e w' := by
  have HF := hide (p11ref_any W ⟨#[91, 66]⟩)
  have HT : Hid (∀ W', Below W.heap.size W W' → Calls Tryz.prog 123 #[.pointer (some ⟨C.X, 0, none⟩), .agg #[.int .i64 4, .string ⟨#[91, 66]⟩]] W' fun e w' => Tp C W x (popD C.p.cl (refT [91, 66]) x) e w') := fun W' f => (w11pop_any C x W' (k.below f) hC (refT [91, 66]) (by unfold nmOk refT; simp) (by omega)).mono fun e w' h => h.pre (KeepsW.below f)
  clear k
  generalize popD C.p.cl (refT [91, 66]) x = r at *
  go_enter Tryz.func84, Tryz.ntmps84
  go_wp2_with fail
  refine (unhide HF).mono ?_
  rintro e w2 ⟨rfl, f2⟩
  have HT2 := hide (unhide HT w2 f2)
  clear HF HT f2
  go_wp2_with fail
  refine (unhide HT2).mono ?_
  intro e w3 h3
  obtain ⟨b, rfl⟩ := h3.1.ret
  have H3 := hide h3
  clear h3 HT2
  go_wp2
  go_ret
  exact unhide H3
set_option maxHeartbeats 400000 in
theorem w11popThrowable_any (C : Wcx) (x : Wst) (W : World) (k : WK C x W) (hC : Cok C) (hs : x.st.length + x.ha.length ≤ 100000000) :
    Calls Tryz.prog 108 #[.pointer (some ⟨C.X, 0, none⟩)] W fun e w' => Tp C W x (popD C.p.cl (refT [84, 104, 114, 111, 119, 97, 98, 108, 101]) x) e w' := by
  have HF := hide (p11ref_any W ⟨#[84, 104, 114, 111, 119, 97, 98, 108, 101]⟩)
  have HT : Hid (∀ W', Below W.heap.size W W' → Calls Tryz.prog 123 #[.pointer (some ⟨C.X, 0, none⟩), .agg #[.int .i64 4, .string ⟨#[84, 104, 114, 111, 119, 97, 98, 108, 101]⟩]] W' fun e w' => Tp C W x (popD C.p.cl (refT [84, 104, 114, 111, 119, 97, 98, 108, 101]) x) e w') := fun W' f => (w11pop_any C x W' (k.below f) hC (refT [84, 104, 114, 111, 119, 97, 98, 108, 101]) (by unfold nmOk refT; simp) (by omega)).mono fun e w' h => h.pre (KeepsW.below f)
  clear k
  generalize popD C.p.cl (refT [84, 104, 114, 111, 119, 97, 98, 108, 101]) x = r at *
  go_enter Tryz.func108, Tryz.ntmps108
  go_wp2_with fail
  refine (unhide HF).mono ?_
  rintro e w2 ⟨rfl, f2⟩
  have HT2 := hide (unhide HT w2 f2)
  clear HF HT f2
  go_wp2_with fail
  refine (unhide HT2).mono ?_
  intro e w3 h3
  obtain ⟨b, rfl⟩ := h3.1.ret
  have H3 := hide h3
  clear h3 HT2
  go_wp2
  go_ret
  exact unhide H3
set_option maxHeartbeats 400000 in
theorem w11popOwner_any (C : Wcx) (x : Wst) (W : World) (k : WK C x W) (hC : Cok C) (hs : x.st.length + x.ha.length ≤ 100000000) :
    Calls Tryz.prog 99 #[.pointer (some ⟨C.X, 0, none⟩)] W fun e w' => Tp C W x (popOwnerD C.p.cl x) e w' := by
  have HT := hide (w11pop_any C x W k hC x.ow k.ok.ow (by omega))
  obtain ⟨_, _, c0, c1, _, _⟩ := k.cel
  clear k
  rw [show popD C.p.cl x.ow x = popOwnerD C.p.cl x from rfl] at HT
  generalize popOwnerD C.p.cl x = r at *
  unfold tyV at HT
  go_enter Tryz.func99, Tryz.ntmps99
  go_wp2_with fail
  refine (unhide HT).mono ?_
  intro e w3 h3
  obtain ⟨b, rfl⟩ := h3.1.ret
  have H3 := hide h3
  clear h3 HT
  go_wp2
  go_ret
  exact unhide H3
set_option maxHeartbeats 400000 in
theorem w11popTold_any (C : Wcx) (x : Wst) (W : World) (k : WK C x W) (hC : Cok C) (hs : x.st.length + x.ha.length ≤ 100000000) :
    Calls Tryz.prog 98 #[.pointer (some ⟨C.X, 0, none⟩)] W fun e w' => Tp C W x (popToldD C.p.cl x) e w' := by
  have HT := hide (w11pop_any C x W k hC x.to_ k.ok.to_ (by omega))
  obtain ⟨_, _, _, _, c0, c1⟩ := k.cel
  clear k
  rw [show popD C.p.cl x.to_ x = popToldD C.p.cl x from rfl] at HT
  generalize popToldD C.p.cl x = r at *
  unfold tyV at HT
  go_enter Tryz.func98, Tryz.ntmps98
  go_wp2_with fail
  refine (unhide HT).mono ?_
  intro e w3 h3
  obtain ⟨b, rfl⟩ := h3.1.ret
  have H3 := hide h3
  clear h3 HT
  go_wp2
  go_ret
  exact unhide H3
set_option maxHeartbeats 400000 in
theorem w11popAnswer_any (C : Wcx) (x : Wst) (W : World) (k : WK C x W) (hC : Cok C) (hbk : nmOk C.p.bk) (hs : x.st.length + x.ha.length ≤ 100000000) :
    Calls Tryz.prog 92 #[.pointer (some ⟨C.X, 0, none⟩)] W fun e w' => Tp C W x (popD C.p.cl C.p.bk x) e w' := by
  have HT := hide (w11pop_any C x W k hC C.p.bk hbk (by omega))
  obtain ⟨c0, c1, _, _, _, _⟩ := k.cel
  clear k
  rw [show popD C.p.cl C.p.bk x = popD C.p.cl C.p.bk x from rfl] at HT
  generalize popD C.p.cl C.p.bk x = r at *
  unfold tyV at HT
  go_enter Tryz.func92, Tryz.ntmps92
  go_wp2_with fail
  refine (unhide HT).mono ?_
  intro e w3 h3
  obtain ⟨b, rfl⟩ := h3.1.ret
  have H3 := hide h3
  clear h3 HT
  go_wp2
  go_ret
  exact unhide H3
set_option maxHeartbeats 400000 in
theorem w11popReference_any (C : Wcx) (x : Wst) (W : World) (k : WK C x W) (hC : Cok C) (hs : x.st.length + x.ha.length ≤ 100000000) :
    Calls Tryz.prog 81 #[.pointer (some ⟨C.X, 0, none⟩)] W fun e w' => Tp C W x (takeD isRefB x) e w' := by
  have HT := hide (w11take_any C x W k 122 #[] (enters_of Tryz.func122 (by kernel_rfl) rfl) isRefB (fun t ht => p11isReference_any W t) (by omega))
  clear k
  generalize takeD isRefB x = r at *
  go_enter Tryz.func81, Tryz.ntmps81
  go_wp2_with fail
  refine (unhide HT).mono ?_
  intro e w3 h3
  obtain ⟨b, rfl⟩ := h3.1.ret
  have H3 := hide h3
  clear h3 HT
  go_wp2
  go_ret
  exact unhide H3
set_option maxHeartbeats 400000 in
theorem w11popArray_any (C : Wcx) (x : Wst) (W : World) (k : WK C x W) (hC : Cok C) (hs : x.st.length + x.ha.length ≤ 100000000) :
    Calls Tryz.prog 107 #[.pointer (some ⟨C.X, 0, none⟩)] W fun e w' => Tp C W x (takeD arrM x) e w' := by
  have HT := hide (w11take_any C x W k 129 #[] (enters_of Tryz.func129 (by kernel_rfl) rfl) arrM (fun t ht => p11mayBeArray_any W t ht) (by omega))
  clear k
  generalize takeD arrM x = r at *
  go_enter Tryz.func107, Tryz.ntmps107
  go_wp2_with fail
  refine (unhide HT).mono ?_
  intro e w3 h3
  obtain ⟨b, rfl⟩ := h3.1.ret
  have H3 := hide h3
  clear h3 HT
  go_wp2
  go_ret
  exact unhide H3
set_option maxHeartbeats 400000 in
theorem w11popReferences_any (C : Wcx) (x : Wst) (W : World) (k : WK C x W) (hC : Cok C) (hs : x.st.length + x.ha.length ≤ 100000000) :
    Calls Tryz.prog 85 #[.pointer (some ⟨C.X, 0, none⟩)] W fun e w' => Tp C W x (takeD refsM x) e w' := by
  have HT := hide (w11take_any C x W k 125 #[] (enters_of Tryz.func125 (by kernel_rfl) rfl) refsM (fun t ht => p11mayHaveReferences_any W t ht) (by omega))
  clear k
  generalize takeD refsM x = r at *
  go_enter Tryz.func85, Tryz.ntmps85
  go_wp2_with fail
  refine (unhide HT).mono ?_
  intro e w3 h3
  obtain ⟨b, rfl⟩ := h3.1.ret
  have H3 := hide h3
  clear h3 HT
  go_wp2
  go_ret
  exact unhide H3
set_option maxHeartbeats 400000 in
theorem w11popSingle_any (C : Wcx) (x : Wst) (W : World) (k : WK C x W) (hC : Cok C) (hs : x.st.length + x.ha.length ≤ 100000000) :
    Calls Tryz.prog 87 #[.pointer (some ⟨C.X, 0, none⟩)] W fun e w' => Tp C W x (takeD singleB x) e w' := by
  have HT := hide (w11take_any C x W k 126 #[] (enters_of Tryz.func126 (by kernel_rfl) rfl) singleB (fun t ht => p11isSingle_any W t) (by omega))
  clear k
  generalize takeD singleB x = r at *
  go_enter Tryz.func87, Tryz.ntmps87
  go_wp2_with fail
  refine (unhide HT).mono ?_
  intro e w3 h3
  obtain ⟨b, rfl⟩ := h3.1.ret
  have H3 := hide h3
  clear h3 HT
  go_wp2
  go_ret
  exact unhide H3
set_option maxHeartbeats 400000 in
theorem w11pushNull_any (C : Wcx) (x : Wst) (W : World) (k : WK C x W) (hC : Cok C) (hs : x.st.length + x.ha.length ≤ 100000000) :
    Calls Tryz.prog 68 #[.pointer (some ⟨C.X, 0, none⟩)] W fun e w' => Dp C W (pushD [tyN] x) e w' := by
  have f1 : Below W.heap.size W (W.alloc (.cells #[.int .i64 3, .string ⟨#[]⟩] 52)) := bA (Below.refl _ _) _
  have HT := hide ((w11push_any C x _ (k.below f1) (some ⟨W.heap.size, 0, none⟩) 1 1 [tyN] (ls_one (cs := tyc) (sz := 2) W _ _ tyN rfl) (fun e => by cases e) (fun t ht => by rw [List.mem_singleton.1 ht]; unfold nmOk tyN; simp) (by omega)).mono fun e w' h => h.pre (KeepsW.below f1))
  clear k f1
  generalize pushD [tyN] x = r at *
  go_enter Tryz.func68, Tryz.ntmps68
  go_wp2_with fail
  refine (unhide HT).mono ?_
  intro e w3 h3
  obtain ⟨b, rfl⟩ := h3.ret
  have H3 := hide h3
  clear h3 HT
  go_wp2
  go_ret
  exact unhide H3
set_option maxHeartbeats 400000 in
theorem w11pushInt_any (C : Wcx) (x : Wst) (W : World) (k : WK C x W) (hC : Cok C) (hs : x.st.length + x.ha.length ≤ 100000000) :
    Calls Tryz.prog 69 #[.pointer (some ⟨C.X, 0, none⟩)] W fun e w' => Dp C W (pushD [tyI] x) e w' := by
  have f1 : Below W.heap.size W (W.alloc (.cells #[.int .i64 1, .string ⟨#[]⟩] 52)) := bA (Below.refl _ _) _
  have HT := hide ((w11push_any C x _ (k.below f1) (some ⟨W.heap.size, 0, none⟩) 1 1 [tyI] (ls_one (cs := tyc) (sz := 2) W _ _ tyI rfl) (fun e => by cases e) (fun t ht => by rw [List.mem_singleton.1 ht]; unfold nmOk tyI; simp) (by omega)).mono fun e w' h => h.pre (KeepsW.below f1))
  clear k f1
  generalize pushD [tyI] x = r at *
  go_enter Tryz.func69, Tryz.ntmps69
  go_wp2_with fail
  refine (unhide HT).mono ?_
  intro e w3 h3
  obtain ⟨b, rfl⟩ := h3.ret
  have H3 := hide h3
  clear h3 HT
  go_wp2
  go_ret
  exact unhide H3
set_option maxHeartbeats 400000 in
theorem w11pushLong_any (C : Wcx) (x : Wst) (W : World) (k : WK C x W) (hC : Cok C) (hs : x.st.length + x.ha.length ≤ 100000000) :
    Calls Tryz.prog 70 #[.pointer (some ⟨C.X, 0, none⟩)] W fun e w' => Dp C W (pushD [tyJ] x) e w' := by
  have f1 : Below W.heap.size W (W.alloc (.cells #[.int .i64 2, .string ⟨#[]⟩] 52)) := bA (Below.refl _ _) _
  have HT := hide ((w11push_any C x _ (k.below f1) (some ⟨W.heap.size, 0, none⟩) 1 1 [tyJ] (ls_one (cs := tyc) (sz := 2) W _ _ tyJ rfl) (fun e => by cases e) (fun t ht => by rw [List.mem_singleton.1 ht]; unfold nmOk tyJ; simp) (by omega)).mono fun e w' h => h.pre (KeepsW.below f1))
  clear k f1
  generalize pushD [tyJ] x = r at *
  go_enter Tryz.func70, Tryz.ntmps70
  go_wp2_with fail
  refine (unhide HT).mono ?_
  intro e w3 h3
  obtain ⟨b, rfl⟩ := h3.ret
  have H3 := hide h3
  clear h3 HT
  go_wp2
  go_ret
  exact unhide H3
set_option maxHeartbeats 400000 in
theorem w11pushTold_any (C : Wcx) (x : Wst) (W : World) (k : WK C x W) (hC : Cok C) (hs : x.st.length + x.ha.length ≤ 100000000) :
    Calls Tryz.prog 97 #[.pointer (some ⟨C.X, 0, none⟩)] W fun e w' => Dp C W (pushToldD x) e w' := by
  have f1 : Below W.heap.size W (W.alloc (.cells #[.int .i64 x.to_.kind, .string ⟨x.to_.name.toArray⟩] 52)) := bA (Below.refl _ _) _
  have HT := hide ((w11push_any C x _ (k.below f1) (some ⟨W.heap.size, 0, none⟩) 1 1 [x.to_] (ls_one (cs := tyc) (sz := 2) W _ _ x.to_ rfl) (fun e => by cases e) (fun t ht => by rw [List.mem_singleton.1 ht]; exact k.ok.to_) (by omega)).mono fun e w' h => h.pre (KeepsW.below f1))
  obtain ⟨_, _, _, _, c0, c1⟩ := k.cel
  clear k f1
  rw [show pushD [x.to_] x = pushToldD x from rfl] at HT
  generalize pushToldD x = r at *
  go_enter Tryz.func97, Tryz.ntmps97
  go_wp2_with fail
  refine (unhide HT).mono ?_
  intro e w3 h3
  obtain ⟨b, rfl⟩ := h3.ret
  have H3 := hide h3
  clear h3 HT
  go_wp2
  go_ret
  exact unhide H3
end Go.Proofs.YthenefjoidckkaaGreatDoor

/- Layer 11: a local is taken in hand. -/
namespace Go.Proofs.YthenefjoidckkaaGreatDoor
open Go.RowKit
set_option linter.unusedVariables false
set_option maxRecDepth 100000

set_option maxHeartbeats 400000 in
theorem w11get_any (C : Wcx) (x : Wst) (W : World) (k : WK C x W) (g : Nat) (lb : Array Value) (eg : ∀ args w, (callFunc g args).run Tryz.prog w = .ok (.enter g args) w) (fit : Ty → Bool)
    (HF : ∀ t, nmOk t → Calls Tryz.prog g (#[tyV t] ++ lb) W fun e w' => e = .returned (.bool (fit t)) ∧ Below W.heap.size W w') (hs : x.st.length + x.ha.length ≤ 1000000000) (hlo : x.lo.length ≤ 1000000000) :
    Calls Tryz.prog 119 #[.pointer (some ⟨C.X, 0, none⟩), .func (.func g) #[] lb] W fun e w' => Tp C W x (getD_ fit C.p.A x) e w' := by
  have k0 := k
  obtain ⟨ok, ⟨ta, tn, tc⟩, s, ⟨ha, hn, hc⟩, a, k⟩ := k
  obtain ⟨e2, _, e3, _⟩ := WK.len k
  simp only at e2 e3
  obtain ⟨_, _, c6, c9, _, c11, t⟩ := k.cells
  simp only at c9 c11
  by_cases hA : C.p.A < 0
  case pos =>
    have h2 : getD_ fit C.p.A x = none := by unfold getD_; rw [if_pos hA]
    rw [h2]
    have HK := hide k0
    generalize C.p.A = A at *
    clear k k0 ok e2 e3 h2 HF eg
    go_enter Tryz.func119, Tryz.ntmps119
    go_wp2
    go_ret
    exact ⟨⟨rfl, ⟨_, unhide HK⟩, KeepsW.refl _ _⟩, fun _ => unhide HK⟩
  obtain ⟨n, hn'⟩ : ∃ n : Nat, C.p.A = n := ⟨C.p.A.toNat, by omega⟩
  by_cases hlt : n < tn
  case neg =>
    have h2 : getD_ fit C.p.A x = none := by
      unfold getD_
      rw [if_neg hA, hn', Int.toNat_natCast, List.getElem?_eq_none (by omega)]
    have hge : (n : Int) ≥ (tn : Int) := by omega
    have hge' : (tn : Int) ≤ (n : Int) := by omega
    have hA' : ¬ (n : Int) < 0 := by omega
    rw [h2]
    rw [hn'] at c6
    have HK := hide k0
    clear k k0 ok e2 e3 h2 HF eg hA hn'
    go_enter Tryz.func119, Tryz.ntmps119
    go_wp2
    go_ret
    exact ⟨⟨rfl, ⟨_, unhide HK⟩, KeepsW.refl _ _⟩, fun _ => unhide HK⟩
  obtain ⟨T, hT2⟩ : ∃ T, x.lo[n]? = some T := ⟨_, List.getElem?_eq_getElem (by omega)⟩
  have hT4 : T ∈ x.lo := List.mem_of_getElem? hT2
  have HP : Hid (getD_ fit C.p.A x = if fit T = true then some { x with ha := x.ha ++ [T] } else none) := by
    show _ = _
    unfold getD_
    rw [if_neg hA, hn', Int.toNat_natCast, hT2]
  rw [hn'] at c6
  have hA' : ¬ (n : Int) < 0 := by omega
  have hge : ¬ (n : Int) ≥ (tn : Int) := by omega
  have hge' : ¬ (tn : Int) ≤ (n : Int) := by omega
  have hlt' : (n : Int) < (tn : Int) := by omega
  have hL := k.ol.ls rkT
  unfold Sl.v at hL
  have htn0 : tn ≠ 0 := by omega
  obtain ⟨b, o, hta, hr⟩ := hL.row (w' := W) htn0
  clear htn0
  subst hta
  have q0 := (hr (Below.refl _ _) n T hT2).zero
  have q1 := (hr (Below.refl _ _) n T hT2) 1 _ rfl
  have HFt := hide (HF T (ok.lo T hT4))
  have HK0 := hide k0
  have HK := hide k
  have HOK := hide ok
  have HEG := hide eg
  clear k k0 ok hr hL HF eg hA hn'
  unfold tyV at HFt
  generalize fit T = R at *
  generalize getD_ fit C.p.A x = D at *
  have hnb : n ≤ 1000000000 := by omega
  have htb : tn ≤ 1000000000 := by omega
  have E3 := hide e3
  have HS := hide hs
  have HT4 := hide hT4
  clear e2 e3 hs hT2 hT4 hlo
  cases R with
  | false =>
    go_enter Tryz.func119, Tryz.ntmps119
    go_wp2_with fail
    rw [unhide HEG, Oper.upon_enter]
    refine (unhide HFt).mono ?_
    rintro e w1 ⟨rfl, f1⟩
    have F1 := hide f1
    clear HFt f1
    go_wp2
    go_ret
    rw [unhide HP]
    exact ⟨⟨rfl, ⟨x, (unhide HK0).below (unhide F1)⟩, KeepsW.below (unhide F1)⟩, fun _ => (unhide HK0).below (unhide F1)⟩
  | true =>
    go_enter Tryz.func119, Tryz.ntmps119
    go_wp2_with fail
    rw [unhide HEG, Oper.upon_enter]
    refine (unhide HFt).mono ?_
    rintro e w1 ⟨rfl, f1⟩
    have HK1 := hide ((unhide HK).below f1)
    have F1 := hide f1
    obtain ⟨SS, hSS⟩ : ∃ SS : World → Prop, SS = fun W' => W'.cell? ⟨C.X, 9, none⟩ = some (.slice (some ⟨b, o, none⟩) tn tc) ∧ W'.cell? ⟨C.X, 11, none⟩ = some (.slice ha hn hc) ∧ W'.cell? ⟨b, o + n * 2, none⟩ = some (.int .i64 T.kind) ∧ W'.cell? ⟨b, o + n * 2 + 1, none⟩ = some (.string ⟨T.name.toArray⟩) := ⟨_, rfl⟩
    have KS : Hid (∀ W', SS W' ↔ W'.cell? ⟨C.X, 9, none⟩ = some (.slice (some ⟨b, o, none⟩) tn tc) ∧ W'.cell? ⟨C.X, 11, none⟩ = some (.slice ha hn hc) ∧ W'.cell? ⟨b, o + n * 2, none⟩ = some (.int .i64 T.kind) ∧ W'.cell? ⟨b, o + n * 2 + 1, none⟩ = some (.string ⟨T.name.toArray⟩)) := fun W' => by rw [hSS]
    have old : ∀ {p : Addr} {v : Value}, W.cell? p = some v → w1.cell? p = some v := fun {p v} hp => (f1.cell (World.block_lt_of_cell? W _ hp)).trans hp
    have S1 := hide ((unhide KS w1).2 ⟨old c9, old c11, old q0, old q1⟩)
    clear HFt f1 c9 c11 q0 q1 t hSS
    clear old
    go_wp2
    refine wp_region_txtn SS [13, 14] (List.range 17) 17 (by rfl) (by kernel_rfl) (by kernel_rfl) ((unhide KS w1.drew).2 ((unhide KS w1).1 (unhide S1))) ?_
    simp only [List.take_succ_cons, List.take_zero]
    repeat (first
      | (refine Txt.reads (v := ?_) (by rfl) (by rfl) (by rfl) ?_ ?_; rotate_left; (focus ((intro W hSW; obtain ⟨p0, p1, p2, p3⟩ := (unhide KS W).1 hSW; go_simp) <;> with_reducible rfl)); simp only [Act.put, List.setIfInBounds_toArray, List.set_cons_zero, List.set_cons_succ]))
    refine Txt.acts (by rfl) (by rfl) (by rfl) (fun KK hKK => ?_)
    go_simp
    have fA : Below w1.heap.size w1 (w1.alloc (.cells #[.int .i64 T.kind, .string ⟨T.name.toArray⟩] 52)).drew := (bA (Below.refl _ _) _).drew
    have kA := (unhide HK1).below fA
    have sA : SS (w1.alloc (.cells #[.int .i64 T.kind, .string ⟨T.name.toArray⟩] 52)).drew := by
      obtain ⟨p0, p1, p2, p3⟩ := (unhide KS w1).1 (unhide S1)
      have old : ∀ {p : Addr} {v : Value}, w1.cell? p = some v → (w1.alloc (.cells #[.int .i64 T.kind, .string ⟨T.name.toArray⟩] 52)).drew.cell? p = some v := fun {p v} hp => (fA.cell (World.block_lt_of_cell? _ _ hp)).trans hp
      exact (unhide KS _).2 ⟨old p0, old p1, old p2, old p3⟩
    refine hKK.out _ _ sA ?_
    clear hKK
    refine Txt.acts (by rfl) (by rfl) (by rfl) (fun KK hKK => ?_)
    have e3' := unhide E3
    have hs' := unhide HS
    refine wpR_append_at rkT (.tmp 40) (.tmp 49) rfl C.w0.heap.size _ x.ha (by rfl) kA.oh (some ⟨w1.heap.size, 0, none⟩) 1 1 [T] (by rfl) (ls_drew (ls_one (cs := tyc) (sz := 2) w1 _ _ T rfl)) (fun e => by cases e) (by omega) (by omega) kA.bel.size ?_
    intro v6 w6 o6 g6 at6
    obtain ⟨va, vc, hv, _⟩ := o6.form
    subst hv
    have HK6 := hide (kA.hand (h' := ⟨va, (x.ha ++ [T]).length, vc⟩) o6 g6 at6)
    have KP6 : Hid (KeepsW C W w6) := ((KeepsW.below (unhide F1)).trans (KeepsW.below fA)).trans (KeepsW.grown kA.oh g6)
    have s6 : SS w6 := by
      obtain ⟨p0, p1, p2, p3⟩ := (unhide KS _).1 sA
      have oX : ∀ {i : Nat} {v : Value}, (w1.alloc (.cells #[.int .i64 T.kind, .string ⟨T.name.toArray⟩] 52)).drew.cell? ⟨C.X, i, none⟩ = some v → w6.cell? ⟨C.X, i, none⟩ = some v := fun {i v} hp => g6.cell hp (fun e => row_ne kA.oh kA.blk (by decide) e.symm rfl)
      have oR : ∀ {i : Nat} {v : Value}, (w1.alloc (.cells #[.int .i64 T.kind, .string ⟨T.name.toArray⟩] 52)).drew.cell? ⟨b, i, none⟩ = some v → w6.cell? ⟨b, i, none⟩ = some v := fun {i v} hp => g6.cell hp (fun e => kA.lh b rfl e.symm)
      exact (unhide KS _).2 ⟨oX p0, oX p1, oR p2, oR p3⟩
    have hb6 : w6.heap[C.X]? = _ := (g6.block _ (lt_of_heap kA.blk) (fun e => row_ne kA.oh kA.blk (by decide) e.symm rfl)).trans kA.blk
    have t6 := fun q => bx_thaw hb6 q
    have S6 := hide s6
    refine hKK.out _ _ s6 ?_
    clear s6 hKK fA kA sA o6 g6 at6 hb6 e3' hs'
    repeat (first
      | (refine Txt.reads (v := ?_) (by rfl) (by rfl) (by rfl) ?_ ?_; rotate_left; (focus ((intro W hSW; go_simp) <;> with_reducible rfl)); simp only [Act.put, List.setIfInBounds_toArray, List.set_cons_zero, List.set_cons_succ]))
    refine Txt.done (thenLast_n (by rfl) (by rfl) (by rfl) (fun KK hKK => ?_))
    have c11 := ((unhide KS w6).1 (unhide S6)).2.1
    go_simp
    refine hKK.out _ _ ?_
    clear c11 hKK KK S6 S1 t6
    rw [List.length_append, List.length_singleton] at HK6
    have HKP7 : Hid (KeepsW C W (w6.setCell ⟨C.X, 11, none⟩ (.slice va (x.ha.length + 1) vc))) := (unhide KP6).trans (KeepsW.setX C _ _ _)
    clear KP6
    generalize w6.setCell ⟨C.X, 11, none⟩ (.slice va (x.ha.length + 1) vc) = w7 at *
    go_wp2
    go_ret
    rw [unhide HP, if_pos trivial]
    refine ⟨⟨rfl, ⟨?_, _, _, _, _, unhide HK6⟩, unhide HKP7⟩, fun e => by cases e⟩
    obtain ⟨o1, o2, o3, o4, o5, o6⟩ := unhide HOK
    refine ⟨o1, o2, fun t ht => ?_, o4, o5, o6⟩
    rcases List.mem_append.1 ht with h | h
    · exact o3 t h
    · rw [List.mem_singleton.1 h]; exact o2 _ (unhide HT4)
set_option maxHeartbeats 400000 in
theorem w11getInt_any (C : Wcx) (x : Wst) (W : World) (k : WK C x W) (hC : Cok C) (hs : x.st.length + x.ha.length ≤ 100000000) (hlo : x.lo.length ≤ 1000000000) :
    Calls Tryz.prog 73 #[.pointer (some ⟨C.X, 0, none⟩)] W fun e w' => Tp C W x (getD_ isIntB C.p.A x) e w' := by
  have HT := hide (w11get_any C x W k 120 #[] (enters_of Tryz.func120 (by kernel_rfl) rfl) isIntB (fun t ht => p11isInt_any W t) (by omega) hlo)
  clear k
  generalize getD_ isIntB C.p.A x = r at *
  go_enter Tryz.func73, Tryz.ntmps73
  go_wp2_with fail
  refine (unhide HT).mono ?_
  intro e w3 h3
  obtain ⟨b, rfl⟩ := h3.1.ret
  have H3 := hide h3
  clear h3 HT
  go_wp2
  go_ret
  exact unhide H3
set_option maxHeartbeats 400000 in
theorem w11getLong_any (C : Wcx) (x : Wst) (W : World) (k : WK C x W) (hC : Cok C) (hs : x.st.length + x.ha.length ≤ 100000000) (hlo : x.lo.length ≤ 1000000000) :
    Calls Tryz.prog 75 #[.pointer (some ⟨C.X, 0, none⟩)] W fun e w' => Tp C W x (getD_ isLongB C.p.A x) e w' := by
  have HT := hide (w11get_any C x W k 121 #[] (enters_of Tryz.func121 (by kernel_rfl) rfl) isLongB (fun t ht => p11isLong_any W t) (by omega) hlo)
  clear k
  generalize getD_ isLongB C.p.A x = r at *
  go_enter Tryz.func75, Tryz.ntmps75
  go_wp2_with fail
  refine (unhide HT).mono ?_
  intro e w3 h3
  obtain ⟨b, rfl⟩ := h3.1.ret
  have H3 := hide h3
  clear h3 HT
  go_wp2
  go_ret
  exact unhide H3
set_option maxHeartbeats 400000 in
theorem w11getReference_any (C : Wcx) (x : Wst) (W : World) (k : WK C x W) (hC : Cok C) (hs : x.st.length + x.ha.length ≤ 100000000) (hlo : x.lo.length ≤ 1000000000) :
    Calls Tryz.prog 76 #[.pointer (some ⟨C.X, 0, none⟩)] W fun e w' => Tp C W x (getD_ isRefB C.p.A x) e w' := by
  have HT := hide (w11get_any C x W k 122 #[] (enters_of Tryz.func122 (by kernel_rfl) rfl) isRefB (fun t ht => p11isReference_any W t) (by omega) hlo)
  clear k
  generalize getD_ isRefB C.p.A x = r at *
  go_enter Tryz.func76, Tryz.ntmps76
  go_wp2_with fail
  refine (unhide HT).mono ?_
  intro e w3 h3
  obtain ⟨b, rfl⟩ := h3.1.ret
  have H3 := hide h3
  clear h3 HT
  go_wp2
  go_ret
  exact unhide H3
end Go.Proofs.YthenefjoidckkaaGreatDoor

/- Layer 11: what is in hand is pushed; popPair; what the method answers. -/
namespace Go.Proofs.YthenefjoidckkaaGreatDoor
open Go.RowKit
set_option linter.unusedVariables false
set_option maxRecDepth 100000

/-- The hand's row at k. -/
theorem Wk.handAt {C : Wcx} {x : Wst} {l s h a : Sl} {W : World} (k : Wk C x l s h a W) {n : Nat} {T : Ty} (hT : x.ha[n]? = some T) : ∃ b o, h.a = some ⟨b, o, none⟩ ∧ W.cell? ⟨b, o + n * 2, none⟩ = some (.int .i64 T.kind) ∧ W.cell? ⟨b, o + n * 2 + 1, none⟩ = some (.string ⟨T.name.toArray⟩) ∧ n < h.n := by
  have hL := k.oh.ls rkT
  have e3 := (WK.len k).2.2.1
  have hlt := (List.getElem?_eq_some_iff.1 hT).1
  obtain ⟨b, o, hta, hr⟩ := hL.row (w' := W) (by omega)
  exact ⟨b, o, hta, (hr (Below.refl _ _) n T hT).zero, (hr (Below.refl _ _) n T hT) 1 _ rfl, by omega⟩
theorem WK.c56 {C : Wcx} {x : Wst} {W : World} (k : WK C x W) : W.cell? ⟨C.X, 5, none⟩ = some (.int .i64 C.p.op) ∧ W.cell? ⟨C.X, 6, none⟩ = some (.int .i64 C.p.A) := by
  obtain ⟨_, _, _, _, _, k⟩ := k
  exact ⟨k.cells.2.1, k.cells.2.2.1⟩
set_option maxHeartbeats 400000 in
theorem w11pushFirst_any (C : Wcx) (x : Wst) (W : World) (k : WK C x W) (hC : Cok C) (h0 : x.ha ≠ []) (hs : x.st.length + x.ha.length ≤ 100000000) :
    Calls Tryz.prog 74 #[.pointer (some ⟨C.X, 0, none⟩)] W fun e w' => Dp C W (pushFirstD x) e w' := by
  obtain ⟨T, hT⟩ : ∃ T, x.ha.head? = some T := by cases hx : x.ha with
    | nil => exact absurd hx h0
    | cons t u => exact ⟨t, rfl⟩
  have hT0 : x.ha[0]? = some T := by rw [← List.head?_eq_getElem?]; exact hT
  have e1 : pushFirstD x = pushD [T] x := by unfold pushFirstD; rw [hT]
  rw [e1]
  have f1 : Below W.heap.size W (W.alloc (.cells #[.int .i64 T.kind, .string ⟨T.name.toArray⟩] 52)) := bA (Below.refl _ _) _
  have HT := hide ((w11push_any C x _ (k.below f1) (some ⟨W.heap.size, 0, none⟩) 1 1 [T] (ls_one (cs := tyc) (sz := 2) W _ _ T rfl) (fun e => by cases e) (fun t ht => by rw [List.mem_singleton.1 ht]; exact k.ok.ha T (List.mem_of_getElem? hT0)) (by omega)).mono fun e w' h => h.pre (KeepsW.below f1))
  obtain ⟨ok, l, s, ⟨ha, hn, hc⟩, a, k⟩ := k
  obtain ⟨b, o, hta, q0, q1, hlt⟩ := k.handAt hT0
  simp only at hta hlt
  subst hta
  obtain ⟨_, _, _, _, _, c11, _⟩ := k.cells
  simp only at c11
  have hlt1 : (0 : Int) < (hn : Int) := by omega
  rw [Nat.zero_mul, Nat.add_zero] at q0 q1
  clear k f1 e1 hT hT0 h0
  generalize pushD [T] x = r at *
  go_enter Tryz.func74, Tryz.ntmps74
  go_wp2_with fail
  refine (unhide HT).mono ?_
  intro e w3 h3
  obtain ⟨b', rfl⟩ := h3.ret
  have H3 := hide h3
  clear h3 HT
  go_wp2
  go_ret
  exact unhide H3
set_option maxHeartbeats 1000000 in
theorem w11pushLast_any (C : Wcx) (x : Wst) (W : World) (k : WK C x W) (hC : Cok C) (h0 : x.ha ≠ []) (hs : x.st.length + x.ha.length ≤ 100000000) :
    Calls Tryz.prog 89 #[.pointer (some ⟨C.X, 0, none⟩)] W fun e w' => Dp C W (pushLastD x) e w' := by
  obtain ⟨n, hn1⟩ : ∃ n, x.ha.length = n + 1 := ⟨x.ha.length - 1, by have := List.length_pos_iff.2 h0; omega⟩
  obtain ⟨T, hT, hT0, _, hTm⟩ := last_of hn1
  have e1 : pushLastD x = pushD [T] x := by unfold pushLastD; rw [hT]
  rw [e1]
  obtain ⟨ok, l, s, ⟨ha, hn, hc⟩, a, k⟩ := k
  have e3 := (WK.len k).2.2.1
  simp only at e3
  obtain ⟨b, o, hta, q0, q1, hlt⟩ := k.handAt hT0
  simp only at hta hlt
  subst hta
  obtain rfl : hn = n + 1 := by omega
  obtain ⟨SS, hSS⟩ : ∃ SS : World → Prop, SS = fun W' => KeepsW C W W' ∧ ∃ x' s', WsOk x' ∧ x'.ha = x.ha ∧ Wk C x' l s' ⟨some ⟨b, o, none⟩, n + 1, hc⟩ a W' := ⟨_, rfl⟩
  have KS : Hid (∀ W', SS W' → W'.cell? ⟨C.X, 11, none⟩ = some (.slice (some ⟨b, o, none⟩) (n + 1) hc) ∧ W'.cell? ⟨b, o + n * 2, none⟩ = some (.int .i64 T.kind) ∧ W'.cell? ⟨b, o + n * 2 + 1, none⟩ = some (.string ⟨T.name.toArray⟩)) := fun W' h => by
    rw [hSS] at h
    obtain ⟨_, x', s', _, hx, k'⟩ := h
    obtain ⟨b', o', hta, q0, q1, hlt⟩ := k'.handAt (n := n) (T := T) (by rw [hx]; exact hT0)
    simp only at hta
    injection hta with hta
    injection hta with hb ho
    subst hb ho
    exact ⟨k'.cells.2.2.2.2.2.1, q0, q1⟩
  have S0 : Hid (SS W.drew) := by rw [hSS]; exact ⟨KeepsW.below (Below.refl _ _).drew, x, s, ok, rfl, k.below (Below.refl _ _).drew⟩
  have fA : Below W.heap.size W (W.alloc (.cells #[.int .i64 T.kind, .string ⟨T.name.toArray⟩] 52)).drew := (bA (Below.refl _ _) _).drew
  have SA : Hid (SS (W.alloc (.cells #[.int .i64 T.kind, .string ⟨T.name.toArray⟩] 52)).drew) := by rw [hSS]; exact ⟨KeepsW.below fA, x, s, ok, rfl, k.below fA⟩
  have HT : Hid (Calls Tryz.prog 117 #[.pointer (some ⟨C.X, 0, none⟩), .slice (some ⟨W.heap.size, 0, none⟩) 1 1] (W.alloc (.cells #[.int .i64 T.kind, .string ⟨T.name.toArray⟩] 52)).drew fun e w' => e = .returned (.bool true) ∧ SS w' ∧ Dp C W (pushD [T] x) e w') := by
    refine (w11push_k C x _ ok l s _ a (k.below fA) (some ⟨W.heap.size, 0, none⟩) 1 1 [T] (ls_drew (ls_one (cs := tyc) (sz := 2) W _ _ T rfl)) (fun e => by cases e) (fun t ht => by rw [List.mem_singleton.1 ht]; exact ok.ha T hTm) (by omega)).mono ?_
    rintro e w' ⟨h1, h2, ⟨s', h3⟩, h4⟩
    have h4' := (KeepsW.below fA).trans h4
    refine ⟨h1, ?_, h1, ⟨h2, _, _, _, _, h3⟩, h4'⟩
    rw [hSS]
    exact ⟨h4', _, s', h2, rfl, h3⟩
  have hlt1 : (n : Int) < ((n + 1 : Nat) : Int) := by omega
  have e4 : ((n : Int) + 1 - 1) = n := by omega
  have hnb : n ≤ 100000000 := by omega
  have hwr : IntKind.i64.wrap (n : Int) = n := by rw [IntKind.wrap_i64]; omega
  have hn0 : (0 : Int) ≤ (n : Int) := by omega
  have hn2 : (n : Int) < (n : Int) + 1 := by omega
  have hn3 : (n : Int).toNat = n := by omega
  clear k fA e1 hT hT0 h0 hSS hn1 e3 hTm q0 q1 ok hs
  generalize pushD [T] x = r at *
  go_enter Tryz.func89, Tryz.ntmps89
  go_wp2
  refine wp_region_txt SS [13, 14] (List.range 16) (by kernel_rfl) (by kernel_rfl) (unhide S0) ?_
  repeat (first
    | (refine Txt.reads (v := ?_) (by rfl) (by rfl) (by rfl) ?_ ?_; rotate_left; (focus ((intro W' hSW; obtain ⟨p0, p1, p2⟩ := unhide KS W' hSW; go_simp) <;> with_reducible rfl)); simp only [Act.put, List.setIfInBounds_toArray, List.set_cons_zero, List.set_cons_succ]))
  refine Txt.acts (by rfl) (by rfl) (by rfl) (fun K hK => ?_)
  go_simp
  refine hK.out _ _ (unhide SA) ?_
  clear hK
  refine Txt.acts (by rfl) (by rfl) (by rfl) (fun K hK => ?_)
  go_simp
  refine (unhide HT).mono ?_
  rintro e w3 ⟨rfl, s3, h3⟩
  have H3 := hide h3
  refine hK.out _ _ s3 ?_
  clear hK h3 s3 HT
  repeat (first
    | (refine Txt.reads (v := ?_) (by rfl) (by rfl) (by rfl) ?_ ?_; rotate_left; (focus ((intro W' hSW; go_simp) <;> with_reducible rfl)); simp only [Act.put, List.setIfInBounds_toArray, List.set_cons_zero, List.set_cons_succ]))
  refine Txt.done ?_
  go_wp2
  go_ret
  exact unhide H3
set_option maxHeartbeats 400000 in
theorem w11pushAnswer_any (C : Wcx) (x : Wst) (W : World) (k : WK C x W) (hC : Cok C) (hs : x.st.length + x.ha.length ≤ 100000000) :
    Calls Tryz.prog 102 #[.pointer (some ⟨C.X, 0, none⟩)] W fun e w' => Dp C W (pushAnswerD x) e w' := by
  have HT := hide (w11pushTold_any C x W k hC hs)
  obtain ⟨_, _, _, _, c0, c1⟩ := k.cel
  have HK := hide k
  clear k
  by_cases h0 : x.to_.kind = 0
  · have e1 : pushAnswerD x = some x := by unfold pushAnswerD; rw [if_pos h0]
    rw [e1]
    rw [h0] at c0
    clear HT e1 h0
    go_enter Tryz.func102, Tryz.ntmps102
    go_wp2
    go_ret
    exact ⟨rfl, unhide HK, KeepsW.refl _ _⟩
  · have e1 : pushAnswerD x = pushToldD x := by unfold pushAnswerD; rw [if_neg h0]
    rw [e1]
    have b0 : (x.to_.kind == 0) = false := by simpa using h0
    clear e1
    generalize pushToldD x = r at *
    go_enter Tryz.func102, Tryz.ntmps102
    go_wp2_with fail
    refine (unhide HT).mono ?_
    intro e w3 h3
    obtain ⟨b', rfl⟩ := h3.ret
    have H3 := hide h3
    clear h3 HT
    go_wp2
    go_ret
    exact unhide H3
set_option maxHeartbeats 400000 in
theorem w11answersInt_any (C : Wcx) (x : Wst) (W : World) (k : WK C x W) (hC : Cok C) : Calls Tryz.prog 91 #[.pointer (some ⟨C.X, 0, none⟩)] W fun e w' => Dp C W (answersD (isIntB C.p.bk) x) e w' := by
  have HF := hide (p11isInt_any W C.p.bk)
  obtain ⟨c0, c1, _, _, _, _⟩ := k.cel
  have HK := hide k
  clear k
  unfold tyV at HF
  generalize isIntB C.p.bk = R at *
  go_enter Tryz.func91, Tryz.ntmps91
  go_wp2_with fail
  refine (unhide HF).mono ?_
  rintro e w2 ⟨rfl, f2⟩
  have F2 := hide f2
  clear f2 HF
  go_wp2
  go_ret
  cases R
  · exact ⟨rfl, ⟨_, (unhide HK).below (unhide F2)⟩, KeepsW.below (unhide F2)⟩
  · exact ⟨rfl, (unhide HK).below (unhide F2), KeepsW.below (unhide F2)⟩
set_option maxHeartbeats 400000 in
theorem w11answersLong_any (C : Wcx) (x : Wst) (W : World) (k : WK C x W) (hC : Cok C) : Calls Tryz.prog 93 #[.pointer (some ⟨C.X, 0, none⟩)] W fun e w' => Dp C W (answersD (isLongB C.p.bk) x) e w' := by
  have HF := hide (p11isLong_any W C.p.bk)
  obtain ⟨c0, c1, _, _, _, _⟩ := k.cel
  have HK := hide k
  clear k
  unfold tyV at HF
  generalize isLongB C.p.bk = R at *
  go_enter Tryz.func93, Tryz.ntmps93
  go_wp2_with fail
  refine (unhide HF).mono ?_
  rintro e w2 ⟨rfl, f2⟩
  have F2 := hide f2
  clear f2 HF
  go_wp2
  go_ret
  cases R
  · exact ⟨rfl, ⟨_, (unhide HK).below (unhide F2)⟩, KeepsW.below (unhide F2)⟩
  · exact ⟨rfl, (unhide HK).below (unhide F2), KeepsW.below (unhide F2)⟩
set_option maxHeartbeats 400000 in
theorem w11answersReference_any (C : Wcx) (x : Wst) (W : World) (k : WK C x W) (hC : Cok C) : Calls Tryz.prog 94 #[.pointer (some ⟨C.X, 0, none⟩)] W fun e w' => Dp C W (answersD (decide (C.p.bk.kind = 4)) x) e w' := by
  obtain ⟨c0, c1, _, _, _, _⟩ := k.cel
  have HK := hide k
  clear k
  generalize C.p.bk.kind = K at *
  by_cases h : K = 4
  · subst h
    go_enter Tryz.func94, Tryz.ntmps94
    go_wp2
    go_ret
    exact ⟨rfl, unhide HK, KeepsW.refl _ _⟩
  · have b0 : (K == 4) = false := by simpa using h
    rw [decide_eq_false h]
    go_enter Tryz.func94, Tryz.ntmps94
    go_wp2
    go_ret
    exact ⟨rfl, ⟨_, unhide HK⟩, KeepsW.refl _ _⟩
set_option maxHeartbeats 400000 in
theorem w11answersNothing_any (C : Wcx) (x : Wst) (W : World) (k : WK C x W) (hC : Cok C) : Calls Tryz.prog 95 #[.pointer (some ⟨C.X, 0, none⟩)] W fun e w' => Dp C W (answersD (decide (C.p.bk.kind = 0)) x) e w' := by
  obtain ⟨c0, c1, _, _, _, _⟩ := k.cel
  have HK := hide k
  clear k
  generalize C.p.bk.kind = K at *
  by_cases h : K = 0
  · subst h
    go_enter Tryz.func95, Tryz.ntmps95
    go_wp2
    go_ret
    exact ⟨rfl, unhide HK, KeepsW.refl _ _⟩
  · have b0 : (K == 0) = false := by simpa using h
    rw [decide_eq_false h]
    go_enter Tryz.func95, Tryz.ntmps95
    go_wp2
    go_ret
    exact ⟨rfl, ⟨_, unhide HK⟩, KeepsW.refl _ _⟩
set_option maxHeartbeats 400000 in
theorem w11isNoArray_any (C : Wcx) (x : Wst) (W : World) (k : WK C x W) (hC : Cok C) : Calls Tryz.prog 104 #[.pointer (some ⟨C.X, 0, none⟩)] W fun e w' => Dp C W (isNoArrayD x) e w' := by
  have hn := k.ok.to_
  unfold nmOk at hn
  have HF := hide (yClass_any W ⟨x.to_.name.toArray⟩ x.to_.name ⟨rfl⟩ (by omega))
  obtain ⟨_, _, _, _, c0, c1⟩ := k.cel
  have HK := hide k
  clear k
  have e1 : isNoArrayD x = if clsB x.to_.name = true then some x else none := rfl
  rw [e1]
  clear e1 hn
  generalize clsB x.to_.name = R at *
  cases R with
  | true =>
    go_enter Tryz.func104, Tryz.ntmps104
    go_wp2_with fail
    refine (unhide HF).mono ?_
    rintro e w2 ⟨rfl, hw⟩
    subst hw
    clear HF
    go_wp2
    go_ret
    exact ⟨rfl, unhide HK, KeepsW.refl _ _⟩
  | false =>
    go_enter Tryz.func104, Tryz.ntmps104
    go_wp2_with fail
    refine (unhide HF).mono ?_
    rintro e w2 ⟨rfl, hw⟩
    subst hw
    clear HF
    go_wp2
    go_ret
    exact ⟨rfl, ⟨_, unhide HK⟩, KeepsW.refl _ _⟩
set_option maxHeartbeats 400000 in
theorem w11pushNumbers_any (C : Wcx) (x : Wst) (W : World) (k : WK C x W) (hC : Cok C) (hs : x.st.length + x.ha.length ≤ 100000000) :
    Calls Tryz.prog 105 #[.pointer (some ⟨C.X, 0, none⟩)] W fun e w' => Dp C W (pushNumbersD C.p.A x) e w' := by
  have HR : Hid (∀ S, Calls Tryz.prog 25 #[.string S] W fun e w' => e = .returned (.agg #[.int .i64 4, .string S]) ∧ Below W.heap.size W w') := fun S => p11ref_any W S
  have HT : Hid (∀ W' (S : List UInt8), Below W.heap.size W W' → S.length ≤ 100 → Calls Tryz.prog 117 #[.pointer (some ⟨C.X, 0, none⟩), .slice (some ⟨W'.heap.size, 0, none⟩) 1 1] (W'.alloc (.cells #[.int .i64 4, .string ⟨S.toArray⟩] 52)) fun e w' => Dp C W (pushD [refT S] x) e w') := fun W' S f hS => by
    have f1 := bA f (.cells #[.int .i64 4, .string ⟨S.toArray⟩] 52)
    exact (w11push_any C x _ (k.below f1) (some ⟨W'.heap.size, 0, none⟩) 1 1 [refT S] (ls_one (cs := tyc) (sz := 2) W' _ _ (refT S) rfl) (fun e => by cases e) (fun t ht => by rw [List.mem_singleton.1 ht]; unfold nmOk refT; simp; omega) (by omega)).mono fun e w' h => h.pre (KeepsW.below f1)
  have c6 := k.c56.2
  have HK := hide k
  unfold pushNumbersD
  clear k
  generalize C.p.A = A at *
  by_cases h8 : A = 8
  · subst h8
    have HT2 := fun W' f => unhide HT W' [91, 66] f (by decide)
    have HT3 := hide HT2
    simp only [reduceIte, show ((8 : Int) = 10) = False by decide, show ((8 : Int) = 11) = False by decide]
    clear HT HT2
    generalize pushD [refT [91, 66]] x = r at *
    go_enter Tryz.func105, Tryz.ntmps105
    go_wp2_with fail
    refine (unhide HR ⟨#[91, 66]⟩).mono ?_
    rintro e w2 ⟨rfl, f2⟩
    have HT4 := hide (unhide HT3 w2 f2)
    clear f2 HT3 HR
    go_wp2_with fail
    refine (unhide HT4).mono ?_
    intro e w3 h3
    obtain ⟨b', rfl⟩ := h3.ret
    have H3 := hide h3
    clear h3 HT4
    go_wp2
    go_ret
    exact unhide H3
  by_cases h10 : A = 10
  · subst h10
    have HT2 := fun W' f => unhide HT W' [91, 73] f (by decide)
    have HT3 := hide HT2
    simp only [reduceIte, show ((10 : Int) = 8) = False by decide, show ((10 : Int) = 11) = False by decide]
    clear HT HT2
    generalize pushD [refT [91, 73]] x = r at *
    go_enter Tryz.func105, Tryz.ntmps105
    go_wp2_with fail
    refine (unhide HR ⟨#[91, 73]⟩).mono ?_
    rintro e w2 ⟨rfl, f2⟩
    have HT4 := hide (unhide HT3 w2 f2)
    clear f2 HT3 HR
    go_wp2_with fail
    refine (unhide HT4).mono ?_
    intro e w3 h3
    obtain ⟨b', rfl⟩ := h3.ret
    have H3 := hide h3
    clear h3 HT4
    go_wp2
    go_ret
    exact unhide H3
  by_cases h11 : A = 11
  · subst h11
    have HT2 := fun W' f => unhide HT W' [91, 74] f (by decide)
    have HT3 := hide HT2
    simp only [reduceIte, show ((11 : Int) = 8) = False by decide, show ((11 : Int) = 10) = False by decide]
    clear HT HT2
    generalize pushD [refT [91, 74]] x = r at *
    go_enter Tryz.func105, Tryz.ntmps105
    go_wp2_with fail
    refine (unhide HR ⟨#[91, 74]⟩).mono ?_
    rintro e w2 ⟨rfl, f2⟩
    have HT4 := hide (unhide HT3 w2 f2)
    clear f2 HT3 HR
    go_wp2_with fail
    refine (unhide HT4).mono ?_
    intro e w3 h3
    obtain ⟨b', rfl⟩ := h3.ret
    have H3 := hide h3
    clear h3 HT4
    go_wp2
    go_ret
    exact unhide H3
  have b8 : (A == 8) = false := by simpa using h8
  have b10 : (A == 10) = false := by simpa using h10
  have b11 : (A == 11) = false := by simpa using h11
  rw [if_neg h8, if_neg h10, if_neg h11]
  clear HT HR
  go_enter Tryz.func105, Tryz.ntmps105
  go_wp2
  go_ret
  exact ⟨rfl, ⟨_, unhide HK⟩, KeepsW.refl _ _⟩
end Go.Proofs.YthenefjoidckkaaGreatDoor

/- Layer 11: popPair, popArguments, pushBack. -/
namespace Go.Proofs.YthenefjoidckkaaGreatDoor
open Go.RowKit
set_option linter.unusedVariables false
set_option maxRecDepth 100000

theorem takeD_some {fit : Ty → Bool} {x y : Wst} (h : takeD fit x = some y) : ∃ t, x.st.getLast? = some t ∧ fit t = true ∧ y = { x with st := x.st.dropLast, ha := x.ha ++ [t] } := by
  unfold takeD at h
  cases hl : x.st.getLast? with
  | none => rw [hl] at h; cases h
  | some t =>
    rw [hl] at h
    simp only at h
    split at h
    · rename_i hf
      injection h with h
      exact ⟨t, rfl, hf, h.symm⟩
    · cases h
theorem takeD_size {fit : Ty → Bool} {x y : Wst} (h : takeD fit x = some y) : y.st.length + y.ha.length = x.st.length + x.ha.length ∧ y.lo = x.lo ∧ y.ar = x.ar ∧ y.ow = x.ow ∧ y.to_ = x.to_ ∧ y.ha ≠ [] := by
  obtain ⟨t, h1, _, rfl⟩ := takeD_some h
  have : x.st ≠ [] := fun e => by rw [e] at h1; cases h1
  have := List.length_pos_iff.2 this
  simp only [List.length_dropLast, List.length_append, List.length_singleton]
  exact ⟨by omega, by simp⟩
set_option maxHeartbeats 800000 in
theorem w11popPair_any (C : Wcx) (x : Wst) (W : World) (k : WK C x W) (hC : Cok C) (hs : x.st.length + x.ha.length ≤ 100000000) :
    Calls Tryz.prog 88 #[.pointer (some ⟨C.X, 0, none⟩)] W fun e w' => Dp C W (popPairD x) e w' := by
  have HT := hide (w11take_any C x W k 121 #[] (enters_of Tryz.func121 (by kernel_rfl) rfl) isLongB (fun t ht => p11isLong_any W t) (by omega))
  clear k
  cases h1 : takeD isLongB x with
  | some y =>
    rw [h1] at HT
    have e1 : popPairD x = some y := by unfold popPairD; rw [h1]
    rw [e1]
    clear h1 e1
    go_enter Tryz.func88, Tryz.ntmps88
    go_wp2_with fail
    refine (unhide HT).mono ?_
    rintro e w1 ⟨⟨rfl, h1, h2⟩, _⟩
    have H1 := hide (And.intro h1 h2)
    clear h1 h2 HT
    go_wp2
    go_ret
    exact ⟨rfl, (unhide H1).1, (unhide H1).2⟩
  | none =>
    rw [h1] at HT
    have e1 : popPairD x = (takeD singleB x).bind (takeD singleB) := by unfold popPairD; rw [h1]
    rw [e1]
    clear h1 e1
    cases h2 : takeD singleB x with
    | none =>
      simp only [Option.bind_none]
      have HP : Hid (∀ w1, WK C x w1 → Calls Tryz.prog 87 #[.pointer (some ⟨C.X, 0, none⟩)] w1 fun e w' => e = .returned (.bool false) ∧ (∃ x', WK C x' w') ∧ KeepsW C w1 w') := fun w1 k1 => (w11popSingle_any C x w1 k1 hC hs).mono fun e w' h => by rw [h2] at h; exact h.1
      clear h2
      go_enter Tryz.func88, Tryz.ntmps88
      go_wp2_with fail
      refine (unhide HT).mono ?_
      rintro e w1 ⟨⟨rfl, _, h2⟩, h3⟩
      have HP1 := hide (unhide HP w1 (h3 rfl))
      have H2 := hide h2
      clear h2 h3 HT HP
      go_wp2_with fail
      refine (unhide HP1).mono ?_
      rintro e w2 ⟨rfl, h4, h5⟩
      have H4 := hide (And.intro h4 ((unhide H2).trans h5))
      clear h4 h5 HP1 H2
      go_wp2
      go_ret
      exact ⟨rfl, (unhide H4).1, (unhide H4).2⟩
    | some y =>
      simp only [Option.bind_some]
      have hy := (takeD_size h2).1
      have HP : Hid (∀ w1, WK C x w1 → Calls Tryz.prog 87 #[.pointer (some ⟨C.X, 0, none⟩)] w1 fun e w' => e = .returned (.bool true) ∧ WK C y w' ∧ KeepsW C w1 w') := fun w1 k1 => (w11popSingle_any C x w1 k1 hC hs).mono fun e w' h => by rw [h2] at h; exact h.1
      have HQ : Hid (∀ w1, WK C y w1 → Calls Tryz.prog 87 #[.pointer (some ⟨C.X, 0, none⟩)] w1 fun e w' => Dp C w1 (takeD singleB y) e w') := fun w1 k1 => (w11popSingle_any C y w1 k1 hC (by omega)).mono fun e w' h => h.1
      clear h2 hy
      generalize takeD singleB y = r at *
      go_enter Tryz.func88, Tryz.ntmps88
      go_wp2_with fail
      refine (unhide HT).mono ?_
      rintro e w1 ⟨⟨rfl, _, h2⟩, h3⟩
      have HP1 := hide (unhide HP w1 (h3 rfl))
      have H2 := hide h2
      clear h2 h3 HT HP
      go_wp2_with fail
      refine (unhide HP1).mono ?_
      rintro e w2 ⟨rfl, h4, h5⟩
      have HQ2 := hide (unhide HQ w2 h4)
      have H5 := hide ((unhide H2).trans h5)
      clear h4 h5 HP1 H2 HQ
      go_wp2_with fail
      refine (unhide HQ2).mono ?_
      intro e w3 h3
      obtain ⟨b', rfl⟩ := h3.ret
      have H3 := hide (h3.pre (unhide H5))
      clear h3 HQ2 H5
      go_wp2
      go_ret
      exact unhide H3
theorem Wk.argAt {C : Wcx} {x : Wst} {l s h a : Sl} {W : World} (k : Wk C x l s h a W) {n : Nat} {T : Ty} (hT : x.ar[n]? = some T) : ∃ b o, a.a = some ⟨b, o, none⟩ ∧ W.cell? ⟨b, o + n * 2, none⟩ = some (.int .i64 T.kind) ∧ W.cell? ⟨b, o + n * 2 + 1, none⟩ = some (.string ⟨T.name.toArray⟩) ∧ n < a.n := by
  have hL := k.oa.ls rkT
  have e3 := (WK.len k).2.2.2
  have hlt := (List.getElem?_eq_some_iff.1 hT).1
  obtain ⟨b, o, hta, hr⟩ := hL.row (w' := W) (by omega)
  exact ⟨b, o, hta, (hr (Below.refl _ _) n T hT).zero, (hr (Below.refl _ _) n T hT) 1 _ rfl, by omega⟩
theorem take_rev {α : Type} {l : List α} {k : Nat} {t : α} (h : l[k]? = some t) : (l.take (k + 1)).reverse = t :: (l.take k).reverse := by
  have hk := (List.getElem?_eq_some_iff.1 h).1
  rw [List.take_succ_eq_append_getElem hk, (List.getElem?_eq_some_iff.1 h).2, List.reverse_append]
  rfl
set_option maxHeartbeats 800000 in
theorem w11popArguments_any (C : Wcx) (x : Wst) (W : World) (k : WK C x W) (hC : Cok C) (hs : x.st.length + x.ha.length ≤ 100000000) (har : x.ar.length ≤ 1000000) :
    Calls Tryz.prog 101 #[.pointer (some ⟨C.X, 0, none⟩)] W fun e w' => Dp C W (popArgsD C.p.cl x) e w' := by
  have HK := hide k
  obtain ⟨ok, l, s, h, ⟨aa, an, ac⟩, k⟩ := k
  have e4 := (WK.len k).2.2.2
  simp only at e4
  have c14 : W.cell? ⟨C.X, 14, none⟩ = some (.slice aa an ac) := bx_cell k.blk 14 _ rfl
  have hanb : an ≤ 1000000 := by omega
  have hwr : IntKind.i64.wrap ((an : Int) - 1) = (an : Int) - 1 := by rw [IntKind.wrap_i64]; omega
  obtain ⟨r, hr⟩ : ∃ r, r = popArgsD C.p.cl x := ⟨_, rfl⟩
  rw [← hr]
  have HR : Hid (popL C.p.cl (x.ar.take an).reverse x = r) := by show _ = r; rw [hr, List.take_of_length_le (by omega)]; rfl
  have E4 := hide e4
  have HS := hide hs
  clear k hr ok e4 hs
  go_enter Tryz.func101, Tryz.ntmps101
  go_wp2
  go_loopw [3] (fun vk wr => ∃ (j : Nat) (y : Wst), j ≤ an ∧ vk = .int .i64 ((j : Int) - 1) ∧ Hid (WK C y wr) ∧ Hid (y.ar = x.ar) ∧ Hid (y.st.length + y.ha.length ≤ 100000000) ∧ Hid (popL C.p.cl (x.ar.take j).reverse y = r) ∧ Hid (KeepsW C W wr)) (fun vk _ => (intOf vk + 1).toNat)
  case atStart => exact ⟨an, x, Nat.le_refl _, rfl, HK, rfl, HS, HR, KeepsW.refl _ _⟩
  case round =>
    obtain ⟨j, y, hj, rfl, HKy, HA, HSy, HRy, HKP⟩ := hrel
    cases j with
    | zero =>
      have HR1 : Hid (r = some y) := (unhide HRy).symm
      clear HRy HSy HA
      go_wp2
      go_ret
      rw [unhide HR1]
      exact ⟨rfl, unhide HKy, unhide HKP⟩
    | succ j =>
      obtain ⟨T, hT⟩ : ∃ T, x.ar[j]? = some T := ⟨_, List.getElem?_eq_getElem (by have := unhide E4; omega)⟩
      have hTy : y.ar[j]? = some T := by rw [unhide HA]; exact hT
      have hP := w11pop_any C y wr (unhide HKy) hC T ((unhide HKy).ok.ar T (List.mem_of_getElem? hTy)) (by have := unhide HSy; omega)
      obtain ⟨_, l', s', h', ⟨a', n', c'⟩, ky⟩ := unhide HKy
      obtain ⟨b, o, hta, q0, q1, hlt⟩ := ky.argAt hTy
      simp only at hta hlt
      subst hta
      have c14' : wr.cell? ⟨C.X, 14, none⟩ = some (.slice (some ⟨b, o, none⟩) n' c') := bx_cell ky.blk 14 _ rfl
      have hz : ((j + 1 : Nat) : Int) - 1 = j := by omega
      have hlt1 : (j : Int) < (n' : Int) := by omega
      have hwj : IntKind.i64.wrap ((j : Int) - 1) = (j : Int) - 1 := by rw [IntKind.wrap_i64]; omega
      have hge : (j : Int) ≥ 0 := by omega
      have HP := hide hP
      unfold tyV at HP
      rw [take_rev hT, popL] at HRy
      rw [hz]
      clear hP ky hT hTy hz
      cases hd : popD C.p.cl T y with
      | none =>
        rw [hd] at HP HRy
        have HR1 : Hid (r = none) := (unhide HRy).symm
        clear HRy hd
        go_wp2_with fail
        refine (unhide HP).mono ?_
        rintro e w1 ⟨⟨rfl, h1, h2⟩, _⟩
        have H1 := hide (And.intro h1 ((unhide HKP).trans h2))
        clear h1 h2 HP
        go_wp2
        go_ret
        rw [unhide HR1]
        exact ⟨rfl, (unhide H1).1, (unhide H1).2⟩
      | some z =>
        rw [hd] at HP HRy
        obtain ⟨z1, _, z3, _⟩ := takeD_size hd
        have HR1 : Hid (popL C.p.cl (x.ar.take j).reverse z = r) := unhide HRy
        have HZ1 : Hid (z.st.length + z.ha.length ≤ 100000000) := by have := unhide HSy; show _ ≤ _; omega
        have HZ3 : Hid (z.ar = x.ar) := z3.trans (unhide HA)
        clear HRy hd z1 z3 HSy HA
        go_wp2_with fail
        refine (unhide HP).mono ?_
        rintro e w1 ⟨⟨rfl, h1, h2⟩, _⟩
        have H1 := hide h1
        have H2 := hide ((unhide HKP).trans h2)
        clear h1 h2 HP
        go_wp2
        go_roundw
        case rel => exact ⟨j, z, by omega, rfl, H1, HZ3, HZ1, HR1, H2⟩
        case measure => simp [intOf]
set_option maxHeartbeats 800000 in
theorem w11pushBack_any (C : Wcx) (x : Wst) (W : World) (k : WK C x W) (hC : Cok C) (hs : x.st.length + x.ha.length ≤ 100000000) :
    Calls Tryz.prog 90 #[.pointer (some ⟨C.X, 0, none⟩)] W fun e w' => Dp C W (pushBackD x) e w' := by
  have HK := hide k
  obtain ⟨ok, l, s, ⟨aa, an, ac⟩, a, k⟩ := k
  have e4 := (WK.len k).2.2.1
  simp only at e4
  obtain ⟨_, _, _, _, _, c11, _⟩ := k.cells
  simp only at c11
  have hanb : an ≤ 100000000 := by omega
  have hwr : IntKind.i64.wrap ((an : Int) - 1) = (an : Int) - 1 := by rw [IntKind.wrap_i64]; omega
  have HD : Hid (pushBackD x = some { x with st := x.st ++ x.ha.reverse }) := rfl
  have H0 : Hid (x.ha.drop an = []) := List.drop_of_length_le (by omega)
  have E4 := hide e4
  have HS := hide hs
  clear k ok e4 hs
  generalize pushBackD x = r at *
  go_enter Tryz.func90, Tryz.ntmps90
  go_wp2
  go_loopw [3] (fun vk wr => ∃ (j : Nat), j ≤ an ∧ vk = .int .i64 ((j : Int) - 1) ∧ Hid (WK C { x with st := x.st ++ (x.ha.drop j).reverse } wr) ∧ Hid (KeepsW C W wr)) (fun vk _ => (intOf vk + 1).toNat)
  case atStart => exact ⟨an, Nat.le_refl _, rfl, by rw [unhide H0, List.reverse_nil, List.append_nil]; exact HK, KeepsW.refl _ _⟩
  case round =>
    obtain ⟨j, hj, rfl, HKy, HKP⟩ := hrel
    cases j with
    | zero =>
      rw [List.drop_zero] at HKy
      go_wp2
      go_ret
      rw [unhide HD]
      exact ⟨rfl, unhide HKy, unhide HKP⟩
    | succ j =>
      have hjl : j < x.ha.length := by have := unhide E4; omega
      obtain ⟨T, hT⟩ : ∃ T, x.ha[j]? = some T := ⟨_, List.getElem?_eq_getElem hjl⟩
      obtain ⟨y, hy⟩ : ∃ y, y = { x with st := x.st ++ (x.ha.drop (j + 1)).reverse } := ⟨_, rfl⟩
      have hyst : y.st.length + 1 ≤ 1000000000 := by rw [hy]; have := unhide HS; simp; omega
      have hTy : y.ha[j]? = some T := by rw [hy]; exact hT
      have hpd : pushD [T] y = some { x with st := x.st ++ (x.ha.drop j).reverse } := by
        rw [hy]
        unfold pushD
        simp only [List.append_assoc]
        rw [List.drop_eq_getElem_cons hjl, (List.getElem?_eq_some_iff.1 hT).2, List.reverse_cons]
      rw [← hy] at HKy
      have f1 : Below wr.heap.size wr (wr.alloc (.cells #[.int .i64 T.kind, .string ⟨T.name.toArray⟩] 52)) := bA (Below.refl _ _) _
      have hP := (w11push_any C y _ ((unhide HKy).below f1) (some ⟨wr.heap.size, 0, none⟩) 1 1 [T] (ls_one (cs := tyc) (sz := 2) wr _ _ T rfl) (fun e => by cases e) (fun t ht => by rw [List.mem_singleton.1 ht]; exact (unhide HKy).ok.ha T (List.mem_of_getElem? hTy)) hyst).mono fun e w' h => h.pre (KeepsW.below (C := C) f1)
      rw [hpd] at hP
      obtain ⟨_, l', s', ⟨a', n', c'⟩, h', ky⟩ := unhide HKy
      obtain ⟨b, o, hta, q0, q1, hlt⟩ := ky.handAt hTy
      simp only at hta hlt
      subst hta
      have c11' : wr.cell? ⟨C.X, 11, none⟩ = some (.slice (some ⟨b, o, none⟩) n' c') := ky.cells.2.2.2.2.2.1
      have hz : ((j + 1 : Nat) : Int) - 1 = j := by omega
      have hlt1 : (j : Int) < (n' : Int) := by omega
      have hwj : IntKind.i64.wrap ((j : Int) - 1) = (j : Int) - 1 := by rw [IntKind.wrap_i64]; omega
      have hge : (j : Int) ≥ 0 := by omega
      have HP := hide hP
      rw [hz]
      clear hP ky hT hTy hz f1 hpd hy HKy hyst hjl
      go_wp2_with fail
      refine (unhide HP).mono ?_
      rintro e w1 ⟨rfl, h1, h2⟩
      have H1 := hide h1
      have H2 := hide ((unhide HKP).trans h2)
      clear h1 h2 HP
      go_wp2
      go_roundw
      case rel => exact ⟨j, by omega, rfl, H1, H2⟩
      case measure => simp [intOf]
end Go.Proofs.YthenefjoidckkaaGreatDoor
