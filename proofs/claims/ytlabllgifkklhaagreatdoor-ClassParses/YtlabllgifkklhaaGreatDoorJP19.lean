/- Joined: CrD CrE CrF CrG CrH. -/
import Derived.Test.YtlabllgifkklhaaGreatDoorJP17
import Derived.Test.YtlabllgifkklhaaGreatDoorJP18
import Derived.Test.YtlabllgifkklhaaGreatDoorJP9
import Derived.Test.YtlabllgifkklhaaGreatDoorJP11
import Derived.LoopN
set_option linter.unusedVariables false
set_option maxRecDepth 100000
set_option maxHeartbeats 800000
namespace Go.Proofs.YtlabllgifkklhaaGreatDoor
open Go.RowKit
theorem FX.tab {C:Cr} {w w':World} (f:FX C w w') (h1:1≤C.B) (h:Tab8 w):Tab8 w':=fun i hi=>by
 have:=h i hi;rw [World.cell?_of_block (w:=w) (w':=w')]
 · exact this
 · exact f.below.block 0 (by omega)
theorem Rd8.cells {C:Cr} {i:Nat} {en:Bool} {W:World} (h:Rd8 C i en W) {R:Nat} {Z:Array Value} {T:TypeId} (hR:W.heap[R]?=some (.cells Z T (0,0))) (hT:¬(T=127∨T=159∨T=5∨T=55)) (o:Nat) (vs:List Value):Rd8 C i en (W.setCells R o vs):=
 h.keep fun k Z' T' hk hT'=>heap_cells_other R vs o W k fun e=>by
  subst e;rw [hR] at hk;injection hk with hk
  injection hk with _ hk
  subst hk;exact hT hT'
theorem FX.cells {C:Cr} {w W:World} (f:FX C w W) {R:Nat} (hR:w.heap.size≤R) (hB:C.B≤w.heap.size) (o:Nat) (vs:List Value):FX C w (W.setCells R o vs):=
 ⟨below_cells vs o f.below (Nat.le_trans hB hR),fun k hk hn=>(heap_cells_other R vs o W k (by omega)).trans (f.other k hk hn)⟩
theorem bx_cells {R:Nat} {T:TypeId}:∀(vs A P:List Value) (W:World),W.heap[R]?=some (.cells (A++P).toArray T (0,0))→P.length=vs.length→(W.setCells R A.length vs).heap[R]?=some (.cells (A++vs).toArray T (0,0))
 | [],A,P,W,h,hl=>by
  obtain rfl:=List.eq_nil_of_length_eq_zero hl;exact h
 | v::vs,A,[],W,h,hl=>by simp at hl
 | v::vs,A,p::P,W,h,hl=>by
  have h1:=heap_setCell_same W R A.length _ _ v h;have e1:(A++p::P).toArray.setIfInBounds A.length v=((A++[v])++P).toArray:=by
   apply Array.ext';simp
  rw [e1] at h1;have h2:=bx_cells vs (A++[v]) P _ h1 (by simpa using hl);rw [List.length_append,List.length_cons,List.length_nil,List.append_assoc] at h2;exact h2
theorem bx_whole {R:Nat} {T:TypeId} {W:World} (P vs:List Value) (h:W.heap[R]?=some (.cells P.toArray T (0,0))) (hl:P.length=vs.length):(W.setCells R 0 vs).heap[R]?=some (.cells vs.toArray T (0,0)):=bx_cells vs [] P W h hl
theorem fit4 {n:Int} {P:Prop} (h:0≤n∧n<4294967296∧P):fitI n:=by obtain ⟨h1,h2,_⟩:=h;unfold fitI;omega
theorem sizeHandler8:(Tryz.prog.info? 93).map (·.size)=some 4:=by kernel_rfl
theorem sizeField8:(Tryz.prog.info? 58).map (·.size)=some 3:=by kernel_rfl
theorem sizeType8:(Tryz.prog.info? 143).map (·.size)=some 2:=by kernel_rfl
theorem rHandler_any (C:Cr) (i:Nat) (en:Bool) (w:World) (h:Rd8 C i en w) :
 Calls Tryz.prog 149 #[.pointer (some ⟨C.X,0,none⟩)] w fun e w'=>∃x i' en',e=.returned (.agg (hdc x).toArray)∧HdFit x∧Got hdR C.bs i en x i' en'∧Rd8 C i' en' w'∧FX C w w':=by
 have hB:=h.hB;obtain ⟨w0,e0,f0,r0⟩:∃w0,w.alloc (.cells #[.int .i64 0,.int .i64 0,.int .i64 0,.int .i64 0] 93)=w0∧Below w.heap.size w w0∧w0.heap[w.heap.size]?=some (.cells #[.int .i64 0,.int .i64 0,.int .i64 0,.int .i64 0] 93 (0,0)):=⟨_,rfl,(Below.refl _ _).alloc (Nat.le_refl _) _,heap_alloc_new w _⟩;have R0:=h.below f0;have F0:FX C w w0:=(FX.refl C w).on f0 hB;have HN:=hide (rNumber_any C i en w0 R0 2 (by omega));have H0:=hide (And.intro R0 (And.intro F0 r0));clear h f0 r0 R0 F0;go_enter Tryz.func149,Tryz.ntmps149;go_wp2_with fail;refine (unhide HN).mono ?_;rintro e w1 ⟨n1,j1,e1,rfl,b1,g1,R1,f1⟩;clear HN;have H1:=hide (And.intro b1 (And.intro g1 (And.intro R1 f1)));have HN:=hide (rNumber_any C j1 e1 w1 R1 2 (by omega));clear b1 g1 R1 f1 e0;go_wp2_with fail;refine (unhide HN).mono ?_;rintro e w2 ⟨n2,j2,e2,rfl,b2,g2,R2,f2⟩;clear HN;have H2:=hide (And.intro b2 (And.intro g2 (And.intro R2 f2)));have HN:=hide (rNumber_any C j2 e2 w2 R2 2 (by omega));clear b2 g2 R2 f2;go_wp2_with fail;refine (unhide HN).mono ?_;rintro e w3 ⟨n3,j3,e3,rfl,b3,g3,R3,f3⟩;clear HN;have H3:=hide (And.intro b3 (And.intro g3 (And.intro R3 f3)));have HN:=hide (rNumber_any C j3 e3 w3 R3 2 (by omega));clear b3 g3 R3 f3;go_wp2_with fail;refine (unhide HN).mono ?_;rintro e w4 ⟨n4,j4,e4,rfl,b4,g4,R4,f4⟩;clear HN;obtain ⟨R0,F0,r0⟩:=unhide H0;obtain ⟨b1,g1,R1,f1⟩:=unhide H1;obtain ⟨b2,g2,R2,f2⟩:=unhide H2;obtain ⟨b3,g3,R3,f3⟩:=unhide H3;have r4:=R0.blk (f1.trans (f2.trans (f3.trans f4))) r0 (by decide) (by decide);have c0:=bx_cell r4 0 _ rfl;have c1:=bx_cell r4 1 _ rfl;have c2:=bx_cell r4 2 _ rfl;have c3:=bx_cell r4 3 _ rfl;have z0:=bx_thaw r4 0;have z1:=bx_thaw r4 1;have z2:=bx_thaw r4 2;have z3:=bx_thaw r4 3;have HG:Hid (Got hdR C.bs i en ⟨n1,n2,n3,n4⟩ j4 e4):=hide ⟨fun e=>g4.1 (g3.1 (g2.1 (g1.1 e))),fun e v0 r hr=>by
  unfold hdR at hr;obtain ⟨⟨m1,s1⟩,ha,hr⟩:=Option.bind_eq_some_iff.1 hr;obtain ⟨rfl,k1,d1⟩:=g1.2 e _ _ ha;simp only at hr;rw [←d1] at hr;obtain ⟨⟨m2,s2⟩,ha,hr⟩:=Option.bind_eq_some_iff.1 hr;obtain ⟨rfl,k2,d2⟩:=g2.2 k1 _ _ ha;simp only at hr;rw [←d2] at hr;obtain ⟨⟨m3,s3⟩,ha,hr⟩:=Option.bind_eq_some_iff.1 hr;obtain ⟨rfl,k3,d3⟩:=g3.2 k2 _ _ ha;simp only at hr;rw [←d3] at hr;obtain ⟨⟨m4,s4⟩,ha,hr⟩:=Option.bind_eq_some_iff.1 hr;obtain ⟨rfl,k4,d4⟩:=g4.2 k3 _ _ ha;injection hr with hr
  injection hr with h1 h2
  exact ⟨h1,k4,d4.trans h2⟩⟩
 have HF:=hide (show HdFit ⟨n1,n2,n3,n4⟩ from ⟨fit4 b1,fit4 b2,fit4 b3,fit4 b4⟩);have HR:=hide (And.intro R4 (And.intro (F0.trans (f1.trans (f2.trans (f3.trans f4)))) r4));clear H0 H1 H2 H3 R0 F0 r0 b1 g1 R1 f1 b2 g2 R2 f2 b3 g3 R3 f3 b4 g4 R4 f4 r4;go_wp2_with fail;obtain ⟨R4,F4,r4⟩:=unhide HR;refine bodyPost_ret (v:=.agg (hdc ⟨n1,n2,n3,n4⟩).toArray) ?_ rfl ⟨⟨n1,n2,n3,n4⟩,j4,e4,rfl,unhide HF,unhide HG,R4.cells r4 (by decide) 0 (hdc ⟨n1,n2,n3,n4⟩),F4.cells (Nat.le_refl _) hB 0 (hdc ⟨n1,n2,n3,n4⟩)⟩;exact results_cell_row Tryz.results149 _ _ w.heap.size 93 _ (0,0) _ rfl (bx_whole [.int .i64 0,.int .i64 0,.int .i64 0,.int .i64 0] (hdc ⟨n1,n2,n3,n4⟩) r4 rfl) Tryz.underlying93 rfl sizeHandler8
theorem got_bind {α γ:Type} {o:List UInt8→Option (α×List UInt8)} {bs:List UInt8} {i i1:Nat} {en e1:Bool} {v:α} (g:Got o bs i en v i1 e1) (e:en=false) {k:α×List UInt8→Option γ} {z:γ} (hr:(o (bs.drop i)).bind k=some z):e1=false∧k (v,bs.drop i1)=some z:=by
 obtain ⟨⟨m,s⟩,ha,hr⟩:=Option.bind_eq_some_iff.1 hr;obtain ⟨rfl,k1,d1⟩:=g.2 e _ _ ha;exact ⟨k1,by rw [d1];exact hr⟩
theorem got_end {α:Type} {v v0:α} {s r:List UInt8} (h:some (v,s)=some (v0,r)):v=v0∧s=r:=by
 injection h with h
 injection h with h1 h2
 exact ⟨h1,h2⟩
def Txt8 (l:List Ent) (s:List UInt8):Prop:=s=[]∨∃x∈l,s=x.text
theorem rField_any (C:Cr) (i:Nat) (en:Bool) (w:World) (h:Rd8 C i en w) :
 Calls Tryz.prog 101 #[.pointer (some ⟨C.X,0,none⟩)] w fun e w'=>∃x i' en',e=.returned (.agg (fdc x).toArray)∧(fitI x.acc∧Txt8 C.l x.name∧Txt8 C.l x.type)∧Got (fieldR C.l) C.bs i en x i' en'∧Rd8 C i' en' w'∧FX C w w':=by
 have hB:=h.hB;obtain ⟨w0,e0,f0,r0⟩:∃w0,w.alloc (.cells #[.int .i64 0,.string ⟨#[]⟩,.string ⟨#[]⟩] 58)=w0∧Below w.heap.size w w0∧w0.heap[w.heap.size]?=some (.cells #[.int .i64 0,.string ⟨#[]⟩,.string ⟨#[]⟩] 58 (0,0)):=⟨_,rfl,(Below.refl _ _).alloc (Nat.le_refl _) _,heap_alloc_new w _⟩;have R0:=h.below f0;have F0:FX C w w0:=(FX.refl C w).on f0 hB;have HN:=hide (rNumber_any C i en w0 R0 2 (by omega));have H0:=hide (And.intro R0 (And.intro F0 r0));clear h f0 r0 R0 F0;go_enter Tryz.func101,Tryz.ntmps101;go_wp2_with fail;refine (unhide HN).mono ?_;rintro e w1 ⟨n1,j1,e1,rfl,b1,g1,R1,f1⟩;clear HN;have H1:=hide (And.intro b1 (And.intro g1 (And.intro R1 f1)));have HN:=hide (rText_any C j1 e1 w1 R1);clear b1 g1 R1 f1 e0;go_wp2_with fail;refine (unhide HN).mono ?_;rintro e w2 ⟨n2,j2,e2,rfl,b2,g2,R2,f2⟩;clear HN;have H2:=hide (And.intro b2 (And.intro g2 (And.intro R2 f2)));have HN:=hide (rText_any C j2 e2 w2 R2);clear b2 g2 R2 f2;go_wp2_with fail;refine (unhide HN).mono ?_;rintro e w3 ⟨n3,j3,e3,rfl,b3,g3,R3,f3⟩;clear HN;obtain ⟨w4,e4,b4,r4⟩:∃w4,w3.alloc (.cells #[.int .i64 n1,.string ⟨n2.toArray⟩,.string ⟨n3.toArray⟩] 58)=w4∧Below w3.heap.size w3 w4∧w4.heap[w3.heap.size]?=some (.cells #[.int .i64 n1,.string ⟨n2.toArray⟩,.string ⟨n3.toArray⟩] 58 (0,0)):=⟨_,rfl,(Below.refl _ _).alloc (Nat.le_refl _) _,heap_alloc_new w3 _⟩;have H3:=hide (And.intro b3 (And.intro g3 (And.intro R3 f3)));have H4:=hide (And.intro b4 r4);clear b3 g3 R3 f3 b4 r4;go_wp2_with fail;obtain ⟨b3,g3,R3,f3⟩:=unhide H3;obtain ⟨b4,r4⟩:=unhide H4;clear e4 H3 H4;have R4:=R3.below b4;have b5:Below w4.heap.size w4 (w4.alloc (.cells #[.int .i64 2] 3)):=(Below.refl _ _).alloc (Nat.le_refl _) _;have R5:=R4.below b5;have r5:=(b5.block _ (lt_of_heap r4)).trans r4;have F5:FX C w3 (w4.alloc (.cells #[.int .i64 2] 3)):=((FX.refl C w3).on b4 R3.hB).on b5 R3.hB;refine Calls.mono (rPass_any C j3 e3 _ R5 [2] (by simp) w4.heap.size 1 1 rfl (by omega) (heap_alloc_new w4 _)) ?_;rintro e w6 ⟨j6,e6,rfl,g6,R6,f6⟩;obtain ⟨R0,F0,r0⟩:=unhide H0;obtain ⟨b1,g1,R1,f1⟩:=unhide H1;obtain ⟨b2,g2,R2,f2⟩:=unhide H2;have fall:=f1.trans (f2.trans (f3.trans (F5.trans f6)));have r6:=R0.blk fall r0 (by decide) (by decide);have l6:=R5.blk f6 r5 (by decide) (by decide);have c0:=bx_cell r6 0 _ rfl;have c1:=bx_cell r6 1 _ rfl;have c2:=bx_cell r6 2 _ rfl;have z0:=bx_thaw r6 0;have z1:=bx_thaw r6 1;have z2:=bx_thaw r6 2;have d0:=bx_cell l6 0 _ rfl;have d1:=bx_cell l6 1 _ rfl;have d2:=bx_cell l6 2 _ rfl;have HG:Hid (Got (fieldR C.l) C.bs i en ⟨n1,n2,n3⟩ j6 e6):=hide ⟨fun e=>g6.1 (g3.1 (g2.1 (g1.1 e))),fun e v0 r hr=>by
  unfold fieldR at hr;obtain ⟨k1,hr⟩:=got_bind g1 e hr;obtain ⟨k2,hr⟩:=got_bind g2 k1 hr;obtain ⟨k3,hr⟩:=got_bind g3 k2 hr;obtain ⟨⟨m,s⟩,ha,hr⟩:=Option.bind_eq_some_iff.1 hr;obtain ⟨_,k6,d6⟩:=g6.2 k3 () s (by show (uR 2 _).bind _=_;simp only at ha;rw [ha];rfl);obtain ⟨h1,h2⟩:=got_end hr;exact ⟨h1,k6,d6.trans h2⟩⟩
 have HF:Hid (fitI n1∧Txt8 C.l n2∧Txt8 C.l n3):=hide ⟨fit4 b1,b2,b3⟩;have HR:=hide (And.intro R6 (And.intro (F0.trans fall) r6));clear H0 H1 H2 R0 F0 r0 b1 g1 R1 f1 b2 g2 R2 f2 b3 g3 R3 f3 b4 r4 R4 b5 R5 r5 F5 g6 R6 f6 fall r6 l6;go_wp2_with fail;obtain ⟨R6,F6,r6⟩:=unhide HR;refine bodyPost_ret (v:=.agg (fdc ⟨n1,n2,n3⟩).toArray) ?_ rfl ⟨⟨n1,n2,n3⟩,j6,e6,rfl,unhide HF,unhide HG,R6.cells r6 (by decide) 0 (fdc ⟨n1,n2,n3⟩),F6.cells (Nat.le_refl _) hB 0 (fdc ⟨n1,n2,n3⟩)⟩;exact results_cell_row Tryz.results101 _ _ w.heap.size 58 _ (0,0) _ rfl (bx_whole [.int .i64 0,.string ⟨#[]⟩,.string ⟨#[]⟩] (fdc ⟨n1,n2,n3⟩) r6 rfl) Tryz.underlying58 rfl sizeField8
def kindN (n:Int):Int:=if n=0 then 0 else if n=1 then 1 else if n=4 then 2 else if n=5 then 3 else if n=7 then 4 else -1
theorem kindOf_any (w:World) (hT:Tab8 w) (n:Int) :
 Calls Tryz.prog 167 #[.int .i64 n] w fun e w'=>e=.returned (.int .i64 (kindN n))∧w'=w:=by
 have t0:=hT 0 (by omega);have t1:=hT 1 (by omega);have t2:=hT 2 (by omega);have t3:=hT 3 (by omega);have t4:=hT 4 (by omega);unfold kindB at t0 t1 t2 t3 t4;simp at t0 t1 t2 t3 t4;clear hT;have ui:Tryz.prog.underlying 197=some (.array 5 3):=Tryz.underlying197;have i0:∀w,(Instr.index 197 (.agg #[.int .i64 0,.int .i64 1,.int .i64 4,.int .i64 5,.int .i64 7]) (.int .i64 0)).run Tryz.prog w=.ok (.int .i64 0) w:=fun w=>by simp [Instr.index,asIntOf,run_underlying ui,go_sem]
 have i1:∀w,(Instr.index 197 (.agg #[.int .i64 0,.int .i64 1,.int .i64 4,.int .i64 5,.int .i64 7]) (.int .i64 1)).run Tryz.prog w=.ok (.int .i64 1) w:=fun w=>by simp [Instr.index,asIntOf,run_underlying ui,go_sem]
 have i2:∀w,(Instr.index 197 (.agg #[.int .i64 0,.int .i64 1,.int .i64 4,.int .i64 5,.int .i64 7]) (.int .i64 2)).run Tryz.prog w=.ok (.int .i64 4) w:=fun w=>by simp [Instr.index,asIntOf,run_underlying ui,go_sem]
 have i3:∀w,(Instr.index 197 (.agg #[.int .i64 0,.int .i64 1,.int .i64 4,.int .i64 5,.int .i64 7]) (.int .i64 3)).run Tryz.prog w=.ok (.int .i64 5) w:=fun w=>by simp [Instr.index,asIntOf,run_underlying ui,go_sem]
 have i4:∀w,(Instr.index 197 (.agg #[.int .i64 0,.int .i64 1,.int .i64 4,.int .i64 5,.int .i64 7]) (.int .i64 4)).run Tryz.prog w=.ok (.int .i64 7) w:=fun w=>by simp [Instr.index,asIntOf,run_underlying ui,go_sem]
 by_cases h0:n=0
 · subst h0
   go_enter Tryz.func167,Tryz.ntmps167;go_wp2;refine wp_loop_rounds 6 ?_;rw [rounds_succ];go_wp2;go_ret;exact ⟨rfl,rfl⟩
 by_cases h1:n=1
 · subst h1
   go_enter Tryz.func167,Tryz.ntmps167;go_wp2;refine wp_loop_rounds 6 ?_;rw [rounds_succ];go_wp2;rw [rounds_succ];go_wp2;go_ret;exact ⟨rfl,rfl⟩
 by_cases h2:n=4
 · subst h2
   go_enter Tryz.func167,Tryz.ntmps167;go_wp2;refine wp_loop_rounds 6 ?_;rw [rounds_succ];go_wp2;rw [rounds_succ];go_wp2;rw [rounds_succ];go_wp2;go_ret;exact ⟨rfl,rfl⟩
 by_cases h3:n=5
 · subst h3
   go_enter Tryz.func167,Tryz.ntmps167;go_wp2;refine wp_loop_rounds 6 ?_;rw [rounds_succ];go_wp2;rw [rounds_succ];go_wp2;rw [rounds_succ];go_wp2;rw [rounds_succ];go_wp2;go_ret;exact ⟨rfl,rfl⟩
 by_cases h4:n=7
 · subst h4
   go_enter Tryz.func167,Tryz.ntmps167;go_wp2;refine wp_loop_rounds 6 ?_;rw [rounds_succ];go_wp2;rw [rounds_succ];go_wp2;rw [rounds_succ];go_wp2;rw [rounds_succ];go_wp2;rw [rounds_succ];go_wp2;go_ret;exact ⟨rfl,rfl⟩
 have e:kindN n=-1:=by unfold kindN;rw [if_neg h0,if_neg h1,if_neg h2,if_neg h3,if_neg h4]
 rw [e];have b0:((0:Int)==n)=false:=by simpa using fun e=>h0 e.symm
 have b1:((1:Int)==n)=false:=by simpa using fun e=>h1 e.symm
 have b2:((4:Int)==n)=false:=by simpa using fun e=>h2 e.symm
 have b3:((5:Int)==n)=false:=by simpa using fun e=>h3 e.symm
 have b4:((7:Int)==n)=false:=by simpa using fun e=>h4 e.symm
 clear e h0 h1 h2 h3 h4;go_enter Tryz.func167,Tryz.ntmps167;go_wp2;refine wp_loop_rounds 6 ?_;rw [rounds_succ];go_wp2;rw [rounds_succ];go_wp2;rw [rounds_succ];go_wp2;rw [rounds_succ];go_wp2;rw [rounds_succ];go_wp2;rw [rounds_succ];go_wp2;go_ret;exact ⟨rfl,rfl⟩
def kdR (l:List Ent) (s:List UInt8):Option (Ty×List UInt8):=(uR 1 s).bind fun k=>
 if k.1=0 then some (⟨0,[]⟩,k.2) else if k.1=1 then some (⟨1,[]⟩,k.2) else if k.1=4 then some (⟨2,[]⟩,k.2) else if k.1=5 then some (⟨3,[]⟩,k.2)
 else if k.1=7 then (nameR l k.2).bind fun x=>some (⟨4,x.1⟩,x.2) else none
theorem tyR_kd (l:List Ent) (loc:Bool) (s:List UInt8):tyR l loc s=(kdR l s).bind fun t=>some (if loc=true∧t.1.kind=2 then [t.1,⟨0,[]⟩] else [t.1],t.2):=by
 unfold tyR kdR nameR;cases uR 1 s with
 | none=>rfl
 | some k=>
  obtain ⟨k,r⟩:=k;simp only [Option.bind_some];split
  · simp
  · split
    · simp
    · split
      · cases loc <;> simp
      · split
        · simp
        · split
          · cases uR 2 r with
            | none=>rfl
            | some n=>
             simp only [Option.bind_some];cases clsR l n.1 with
             | none=>rfl
             | some x=>simp
          · rfl
theorem rKind_any (C:Cr) (i:Nat) (en:Bool) (w:World) (h:Rd8 C i en w) (hT:Tab8 w) :
 Calls Tryz.prog 159 #[.pointer (some ⟨C.X,0,none⟩)] w fun e w'=>∃x i' en',e=.returned (.agg (tyc x).toArray)∧(fitI x.kind∧Txt8 C.l x.name)∧Got (kdR C.l) C.bs i en x i' en'∧Rd8 C i' en' w'∧FX C w w':=by
 have hB:=h.hB;have hB1:=h.one;obtain ⟨w0,e0,f0,r0⟩:∃w0,w.alloc (.cells #[.int .i64 0,.string ⟨#[]⟩] 143)=w0∧Below w.heap.size w w0∧w0.heap[w.heap.size]?=some (.cells #[.int .i64 0,.string ⟨#[]⟩] 143 (0,0)):=⟨_,rfl,(Below.refl _ _).alloc (Nat.le_refl _) _,heap_alloc_new w _⟩;have R0:=h.below f0;have F0:FX C w w0:=(FX.refl C w).on f0 hB;have HN:=hide (rNumber_any C i en w0 R0 1 (by omega));have H0:=hide (And.intro R0 (And.intro F0 (And.intro r0 (hT.below f0))));clear h f0 r0 R0 F0 hT;go_enter Tryz.func159,Tryz.ntmps159;go_wp2_with fail;refine (unhide HN).mono ?_;rintro e w1 ⟨n1,j1,e1,rfl,b1,g1,R1,f1⟩;clear HN;obtain ⟨R0,F0,r0,T0⟩:=unhide H0;have HN:=hide (kindOf_any w1 (f1.tab hB1 T0) n1);have H1:=hide (And.intro b1 (And.intro g1 (And.intro R1 f1)));clear b1 g1 R1 f1 e0 R0 F0 r0 T0;go_wp2_with fail;refine (unhide HN).mono ?_;rintro e w2 ⟨rfl,e2⟩;have e2':=e2.symm;clear e2 HN;subst e2';obtain ⟨kd,hkd⟩:∃kd,kindN n1=kd:=⟨_,rfl⟩;have HKD:=hide hkd;rw [hkd];clear hkd;have b4:Below w1.heap.size w1 (w1.alloc (.cells #[.int .i64 kd,.string ⟨#[]⟩] 143)):=(Below.refl _ _).alloc (Nat.le_refl _) _;have r4:(w1.alloc (.cells #[.int .i64 kd,.string ⟨#[]⟩] 143)).heap[w1.heap.size]?=some (.cells #[.int .i64 kd,.string ⟨#[]⟩] 143 (0,0)):=heap_alloc_new w1 _;obtain ⟨R0,F0,r0,T0⟩:=unhide H0;obtain ⟨b1,g1,R1,f1⟩:=unhide H1;have R4:=R1.below b4;have F4:FX C w1 (w1.alloc (.cells #[.int .i64 kd,.string ⟨#[]⟩] 143)):=(FX.refl C w1).on b4 R1.hB;have d0:=bx_cell r4 0 _ rfl
 by_cases h4:kd=4
 · subst h4
   have HN:=hide (rName_any C j1 e1 _ R4);have HX:=hide (And.intro R4 (And.intro F4 r4));clear R0 F0 r0 T0 b1 g1 R1 f1 R4 F4 b4 r4;go_wp2_with fail;refine (unhide HN).mono ?_;rintro e w5 ⟨nm,j5,e5,rfl,t5,g5,_,R5,f5⟩;obtain ⟨R4,F4,r4⟩:=unhide HX;obtain ⟨R0,F0,r0,T0⟩:=unhide H0;obtain ⟨b1,g1,R1,f1⟩:=unhide H1;have hlt:=lt_of_heap r0;have hsz1:=f1.size;have r5:=R0.blk (f1.trans (F4.trans f5)) r0 (by decide) (by decide);have l5:=R4.blk f5 r4 (by decide) (by decide);have l6:=heap_setCell_same w5 w1.heap.size 1 _ _ (.string ⟨nm.toArray⟩) l5;have R6:=R5.set l5 (by decide) 1 (.string ⟨nm.toArray⟩);have F6:FX C w1 (w5.setCell ⟨w1.heap.size,1,none⟩ (.string ⟨nm.toArray⟩)):=⟨(F4.trans f5).below.setCell (p:=⟨w1.heap.size,1,none⟩) R1.hB _,fun k hk hn=>(Below.heap_setCell _ _ _ _ (by simp only;omega)).trans ((F4.trans f5).other k hk hn)⟩;have r6:(w5.setCell ⟨w1.heap.size,1,none⟩ (.string ⟨nm.toArray⟩)).heap[w.heap.size]?=_:=(Below.heap_setCell _ _ _ _ (by simp only;omega)).trans r5;have hne:¬w1.heap.size=w.heap.size:=by omega
   have c0:=bx_cell r5 0 _ rfl;have c1:=bx_cell r5 1 _ rfl;have z0:=bx_thaw r5 0;have z1:=bx_thaw r5 1;have d0:=bx_cell l5 0 _ rfl;have d1:=bx_cell l5 1 _ rfl;have y1:=bx_thaw l5 1;have HG:Hid (Got (kdR C.l) C.bs i en ⟨4,nm⟩ j5 e5):=hide ⟨fun e=>g5.1 (g1.1 e),fun e v0 r hr=>by
    unfold kdR at hr;obtain ⟨k1,hr⟩:=got_bind g1 e hr;have hk:=unhide HKD;have hn7:n1=7:=by
     unfold kindN at hk;split at hk
     · omega
     · split at hk
       · omega
       · split at hk
         · omega
         · split at hk
           · omega
           · split at hk
             · assumption
             · omega
    subst hn7;simp only at hr;rw [if_neg (by decide),if_neg (by decide),if_neg (by decide),if_neg (by decide),if_pos trivial] at hr;obtain ⟨k5,hr⟩:=got_bind g5 k1 hr;obtain ⟨h1,h2⟩:=got_end hr;exact ⟨h1,k5,h2⟩⟩
   have HF:Hid (fitI 4∧Txt8 C.l nm):=hide ⟨by unfold fitI;omega,t5⟩;have HR:=hide (And.intro R6 (And.intro (F0.trans (f1.trans F6)) r6));clear H0 H1 HX R0 F0 r0 T0 b1 g1 R1 f1 R4 F4 r4 R5 f5 g5 t5 r5 l5 l6 R6 F6 r6 HN HKD hlt hsz1;go_wp2_with fail;obtain ⟨R6,F6,r6⟩:=unhide HR;refine bodyPost_ret (v:=.agg (tyc ⟨4,nm⟩).toArray) ?_ rfl ⟨⟨4,nm⟩,j5,e5,rfl,unhide HF,unhide HG,R6.cells r6 (by decide) 0 (tyc ⟨4,nm⟩),F6.cells (Nat.le_refl _) hB 0 (tyc ⟨4,nm⟩)⟩;exact results_cell_row Tryz.results159 _ _ w.heap.size 143 _ (0,0) _ rfl (bx_whole [.int .i64 0,.string ⟨#[]⟩] (tyc ⟨4,nm⟩) r6 rfl) Tryz.underlying143 rfl sizeType8
 · have h4':(kd==4)=false:=by simpa using h4
   have r5:=R0.blk (f1.trans F4) r0 (by decide) (by decide);have c0:=bx_cell r5 0 _ rfl;have c1:=bx_cell r5 1 _ rfl;have z0:=bx_thaw r5 0;have z1:=bx_thaw r5 1;have d1:=bx_cell r4 1 _ rfl;have hlt:=lt_of_heap r0;have hsz1:=f1.size;have hne:¬w1.heap.size=w.heap.size:=by omega
   have HG:Hid (Got (kdR C.l) C.bs i en ⟨kd,[]⟩ j1 e1):=hide ⟨fun e=>g1.1 e,fun e v0 r hr=>by
    unfold kdR at hr;obtain ⟨k1,hr⟩:=got_bind g1 e hr;have hk:=unhide HKD;simp only at hr;unfold kindN at hk;split at hk
    · rename_i q
      rw [if_pos q] at hr;obtain ⟨h1,h2⟩:=got_end hr;exact ⟨by rw [←h1,←hk],k1,h2⟩
    · rename_i q
      rw [if_neg q] at hr;split at hk
      · rename_i q
        rw [if_pos q] at hr;obtain ⟨h1,h2⟩:=got_end hr;exact ⟨by rw [←h1,←hk],k1,h2⟩
      · rename_i q
        rw [if_neg q] at hr;split at hk
        · rename_i q
          rw [if_pos q] at hr;obtain ⟨h1,h2⟩:=got_end hr;exact ⟨by rw [←h1,←hk],k1,h2⟩
        · rename_i q
          rw [if_neg q] at hr;split at hk
          · rename_i q
            rw [if_pos q] at hr;obtain ⟨h1,h2⟩:=got_end hr;exact ⟨by rw [←h1,←hk],k1,h2⟩
          · rename_i q
            rw [if_neg q] at hr;split at hk
            · exact absurd hk.symm h4
            · rename_i q
              rw [if_neg q] at hr;cases hr⟩
   have HF:Hid (fitI kd∧Txt8 C.l []):=hide ⟨by
    have hk:=unhide HKD;unfold kindN at hk;unfold fitI;omega,.inl rfl⟩
   have HR:=hide (And.intro R4 (And.intro (F0.trans (f1.trans F4)) r5));clear H0 H1 R0 F0 r0 T0 b1 g1 R1 f1 R4 F4 b4 r4 r5 HKD h4 hsz1;go_wp2_with fail;obtain ⟨R6,F6,r6⟩:=unhide HR;refine bodyPost_ret (v:=.agg (tyc ⟨kd,[]⟩).toArray) ?_ rfl ⟨⟨kd,[]⟩,j1,e1,rfl,unhide HF,unhide HG,R6.cells r6 (by decide) 0 (tyc ⟨kd,[]⟩),F6.cells (Nat.le_refl _) hB 0 (tyc ⟨kd,[]⟩)⟩;exact results_cell_row Tryz.results159 _ _ w.heap.size 143 _ (0,0) _ rfl (bx_whole [.int .i64 0,.string ⟨#[]⟩] (tyc ⟨kd,[]⟩) r6 rfl) Tryz.underlying143 rfl sizeType8
theorem Rd8.moved {C:Cr} {i j:Nat} {en:Bool} {w W:World} (h:Rd8 C i en w) (hle:j≤C.bs.length) (h1:∃F',RD F' W C.B C.x C.bs j) (h2:Kx C.x w W) (h3:Below C.B w W):Rd8 C j en W∧FX C w W:=by
 obtain ⟨a,c,q1,q2⟩:=h.pl;have hb:W.heap[C.X]?=_:=(h2 C.X h.X_lt h.ne).trans q1;refine ⟨⟨h.ne,h.hX,h1,hle,h.len,⟨a,c,hb,?_⟩,h.few,h.cl,h.z0,h.one⟩,⟨h3,fun k hk hn=>h2 k hk (fun e=>hn (.inr e))⟩⟩
 rcases q2 with q2 | ⟨q,e1,e2,q2⟩
 · exact .inl q2
 · refine .inr ⟨q,e1,e2,(h2 q (lt_of_heap q2) fun e=>?_).trans q2⟩
   subst e;obtain ⟨Z,h4⟩:=h.x_blk;rw [h4] at q2;injection q2 with q2
   injection q2 with _ q2
   cases q2
def bytesR (s:List UInt8):Option (List UInt8×List UInt8):=(uR 4 s).bind fun n=>takeR n.1 n.2
theorem rBytes_any (C:Cr) (i:Nat) (en:Bool) (w:World) (h:Rd8 C i en w) :
 Calls Tryz.prog 147 #[.pointer (some ⟨C.X,0,none⟩)] w fun e w'=>∃(s:Sl) (x:List UInt8) (i':Nat) (en':Bool),e=.returned s.v∧(Orw byc 5 1 w' w.heap.size s.v x∧x.length≤1000000)∧Got bytesR C.bs i en x i' en'∧Rd8 C i' en' w'∧FX C w w':=by
 have hc0:∀j e1 W,Rd8 C j e1 W→W.cell? ⟨C.X,0,none⟩=some (.pointer (some ⟨C.x,0,none⟩)):=fun j e1 W hW=>by
  obtain ⟨a,c,q1,_⟩:=hW.pl;exact bx_cell q1 0 _ rfl
 have HN:=hide (rNumber_any C i en w.drew (h.below (Below.refl _ _).drew) 4 (by omega));have HC0:=hide hc0;have HW:=hide h;have hB:=h.hB;have c0:=hc0 _ _ _ h;clear h hc0;go_enter Tryz.func147,Tryz.ntmps147;go_wp2;refine wp_region_txt (fun W=>W.cell? ⟨C.X,0,none⟩=some (.pointer (some ⟨C.x,0,none⟩))) [5,6] (List.range 12) (by kernel_rfl) (by kernel_rfl) (unhide HC0 _ _ _ ((unhide HW).below (Below.refl _ _).drew)) ?_
 repeat (first
  | (refine Txt.reads (v:=?_) (by rfl) (by rfl) (by rfl) ?_ ?_;rotate_left;(focus ((intro W hSW;go_simp) <;> with_reducible rfl));simp only [Act.put,List.setIfInBounds_toArray,List.set_cons_zero,List.set_cons_succ]))
 refine Txt.acts (by rfl) (by rfl) (by rfl) (fun K hK=>?_);go_simp;refine (unhide HN).mono ?_;rintro e w1 ⟨n,j1,e1,rfl,b1,g1,R1,f1⟩;refine hK.out _ _ (unhide HC0 _ _ _ R1) ?_;clear hK K;obtain ⟨F,hF⟩:=R1.rd;have HD:=hide (dBytes_all F w1 C.B C.x C.bs j1 n hF (by have:=R1.len;omega) R1.hi (by omega));have H1:=hide (And.intro b1 (And.intro g1 (And.intro R1 f1)));clear b1 g1 R1 f1 hF;refine Txt.acts (by rfl) (by rfl) (by rfl) (fun K hK=>?_);go_simp;refine (unhide HD).mono ?_;rintro e w2 ⟨v,rfl,o2,⟨F',r1,-,-⟩,r2,r3⟩;obtain ⟨b1,g1,R1,f1⟩:=unhide H1;have hlen:(takeW C.bs j1 n).1.length≤C.bs.length:=by
  unfold takeW;split
  · simp
  · split
    · simp
    · simp only [List.length_take,List.length_drop];omega
 have hgt:Got bytesR C.bs i en (takeW C.bs j1 n).1 (takeW C.bs j1 n).2.2 (e1||decide ((takeW C.bs j1 n).2.1≠0)):=⟨fun e=>by rw [g1.1 e];rfl,fun e v0 r hr=>by
  unfold bytesR at hr;obtain ⟨k1,hr⟩:=got_bind g1 e hr;unfold takeR at hr;simp only at hr;split at hr
  · rename_i hl
    rw [List.length_drop] at hl;obtain ⟨h1,h2⟩:=got_end hr;have hi1:=R1.hi;have:takeW C.bs j1 n=((C.bs.drop j1).take n.toNat,0,j1+n.toNat):=by
     unfold takeW;rw [if_neg (by omega),if_neg (by omega)]
    rw [this,k1];exact ⟨h1,rfl,by rw [←h2,List.drop_drop]⟩
  · cases hr⟩
 have htl:=takeW_le (bs:=C.bs) (i:=j1) (n:=n) R1.hi;generalize takeW C.bs j1 n=G at *;obtain ⟨x,er,j2⟩:=G;simp only at o2 r1 hlen hgt htl ⊢;obtain ⟨R2,f2⟩:=R1.moved htl ⟨F',r1⟩ r3 r2.below;obtain ⟨a2,c2,rfl,_⟩:=own_form o2;refine hK.out _ _ (unhide HC0 _ _ _ R2) ?_;clear hK K
 repeat (first
  | (refine Txt.reads (v:=?_) (by rfl) (by rfl) (by rfl) ?_ ?_;rotate_left;(focus ((intro W hSW;go_simp) <;> with_reducible rfl));simp only [Act.put,List.setIfInBounds_toArray,List.set_cons_zero,List.set_cons_succ]))
 refine Txt.done ?_;obtain ⟨a3,c3,q3,_⟩:=R2.pl;have d2:=bx_cell q3 2 _ rfl;have z2:=bx_thaw q3 2;have hsz:=f1.size;have O2:Orw byc 5 1 w2 w.heap.size (.slice a2 x.length c2) x:=(orw_bv o2 rfl).base (by simpa using hsz);have HO:Hid (∀e3,Orw byc 5 1 (w2.setCell ⟨C.X,2,none⟩ (.bool e3)) w.heap.size (.slice a2 x.length c2) x):=hide fun e3=>R2.orw (R2.mark e3).2 O2 (by decide) (by decide)
 have FW:FX C w w.drew:=(FX.refl C w).on (Below.refl _ _).drew hB;have HR:=hide (And.intro R2 (FW.trans (f1.trans f2)));have HG:=hide hgt;have HL:Hid (x.length≤1000000):=hide (by have:=R2.len;omega);clear H1 HN HC0 HW HD b1 g1 R1 f1 F' r1 r2 r3 o2 O2 hgt htl hlen R2 f2 q3 c0 FW;cases e1 with
 | true=>
  go_wp2;go_ret;exact ⟨⟨_,_,_⟩,x,j2,true,rfl,⟨unhide HO true,unhide HL⟩,by simpa using unhide HG,((unhide HR).1.mark true).1,(unhide HR).2.trans ((unhide HR).1.mark true).2⟩
 | false=>
  by_cases he:er=0
  · have he':(er != 0)=false:=by simp [he]
    go_wp2;go_ret;exact ⟨⟨_,_,_⟩,x,j2,false,rfl,⟨unhide HO false,unhide HL⟩,by simpa [he] using unhide HG,((unhide HR).1.mark false).1,(unhide HR).2.trans ((unhide HR).1.mark false).2⟩
  · have he':(er != 0)=true:=by simp [he]
    go_wp2;go_ret;exact ⟨⟨_,_,_⟩,x,j2,true,rfl,⟨unhide HO true,unhide HL⟩,by simpa [he] using unhide HG,((unhide HR).1.mark true).1,(unhide HR).2.trans ((unhide HR).1.mark true).2⟩
def slLen:Value→Nat
 | .slice _ n _=>n
 | _=>0
def manyR {α:Type} (one:List UInt8→Option (α×List UInt8)):Nat→List UInt8→Option (List α×List UInt8)
 | 0,s=>some ([],s)
 | n+1,s=>(one s).bind fun x=>(manyR one n x.2).bind fun r=>some (x.1::r.1,r.2)
def listR {α:Type} (one:List UInt8→Option (α×List UInt8)) (s:List UInt8):Option (List α×List UInt8):=(uR 2 s).bind fun k=>manyR one k.1.toNat k.2
theorem hdsR_many:∀(n:Nat) (s:List UInt8),hdsR n s=manyR hdR n s
 | 0,s=>rfl
 | n+1,s=>by
  unfold hdsR manyR;simp only [hdsR_many n]
theorem fieldsR_many (l:List Ent):∀(n:Nat) (s:List UInt8),fieldsR l n s=manyR (fieldR l) n s
 | 0,s=>rfl
 | n+1,s=>by
  unfold fieldsR manyR;simp only [fieldsR_many l n]
theorem methodsR_many (l:List Ent):∀(n:Nat) (s:List UInt8),methodsR l n s=manyR (methodR l) n s
 | 0,s=>rfl
 | n+1,s=>by
  unfold methodsR manyR;simp only [methodsR_many l n]
def wideP (ts:List Ty):List Ty:=ts.flatMap fun t=>if t.kind=2 then [t,⟨0,[]⟩] else [t]
theorem tysR_many (l:List Ent) (loc:Bool):∀(n:Nat) (s:List UInt8) (ts:List Ty) (r:List UInt8),tysR l loc n s=some (ts,r)→∃us,manyR (kdR l) n s=some (us,r)∧ts=(if loc=true then wideP us else us)
 | 0,s,ts,r,h=>by
  obtain ⟨rfl,rfl⟩:=got_end h;refine ⟨[],rfl,?_⟩;cases loc <;> rfl
 | n+1,s,ts,r,h=>by
  unfold tysR at h;rw [tyR_kd] at h;obtain ⟨⟨a,s1⟩,ha,h⟩:=Option.bind_eq_some_iff.1 h;obtain ⟨⟨t,s2⟩,ht,ha⟩:=Option.bind_eq_some_iff.1 ha;obtain ⟨rfl,rfl⟩:=got_end ha;obtain ⟨⟨q,s3⟩,hq,h⟩:=Option.bind_eq_some_iff.1 h;obtain ⟨rfl,rfl⟩:=got_end h;obtain ⟨us,h1,h2⟩:=tysR_many l loc n _ _ _ hq;simp only at h1 h2;refine ⟨t::us,?_,?_⟩
  · unfold manyR
    rw [ht,Option.bind_some,h1];rfl
  · rw [h2]
    cases loc with
    | false=>simp
    | true=>simp [wideP]
def Mid {α:Type} (one:List UInt8→Option (α×List UInt8)) (bs:List UInt8) (N:Nat) (en:Bool) (s:List UInt8) (xs:List α) (j:Nat) (ej:Bool):Prop:=
 (en=true→ej=true)∧(en=false→∀vs r,manyR one N s=some (vs,r)→ej=false∧∃vs',vs=xs++vs'∧manyR one (N-xs.length) (bs.drop j)=some (vs',r))
theorem Mid.next {α:Type} {one:List UInt8→Option (α×List UInt8)} {bs:List UInt8} {N:Nat} {en:Bool} {s:List UInt8} {xs:List α} {j:Nat} {ej:Bool} (h:Mid one bs N en s xs j ej) (hl:xs.length<N) {x:α} {j1:Nat} {e1:Bool} (g:Got one bs j ej x j1 e1):Mid one bs N en s (xs++[x]) j1 e1:=by
 refine ⟨fun e=>g.1 (h.1 e),fun e vs r hr=>?_⟩;obtain ⟨h1,vs',rfl,h2⟩:=h.2 e vs r hr;obtain ⟨m,hm⟩:∃m,N-xs.length=m+1:=⟨N-xs.length-1,by omega⟩;rw [hm] at h2;unfold manyR at h2;obtain ⟨k1,h3⟩:=got_bind g h1 h2;obtain ⟨⟨q,s3⟩,hq,h3⟩:=Option.bind_eq_some_iff.1 h3;obtain ⟨rfl,rfl⟩:=got_end h3;refine ⟨k1,q,by simp,?_⟩;rw [List.length_append,List.length_cons,List.length_nil,show N-(xs.length+(0+1))=m by omega];exact hq
theorem Mid.done {α:Type} {one:List UInt8→Option (α×List UInt8)} {bs:List UInt8} {N:Nat} {en0 en:Bool} {i i1:Nat} {n:Int} {xs:List α} {j:Nat} {ej:Bool} (g:Got (uR 2) bs i en0 n i1 en) (hn:n=N) (h:Mid one bs N en (bs.drop i1) xs j ej) (hx:¬xs.length<N∨ej=true):Got (listR one) bs i en0 xs j ej:=by
 refine ⟨fun e=>h.1 (g.1 e),fun e v0 r hr=>?_⟩;unfold listR at hr;obtain ⟨k1,hr⟩:=got_bind g e hr;simp only at hr;rw [hn,Int.toNat_natCast] at hr;obtain ⟨h1,vs',rfl,h2⟩:=h.2 k1 _ _ hr
 rcases hx with hx | hx
 · rw [show N-xs.length=0 by omega] at h2
   obtain ⟨rfl,rfl⟩:=got_end h2;exact ⟨by simp,h1,rfl⟩
 · rw [h1] at hx
   cases hx
theorem orw_block {α:Type} {cs:α→List Value} {e:TypeId} {sz:Nat} {w:World} {base:Nat} {v:Value} {l:List α} (h:Orw cs e sz w base v l) {k:Nat} (hk:v.ownBlock=some k):∃Z,w.heap[k]?=some (.cells Z e (0,0)):=by
 rcases h.2 with ⟨hv,_⟩ | ⟨g,cap,cur,hv,hb,hh,r⟩
 · rw [hv] at hk;cases hk
 · rw [hv] at hk
   injection hk with hk
   subst hk;exact ⟨cur,hh⟩
theorem grown_other {w w':World} {b:Option Nat} (g:w.grownBy w' b) {k:Nat} (hk:k<w.heap.size) (hb:b≠some k):w'.heap[k]?=w.heap[k]?:=g.block k hk (fun e=>hb e.symm)
theorem Rd8.grown {C:Cr} {i:Nat} {en:Bool} {W W':World} (h:Rd8 C i en W) {α:Type} {cs:α→List Value} {e:TypeId} {sz base:Nat} {v:Value} {l:List α} (o:Orw cs e sz W base v l) (g:W.grownBy W' v.ownBlock) (he:¬(e=127∨e=159∨e=5∨e=55)):Rd8 C i en W':=
 h.keep fun k Z T hk hT=>grown_other g (lt_of_heap hk) fun e1=>by
  obtain ⟨Y,h1⟩:=orw_block o e1;rw [h1] at hk;injection hk with hk
  injection hk with _ hk
  subst hk;exact he hT
theorem FX.grown {C:Cr} {w W W':World} (f:FX C w W) (hB:C.B≤w.heap.size) {α:Type} {cs:α→List Value} {e:TypeId} {sz:Nat} {v:Value} {l:List α} (o:Orw cs e sz W w.heap.size v l) (g:W.grownBy W' v.ownBlock):FX C w W':=
 ⟨Below.grown f.below g (Nat.le_trans hB f.size) (fun k hk=>Nat.le_trans hB (o.lt k hk).1),fun k hk hn=>(grown_other g (Nat.lt_of_lt_of_le hk f.size) fun e1=>by have:=(o.lt k e1).1;omega).trans (f.other k hk hn)⟩
end Go.Proofs.YtlabllgifkklhaaGreatDoor
