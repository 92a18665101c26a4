/- Joined: CrM GtE ClL. -/
import Derived.Test.YtlabllgifkklhaaGreatDoorJP21
import Derived.Test.YtlabllgifkklhaaGreatDoorJP17
set_option linter.unusedVariables false
set_option maxRecDepth 100000
set_option maxHeartbeats 1600000
namespace Go.Proofs.YtlabllgifkklhaaGreatDoor
open Go.RowKit
structure MdOk (l:List Ent) (w:World) (base:Nat) (r:MdR):Prop where
 own:MdOwn w base r
 acc:fitI r.m.acc
 nm:Txt8 l r.m.name
 ty:Txt8 l r.m.type
 st:fitI r.m.code.stack
 lo:fitI r.m.code.locals
 hs:∀h∈r.m.code.hs,HdFit h
 mp:∀x∈r.mr,MpOk l w base x
 nb:r.m.code.bytes.length≤1000000
 nh:r.m.code.hs.length≤4294967296
 np:r.mr.length≤65536
theorem MdOk.keep {l:List Ent} {w w':World} {base:Nat} {r:MdR} (h:MdOk l w base r) (f:∀(k:Nat) (Z:Array Value) (T:TypeId),w.heap[k]?=some (.cells Z T (0,0))→T=5∨T=93∨T=52∨T=143→w'.heap[k]?=w.heap[k]?):MdOk l w' base r:=
 ⟨h.own.keepAll fun k X t _ ht hX=>f k X t hX ht,h.acc,h.nm,h.ty,h.st,h.lo,h.hs,fun x hx=>(h.mp x hx).keep fun k Z hk=>f k Z _ hk (.inr (.inr (.inr rfl))),h.nb,h.nh,h.np⟩
theorem MdOk.base {l:List Ent} {w:World} {base base':Nat} {r:MdR} (h:MdOk l w base r) (hb:base'≤base):MdOk l w base' r:=⟨h.own.base hb,h.acc,h.nm,h.ty,h.st,h.lo,h.hs,fun x hx=>(h.mp x hx).base hb,h.nb,h.nh,h.np⟩
theorem codeR_by (l:List Ent) (s:List UInt8):codeR l s=(uR 2 s).bind fun a=>(uR 2 a.2).bind fun b=>(bytesR b.2).bind fun x=>(listR hdR x.2).bind fun h=>(tableR l h.2).bind fun t=>some (⟨a.1,b.1,x.1,h.1,t.1⟩,t.2):=by
 unfold codeR bytesR listR;simp only [Option.bind_assoc,hdsR_many]
def code_post (C:Cr) (i:Nat) (en:Bool) (w:World) (e:Ending) (w':World):Prop:=
 ∃(c:Cd) (b h p:Sl) (mr:List MpR) (i':Nat) (en':Bool),e=.returned (.agg #[.int .i64 c.stack,.int .i64 c.locals,b.v,h.v,p.v])∧MdOk C.l w' w.heap.size ⟨⟨0,[],[],c⟩,b,h,p,mr⟩∧Got (codeR C.l) C.bs i en c i' en'∧Rd8 C i' en' w'∧FX C w w'
theorem sizeCode8:(Tryz.prog.info? 47).map (·.size)=some 5:=by kernel_rfl
theorem sizeMethod9:(Tryz.prog.info? 49).map (·.size)=some 8:=by kernel_rfl
theorem rCode_any (C:Cr) (i:Nat) (en:Bool) (w:World) (h:Rd8 C i en w) (hT:Tab8 w) :
 Calls Tryz.prog 133 #[.pointer (some ⟨C.X,0,none⟩)] w (code_post C i en w):=by
 have hB:=h.hB;have hB1:=h.one;obtain ⟨w0,e0,f0,r0⟩:∃w0,w.alloc (.cells #[.int .i64 0,.int .i64 0,.slice none 0 0,.slice none 0 0,.slice none 0 0] 47)=w0∧Below w.heap.size w w0∧w0.heap[w.heap.size]?=some (.cells #[.int .i64 0,.int .i64 0,.slice none 0 0,.slice none 0 0,.slice none 0 0] 47 (0,0)):=⟨_,rfl,(Below.refl _ _).alloc (Nat.le_refl _) _,heap_alloc_new w _⟩;have R0:=h.below f0;have F0:FX C w w0:=(FX.refl C w).on f0 hB;have HN:=hide (rNumber_any C i en w0 R0 2 (by omega));have H0:=hide (And.intro R0 (And.intro F0 (And.intro r0 (hT.below f0))));have hmf:∀(fn:Fn) (first cap:Array Value) (w:World),(Instr.makeFunc fn first cap).run Tryz.prog w=.ok (.func fn first cap) w:=fun _ _ _ _=>rfl
 clear h f0 r0 R0 F0 hT;go_enter Tryz.func133,Tryz.ntmps133;go_wp2_with fail;refine (unhide HN).mono ?_;rintro e w1 ⟨n1,j1,e1,rfl,b1,g1,R1,f1⟩;clear HN;have HN:=hide (rNumber_any C j1 e1 w1 R1 2 (by omega));have H1:=hide (And.intro b1 (And.intro g1 (And.intro R1 f1)));clear b1 g1 R1 f1 e0;go_wp2_with fail;refine (unhide HN).mono ?_;rintro e w2 ⟨n2,j2,e2,rfl,b2,g2,R2,f2⟩;clear HN;have HN:=hide (rBytes_any C j2 e2 w2 R2);have H2:=hide (And.intro b2 (And.intro g2 (And.intro R2 f2)));clear b2 g2 R2 f2;go_wp2_with fail;refine (unhide HN).mono ?_;rintro e w3 ⟨⟨ba,bn,bc⟩,x3,j3,e3,rfl,⟨o3,l3⟩,g3,R3,f3⟩;clear HN;obtain ⟨R0,F0,r0,T0⟩:=unhide H0;obtain ⟨b1,g1,R1,f1⟩:=unhide H1;obtain ⟨b2,g2,R2,f2⟩:=unhide H2;have T3:=(f1.trans (f2.trans f3)).tab hB1 T0;have HN:=hide (rlH_any C j3 e3 w3 R3 T3);have H3:=hide (And.intro o3 (And.intro l3 (And.intro g3 (And.intro R3 (And.intro f3 T3)))));clear R0 F0 r0 T0 b1 g1 R1 f1 b2 g2 R2 f2 o3 l3 g3 R3 f3 T3;go_wp2_with fail;refine (unhide HN).mono ?_;rintro e w4 ⟨⟨ha,hn,hc⟩,x4,j4,e4,rfl,⟨o4,k4,l4⟩,g4,R4,f4⟩;clear HN;obtain ⟨o3,l3,g3,R3,f3,T3⟩:=unhide H3;have HN:=hide (rMaps_any C j4 e4 w4 R4 (f4.tab hB1 T3));have H4:=hide (And.intro o4 (And.intro k4 (And.intro l4 (And.intro g4 (And.intro R4 f4)))));clear o3 l3 g3 R3 f3 T3 o4 k4 l4 g4 R4 f4;go_wp2_with fail;refine (unhide HN).mono ?_;rintro e w5 ⟨⟨pa,pn,pc⟩,x5,j5,e5,rfl,⟨o5,k5,l5⟩,g5,R5,f5⟩;clear HN;obtain ⟨R0,F0,r0,T0⟩:=unhide H0;obtain ⟨b1,g1,R1,f1⟩:=unhide H1;obtain ⟨b2,g2,R2,f2⟩:=unhide H2;obtain ⟨o3,l3,g3,R3,f3,T3⟩:=unhide H3;obtain ⟨o4,k4,l4,g4,R4,f4⟩:=unhide H4;have fall:=f1.trans (f2.trans (f3.trans (f4.trans f5)));have r5:=R0.blk fall r0 (by decide) (by decide);have s1:=f1.size;have s2:=f2.size;have s3:=f3.size;have s4:=f4.size;have hlt:=lt_of_heap r0;have O3:Orw byc 5 1 w5 (w.heap.size+1) (.slice ba bn bc) x3:=Orw.base (R3.orw (f4.trans f5) o3 (by decide) (by decide)) (by omega);have O4:Orw hdc 93 4 w5 (w.heap.size+1) (.slice ha hn hc) x4:=Orw.base (R4.orw f5 o4 (by decide) (by decide)) (by omega);have O5:Orw mpc 52 3 w5 (w.heap.size+1) (.slice pa pn pc) x5:=Orw.base o5 (by omega);have K5:∀x∈x5,MpOk C.l w5 (w.heap.size+1) x:=fun x hx=>(k5 x hx).base (by omega)
 have q0:w5.cell? ⟨w.heap.size,0,none⟩=some (.int .i64 0):=bx_cell r5 0 _ rfl;have q1:w5.cell? ⟨w.heap.size,1,none⟩=some (.int .i64 0):=bx_cell r5 1 _ rfl;have q2:w5.cell? ⟨w.heap.size,2,none⟩=some (.slice none 0 0):=bx_cell r5 2 _ rfl;have q3:w5.cell? ⟨w.heap.size,3,none⟩=some (.slice none 0 0):=bx_cell r5 3 _ rfl;have q4:w5.cell? ⟨w.heap.size,4,none⟩=some (.slice none 0 0):=bx_cell r5 4 _ rfl;have z0:=bx_thaw r5 0;have z1:=bx_thaw r5 1;have z2:=bx_thaw r5 2;have z3:=bx_thaw r5 3;have z4:=bx_thaw r5 4;have HG:Hid (Got (codeR C.l) C.bs i en ⟨n1,n2,x3,x4,x5.map MpR.m⟩ j5 e5):=hide ⟨fun e=>g5.1 (g4.1 (g3.1 (g2.1 (g1.1 e)))),fun e v0 r hr=>by
  rw [codeR_by] at hr;obtain ⟨k1,hr⟩:=got_bind g1 e hr;obtain ⟨k2,hr⟩:=got_bind g2 k1 hr;obtain ⟨k3,hr⟩:=got_bind g3 k2 hr;obtain ⟨k4,hr⟩:=got_bind g4 k3 hr;obtain ⟨k5,hr⟩:=got_bind g5 k4 hr;obtain ⟨h1,h2⟩:=got_end hr;exact ⟨h1,k5,h2⟩⟩
 have HM:Hid (∀W,(∀k,k≠w.heap.size→W.heap[k]?=w5.heap[k]?)→MdOk C.l W w.heap.size ⟨⟨0,[],[],⟨n1,n2,x3,x4,x5.map MpR.m⟩⟩,⟨ba,bn,bc⟩,⟨ha,hn,hc⟩,⟨pa,pn,pc⟩,x5⟩):=hide fun W hW=>by
  have hk:∀{v:Value} {α:Type} {cs:α→List Value} {e:TypeId} {sz:Nat} {l:List α},Orw cs e sz w5 (w.heap.size+1) v l→Orw cs e sz W w.heap.size v l:=fun o=>(o.below fun k hk=>hW k (by have:=(o.lt k hk).1;omega)).base (by omega)
  exact ⟨⟨hk O3,hk O4,hk O5,fun x hx=>⟨hk (K5 x hx).own.loc,hk (K5 x hx).own.stk⟩,rfl⟩,by unfold fitI;simp,.inl rfl,.inl rfl,fit4 b1,fit4 b2,k4,fun x hx=>⟨⟨hk (K5 x hx).own.loc,hk (K5 x hx).own.stk⟩,(K5 x hx).fit,(K5 x hx).loc,(K5 x hx).stk,(K5 x hx).nl,(K5 x hx).ns⟩,l3,l4,l5⟩
 have HR:=hide (And.intro R5 (And.intro (F0.trans fall) r5));clear H0 H1 H2 H3 H4 R0 F0 r0 T0 b1 g1 R1 f1 b2 g2 R2 f2 o3 l3 g3 R3 f3 T3 o4 k4 l4 g4 R4 f4 o5 k5 l5 g5 R5 f5 fall r5 s1 s2 s3 s4 hlt O3 O4 O5 K5;unfold Sl.v;simp only;go_wp2_with fail;obtain ⟨R5,F5,r5⟩:=unhide HR;have r6:=bx_whole [.int .i64 0,.int .i64 0,.slice none 0 0,.slice none 0 0,.slice none 0 0] [.int .i64 n1,.int .i64 n2,.slice ba bn bc,.slice ha hn hc,.slice pa pn pc] r5 rfl;refine bodyPost_ret (v:=.agg #[.int .i64 n1,.int .i64 n2,.slice ba bn bc,.slice ha hn hc,.slice pa pn pc]) ?_ rfl ⟨⟨n1,n2,x3,x4,x5.map MpR.m⟩,⟨ba,bn,bc⟩,⟨ha,hn,hc⟩,⟨pa,pn,pc⟩,x5,j5,e5,rfl,unhide HM _ (fun k hk=>heap_cells_other _ [.int .i64 n1,.int .i64 n2,.slice ba bn bc,.slice ha hn hc,.slice pa pn pc] 0 _ _ hk),unhide HG,R5.cells r5 (by decide) 0 [.int .i64 n1,.int .i64 n2,.slice ba bn bc,.slice ha hn hc,.slice pa pn pc],F5.cells (Nat.le_refl _) hB 0 [.int .i64 n1,.int .i64 n2,.slice ba bn bc,.slice ha hn hc,.slice pa pn pc]⟩;exact results_cell_row Tryz.results133 _ _ w.heap.size 47 _ (0,0) _ rfl r6 Tryz.underlying47 rfl sizeCode8
theorem Kx.set {X:Nat} {W0 W:World} (k:Kx X W0 W) {H:Nat} (hH:W0.heap.size≤H) (o:Nat) (v:Value):Kx X W0 (W.setCell ⟨H,o,none⟩ v):=fun q hq hz=>(Below.heap_setCell _ _ _ _ (by show q≠H;omega)).trans (k q hq hz)
theorem Gd.put {C:Gc} {i0 j:Nat} {en0 ej:Bool} {w W:World} (h0:Gd C i0 en0 w) (g:Gd C j ej W) (F:GF C.X C.B w W) {H:Nat} (hH:w.heap.size≤H) (o:Nat) (v:Value):Gd C j ej (W.setCell ⟨H,o,none⟩ v)∧GF C.X C.B w (W.setCell ⟨H,o,none⟩ v):=by
 have hX:=h0.X_lt;have F':GF C.X C.B w (W.setCell ⟨H,o,none⟩ v):=⟨Kx.set F.1 hH o v,F.2.setCell (p:=⟨H,o,none⟩) (Nat.le_trans h0.hB hH) v⟩;exact ⟨h0.step F'.1 ((Below.heap_setCell _ _ _ _ (by show C.X≠H;omega)).trans g.blk) g.hi,F'⟩
structure CS (C:Gc) (w:World) (A:Nat) (st lo:Int) (b:Sl) (by_:List UInt8) (h:Sl) (hs:List Hd) (p:Sl) (mr:List MpR) (j:Nat) (ej:Bool) (W:World):Prop where
 hA:w.heap.size<A
 rb:W.heap[w.heap.size]?=some (.cells #[.int .i64 0,.int .i64 0,.slice none 0 0,.slice none 0 0,.slice none 0 0] 47 (0,0))
 cb:W.heap[A]?=some (.cells #[.int .i64 st,.int .i64 lo,b.v,h.v,p.v] 47 (0,0))
 ob:Orw byc 5 1 W w.heap.size b.v by_
 oh:Orw hdc 93 4 W w.heap.size h.v hs
 op:Orw mpc 52 3 W w.heap.size p.v mr
 mp:∀x∈mr,MpOk C.l W w.heap.size x
 gd:Gd C j ej W
 gf:GF C.X C.B w W
section
variable {C:Gc} {w W W':World} {A i0:Nat} {en0:Bool} {st lo:Int} {b h p:Sl} {by_:List UInt8} {hs:List Hd} {mr:List MpR} {j j':Nat} {ej ej':Bool}
theorem orw_kx {X:Nat} {W0 W':World} (k:Kx X W0 W') {α:Type} {cs:α→List Value} {e:TypeId} {sz base:Nat} {v:Value} {l:List α} (o:Orw cs e sz W0 base v l) (hX:X<base):Orw cs e sz W' base v l:=
 o.below fun q hq=>k q (o.lt q hq).2 (by have:=(o.lt q hq).1;omega)
theorem MpOk.kx {l:List Ent} {X:Nat} {W0 W':World} {base:Nat} {r:MpR} (h:MpOk l W0 base r) (k:Kx X W0 W') (hX:X<base):MpOk l W' base r:=⟨⟨orw_kx k h.own.loc hX,orw_kx k h.own.stk hX⟩,h.fit,h.loc,h.stk,h.nl,h.ns⟩
theorem CS.kx (h0:Gd C i0 en0 w) (s:CS C w A st lo b by_ h hs p mr j ej W) (g:Gd C j' ej' W') (F:GF C.X C.B w W') (k:Kx C.X W W'):CS C w A st lo b by_ h hs p mr j' ej' W':=by
 have hX:=h0.X_lt;have hA:=s.hA;exact ⟨s.hA,(k _ (lt_of_heap s.rb) (by omega)).trans s.rb,(k _ (lt_of_heap s.cb) (by omega)).trans s.cb,orw_kx k s.ob hX,orw_kx k s.oh hX,orw_kx k s.op hX,fun x hx=>(s.mp x hx).kx k hX,g,F⟩
theorem CS.call (h0:Gd C i0 en0 w) (s:CS C w A st lo b by_ h hs p mr j ej W) (g:Gd C j' ej' W') (F:GF C.X C.B W W'):CS C w A st lo b by_ h hs p mr j' ej' W':=s.kx h0 g (s.gf.trans F) F.1
theorem CS.below (h0:Gd C i0 en0 w) (s:CS C w A st lo b by_ h hs p mr j ej W) (f:Below W.heap.size W W'):CS C w A st lo b by_ h hs p mr j ej W':=s.call h0 (s.gd.below f) (GF.of_below f s.gd.hB)
theorem CS.grown (h0:Gd C i0 en0 w) (s:CS C w A st lo b by_ h hs p mr j ej W) {α:Type} {cs:α→List Value} {e:TypeId} {sz:Nat} {v:Value} {l:List α} (o:Orw cs e sz W w.heap.size v l) (g:W.grownBy W' v.ownBlock) (he:e≠47) :
 W'.heap[w.heap.size]?=some (.cells #[.int .i64 0,.int .i64 0,.slice none 0 0,.slice none 0 0,.slice none 0 0] 47 (0,0))∧W'.heap[A]?=some (.cells #[.int .i64 st,.int .i64 lo,b.v,h.v,p.v] 47 (0,0))∧Gd C j ej W'∧GF C.X C.B w W'∧(∀(k:Nat) (Z:Array Value) (T:TypeId),T≠e→W.heap[k]?=some (.cells Z T (0,0))→W'.heap[k]?=W.heap[k]?):=by
 have keep:∀(k:Nat) (Z:Array Value) (T:TypeId),T≠e→W.heap[k]?=some (.cells Z T (0,0))→W'.heap[k]?=W.heap[k]?:=fun k Z T hT hk=>grown_other g (lt_of_heap hk) fun e1=>by
  obtain ⟨Y,h1⟩:=orw_block o e1;rw [h1] at hk;injection hk with hk
  injection hk with _ hk
  exact hT hk.symm
 obtain ⟨G,F⟩:=h0.grown s.gd s.gf o g;exact ⟨(keep _ _ _ (fun e=>he e.symm) s.rb).trans s.rb,(keep _ _ _ (fun e=>he e.symm) s.cb).trans s.cb,G,F,keep⟩
theorem orw_set {W:World} {A:Nat} {Z:Array Value} {T:TypeId} (hA:W.heap[A]?=some (.cells Z T (0,0))) {α:Type} {cs:α→List Value} {e:TypeId} {sz base:Nat} {v:Value} {l:List α} (o:Orw cs e sz W base v l) (hT:T≠e) (q:Nat) (u:Value):Orw cs e sz (W.setCell ⟨A,q,none⟩ u) base v l:=
 o.keep fun k X _ hk=>Below.heap_setCell _ _ _ _ fun e1=>by
  simp only at e1;subst e1;rw [hA] at hk;injection hk with hk
  injection hk with _ hk
  exact hT hk
theorem MpOk.set {l:List Ent} {W:World} {base:Nat} {r:MpR} (h:MpOk l W base r) {A:Nat} {Z:Array Value} (hA:W.heap[A]?=some (.cells Z 47 (0,0))) (q:Nat) (u:Value):MpOk l (W.setCell ⟨A,q,none⟩ u) base r:=⟨⟨orw_set hA h.own.loc (by decide) q u,orw_set hA h.own.stk (by decide) q u⟩,h.fit,h.loc,h.stk,h.nl,h.ns⟩
theorem CS.setB (h0:Gd C i0 en0 w) (s:CS C w A st lo b by_ h hs p mr j ej W) (b':Sl) (bs':List UInt8) (o:Orw byc 5 1 W w.heap.size b'.v bs'):CS C w A st lo b' bs' h hs p mr j ej (W.setCell ⟨A,2,none⟩ b'.v):=by
 have hA:=s.hA;obtain ⟨G,F⟩:=h0.put s.gd s.gf (H:=A) (by omega) 2 b'.v;exact ⟨s.hA,(Below.heap_setCell _ _ _ _ (by show w.heap.size≠A;omega)).trans s.rb,heap_setCell_same W A 2 _ _ _ s.cb,orw_set s.cb o (by decide) _ _,orw_set s.cb s.oh (by decide) _ _,orw_set s.cb s.op (by decide) _ _,fun x hx=>(s.mp x hx).set s.cb _ _,G,F⟩
theorem CS.pushH (h0:Gd C i0 en0 w) (s:CS C w A st lo b by_ h hs p mr j ej W) (x:Hd) (hl:hs.length≤100000) (X:Array Value) (hX:X.toList=hdc x) :
 Orw hdc 93 4 (W.alloc (.cells X 93)) w.heap.size h.v hs∧Ls 4 hdc (W.alloc (.cells X 93)) (some ⟨W.heap.size,0,none⟩) 1 [x]∧(hs.length+1)*32≤140737488355328∧hs.length+1≤140737488355328∧w.heap.size≤(W.alloc (.cells X 93)).heap.size ∧
  ∀(h':Sl) w',Orw hdc 93 4 w' w.heap.size h'.v (hs++[x])→(W.alloc (.cells X 93)).grownBy w' h.v.ownBlock→w'.heap[A]?=some (.cells #[.int .i64 st,.int .i64 lo,b.v,h.v,p.v] 47 (0,0))∧CS C w A st lo b by_ h' (hs++[x]) p mr j ej (w'.setCell ⟨A,3,none⟩ h'.v):=by
 obtain ⟨o3,l3,s1,s2,s3,_⟩:=rec_push h0 s.gd s.gf rkH s.oh X x hX hl (by decide);refine ⟨o3,l3,s1,s2,s3,fun h' w' o g=>?_⟩;have s':=s.below h0 (W':=W.alloc (.cells X 93)) ((Below.refl _ _).alloc (Nat.le_refl _) _);obtain ⟨r1,c1,g1,f1,keep⟩:=s'.grown h0 o3 g (by decide);have hA:=s.hA;obtain ⟨G,F⟩:=h0.put g1 f1 (H:=A) (by omega) 3 h'.v;refine ⟨c1,s.hA,(Below.heap_setCell _ _ _ _ (by show w.heap.size≠A;omega)).trans r1,heap_setCell_same w' A 3 _ _ _ c1,?_,orw_set c1 o (by decide) _ _,?_,fun x hx=>?_,G,F⟩
 · exact orw_set c1 (s'.ob.keep fun k Z _ hk=>keep k Z _ (by decide) hk) (by decide) _ _
 · exact orw_set c1 (s'.op.keep fun k Z _ hk=>keep k Z _ (by decide) hk) (by decide) _ _
 · exact ((s'.mp x hx).keep fun k Z hk=>keep k Z _ (by decide) hk).set c1 _ _
theorem CS.pushP (h0:Gd C i0 en0 w) (s:CS C w A st lo b by_ h hs p mr j ej W) (x:MpR) (hx:MpOk C.l W w.heap.size x) (hl:mr.length≤100000) (X:Array Value) (hX:X.toList=mpc x) :
 Orw mpc 52 3 (W.alloc (.cells X 52)) w.heap.size p.v mr∧Ls 3 mpc (W.alloc (.cells X 52)) (some ⟨W.heap.size,0,none⟩) 1 [x]∧(mr.length+1)*56≤140737488355328∧mr.length+1≤140737488355328∧w.heap.size≤(W.alloc (.cells X 52)).heap.size ∧
  ∀(p':Sl) w',Orw mpc 52 3 w' w.heap.size p'.v (mr++[x])→(W.alloc (.cells X 52)).grownBy w' p.v.ownBlock→w'.heap[A]?=some (.cells #[.int .i64 st,.int .i64 lo,b.v,h.v,p.v] 47 (0,0))∧CS C w A st lo b by_ h hs p' (mr++[x]) j ej (w'.setCell ⟨A,4,none⟩ p'.v):=by
 obtain ⟨o3,l3,s1,s2,s3,_⟩:=rec_push h0 s.gd s.gf rkP s.op X x hX hl (by decide);refine ⟨o3,l3,s1,s2,s3,fun p' w' o g=>?_⟩;have b3:Below W.heap.size W (W.alloc (.cells X 52)):=(Below.refl _ _).alloc (Nat.le_refl _) _;have s':=s.below h0 b3;obtain ⟨r1,c1,g1,f1,keep⟩:=s'.grown h0 o3 g (by decide);have hA:=s.hA;obtain ⟨G,F⟩:=h0.put g1 f1 (H:=A) (by omega) 4 p'.v;have hx':=hx.kx (Kx.of_below (x:=C.X) b3) h0.X_lt;refine ⟨c1,s.hA,(Below.heap_setCell _ _ _ _ (by show w.heap.size≠A;omega)).trans r1,heap_setCell_same w' A 4 _ _ _ c1,?_,?_,orw_set c1 o (by decide) _ _,fun y hy=>?_,G,F⟩
 · exact orw_set c1 (s'.ob.keep fun k Z _ hk=>keep k Z _ (by decide) hk) (by decide) _ _
 · exact orw_set c1 (s'.oh.keep fun k Z _ hk=>keep k Z _ (by decide) hk) (by decide) _ _
 · rcases List.mem_append.1 hy with hy | hy
   · exact ((s'.mp y hy).keep fun k Z hk=>keep k Z _ (by decide) hk).set c1 _ _
   · simp at hy
     subst hy;exact (hx'.keep fun k Z hk=>keep k Z _ (by decide) hk).set c1 _ _
end
def mapsN (ms:List Mp):Nat:=(ms.map fun m=>1+m.loc.length+m.stk.length).sum
def methN (m:Md):Nat:=m.code.bytes.length+m.code.hs.length+mapsN m.code.maps
def sizeK (c:Cl):Nat:=c.pool.length+c.fields.length+c.methods.length+(c.methods.map methN).sum
end Go.Proofs.YtlabllgifkklhaaGreatDoor
