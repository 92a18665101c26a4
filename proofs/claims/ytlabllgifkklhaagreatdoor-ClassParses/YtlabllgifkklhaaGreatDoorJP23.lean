/- Joined: CrN CrO CkY CkZ CrP. -/
import Derived.Test.YtlabllgifkklhaaGreatDoorJP22
import Derived.Test.YtlabllgifkklhaaGreatDoorJP11
set_option linter.unusedVariables false
set_option maxRecDepth 100000
set_option maxHeartbeats 1600000
namespace Go.Proofs.YtlabllgifkklhaaGreatDoor
open Go.RowKit
def method_post (C:Cr) (i:Nat) (en:Bool) (w:World) (e:Ending) (w':World):Prop:=
 ∃(x:MdR) (i':Nat) (en':Bool),e=.returned (.agg (mdc x).toArray)∧MdOk C.l w' w.heap.size x∧Got (methodR C.l) C.bs i en x.m i' en'∧Rd8 C i' en' w'∧FX C w w'
theorem passR_224 {l:List Ent} {s s1 s2 s3:List UInt8} {a c:Int} {t:List UInt8} (h1:uR 2 s=some (a,s1)) (h2:utfR l s1=some (t,s2)) (h3:uR 4 s2=some (c,s3)):passR [2,2,4] s=some ((),s3):=by
 unfold utfR at h2;obtain ⟨⟨m3,s4⟩,ha3,ha4⟩:=Option.bind_eq_some_iff.1 h2;have hs:s4=s2:=by
  simp only at ha4;split at ha4
  · exact (got_end ha4).2
  · cases ha4
 subst hs;show (uR 2 s).bind _=_;rw [h1,Option.bind_some];show (uR 2 s1).bind _=_;rw [ha3,Option.bind_some];show (uR 4 s4).bind _=_;rw [h3];rfl
theorem rMethod_any (C:Cr) (i:Nat) (en:Bool) (w:World) (h:Rd8 C i en w) (hT:Tab8 w) :
 Calls Tryz.prog 103 #[.pointer (some ⟨C.X,0,none⟩)] w (method_post C i en w):=by
 have hB:=h.hB;have hB1:=h.one;obtain ⟨w0,e0,f0,r0⟩:∃w0,w.alloc (.cells #[.int .i64 0,.string ⟨#[]⟩,.string ⟨#[]⟩,.int .i64 0,.int .i64 0,.slice none 0 0,.slice none 0 0,.slice none 0 0] 49)=w0∧Below w.heap.size w w0∧w0.heap[w.heap.size]?=some (.cells #[.int .i64 0,.string ⟨#[]⟩,.string ⟨#[]⟩,.int .i64 0,.int .i64 0,.slice none 0 0,.slice none 0 0,.slice none 0 0] 49 (0,0)):=⟨_,rfl,(Below.refl _ _).alloc (Nat.le_refl _) _,heap_alloc_new w _⟩;have R0:=h.below f0;have F0:FX C w w0:=(FX.refl C w).on f0 hB;have HN:=hide (rNumber_any C i en w0 R0 2 (by omega));have H0:=hide (And.intro R0 (And.intro F0 (And.intro r0 (hT.below f0))));clear h f0 r0 R0 F0 hT;go_enter Tryz.func103,Tryz.ntmps103;go_wp2_with fail;refine (unhide HN).mono ?_;rintro e w1 ⟨n1,j1,e1,rfl,b1,g1,R1,f1⟩;clear HN;have H1:=hide (And.intro b1 (And.intro g1 (And.intro R1 f1)));have HN:=hide (rText_any C j1 e1 w1 R1);clear b1 g1 R1 f1 e0;go_wp2_with fail;refine (unhide HN).mono ?_;rintro e w2 ⟨n2,j2,e2,rfl,b2,g2,R2,f2⟩;clear HN;have H2:=hide (And.intro b2 (And.intro g2 (And.intro R2 f2)));have HN:=hide (rText_any C j2 e2 w2 R2);clear b2 g2 R2 f2;go_wp2_with fail;refine (unhide HN).mono ?_;rintro e w3 ⟨n3,j3,e3,rfl,b3,g3,R3,f3⟩;clear HN;have H3:=hide (And.intro b3 (And.intro g3 (And.intro R3 f3)));clear b3 g3 R3 f3;go_wp2_with fail;obtain ⟨b3,g3,R3,f3⟩:=unhide H3;obtain ⟨w4,e4,b4,r4,s4⟩:∃w4,w3.alloc (.cells #[.int .i64 n1,.string ⟨n2.toArray⟩,.string ⟨n3.toArray⟩,.int .i64 0,.int .i64 0,.slice none 0 0,.slice none 0 0,.slice none 0 0] 49)=w4∧Below w3.heap.size w3 w4∧w4.heap[w3.heap.size]?=some (.cells #[.int .i64 n1,.string ⟨n2.toArray⟩,.string ⟨n3.toArray⟩,.int .i64 0,.int .i64 0,.slice none 0 0,.slice none 0 0,.slice none 0 0] 49 (0,0))∧w4.heap.size=w3.heap.size+1:=⟨_,rfl,(Below.refl _ _).alloc (Nat.le_refl _) _,heap_alloc_new w3 _,by simp⟩;rw [e4];have R4:=R3.below b4;have b5:Below w4.heap.size w4 (w4.alloc (.cells #[.int .i64 2,.int .i64 2,.int .i64 4] 3)):=(Below.refl _ _).alloc (Nat.le_refl _) _;have R5:=R4.below b5;have r5:=(b5.block _ (lt_of_heap r4)).trans r4;have F5:FX C w3 (w4.alloc (.cells #[.int .i64 2,.int .i64 2,.int .i64 4] 3)):=((FX.refl C w3).on b4 R3.hB).on b5 R3.hB;have i5:(w4.alloc (.cells #[.int .i64 2,.int .i64 2,.int .i64 4] 3)).heap[w3.heap.size+1]?=some (.cells #[.int .i64 2,.int .i64 2,.int .i64 4] 3 (0,0)):=by
  rw [←s4];exact heap_alloc_new w4 _
 refine Calls.mono (rPass_any C j3 e3 _ R5 [2,2,4] (by simp) (w3.heap.size+1) 3 3 rfl (by omega) i5) ?_;rintro e w6 ⟨j6,e6,rfl,g6,R6,f6⟩;obtain ⟨R0,F0,r0,T0⟩:=unhide H0;obtain ⟨b1,g1,R1,f1⟩:=unhide H1;obtain ⟨b2,g2,R2,f2⟩:=unhide H2;have f36:=F5.trans f6;have l6:=R5.blk f6 r5 (by decide) (by decide);have T6:=(f1.trans (f2.trans (f3.trans f36))).tab hB1 T0;have HN:=hide (rCode_any C j6 e6 w6 R6 T6);have H6:=hide (And.intro g6 (And.intro R6 (And.intro f36 l6)));clear b3 g3 R3 f3 b4 r4 R4 b5 R5 r5 F5 g6 R6 f6 f36 l6 T6 R0 F0 r0 T0 b1 g1 R1 f1 b2 g2 R2 f2 e4 i5;go_wp2_with fail;refine (unhide HN).mono ?_;rintro e w7 ⟨c7,⟨ba,bn,bc⟩,⟨ha,hn,hc⟩,⟨pa,pn,pc⟩,mr,j7,e7,rfl,ok7,g7,R7,f7⟩;clear HN;obtain ⟨R0,F0,r0,T0⟩:=unhide H0;obtain ⟨b1,g1,R1,f1⟩:=unhide H1;obtain ⟨b2,g2,R2,f2⟩:=unhide H2;obtain ⟨b3,g3,R3,f3⟩:=unhide H3;obtain ⟨g6,R6,f36,l6⟩:=unhide H6;have f37:=f36.trans f7;have fall:=f1.trans (f2.trans (f3.trans f37));have r7:=R0.blk fall r0 (by decide) (by decide);have l7:=R6.blk f7 l6 (by decide) (by decide);have hlt:=lt_of_heap r0;have s1:=f1.size;have s2:=f2.size;have s3:=f3.size;have s6:=f36.size;have hl3:w.heap.size<w3.heap.size:=by omega
 have hne1:¬w3.heap.size=w.heap.size:=by omega
 have hne2:¬w.heap.size=w3.heap.size:=by omega
 have hl67:=lt_of_heap l6
 obtain ⟨w8,e8,l8,k8⟩:∃w8,w7.setCells w3.heap.size 3 [.int .i64 c7.stack,.int .i64 c7.locals,.slice ba bn bc,.slice ha hn hc,.slice pa pn pc]=w8∧w8.heap[w3.heap.size]?=some (.cells #[.int .i64 n1,.string ⟨n2.toArray⟩,.string ⟨n3.toArray⟩,.int .i64 c7.stack,.int .i64 c7.locals,.slice ba bn bc,.slice ha hn hc,.slice pa pn pc] 49 (0,0))∧∀k,k≠w3.heap.size→w8.heap[k]?=w7.heap[k]?:=
  ⟨_,rfl,bx_cells [.int .i64 c7.stack,.int .i64 c7.locals,.slice ba bn bc,.slice ha hn hc,.slice pa pn pc] [.int .i64 n1,.string ⟨n2.toArray⟩,.string ⟨n3.toArray⟩] [.int .i64 0,.int .i64 0,.slice none 0 0,.slice none 0 0,.slice none 0 0] w7 l7 rfl,fun k hk=>heap_cells_other _ _ _ _ _ hk⟩
 have e8':((((w7.setCell ⟨w3.heap.size,3,none⟩ (.int .i64 c7.stack)).setCell ⟨w3.heap.size,4,none⟩ (.int .i64 c7.locals)).setCell ⟨w3.heap.size,5,none⟩ (.slice ba bn bc)).setCell ⟨w3.heap.size,6,none⟩ (.slice ha hn hc)).setCell ⟨w3.heap.size,7,none⟩ (.slice pa pn pc)=w8:=e8;have R8:Rd8 C j7 e7 w8:=by rw [←e8];exact R7.cells l7 (by decide) 3 _
 have F8:FX C w w8:=by rw [←e8];exact (F0.trans fall).cells (Nat.le_of_lt hl3) hB 3 _
 have r8:=(k8 w.heap.size (by omega)).trans r7;have y3:=bx_cell l7 3 _ rfl;have y4:=bx_cell l7 4 _ rfl;have y5:=bx_cell l7 5 _ rfl;have y6:=bx_cell l7 6 _ rfl;have y7:=bx_cell l7 7 _ rfl;have t3:=bx_thaw l7 3;have t4:=bx_thaw l7 4;have t5:=bx_thaw l7 5;have t6:=bx_thaw l7 6;have t7:=bx_thaw l7 7;have HG:Hid (Got (methodR C.l) C.bs i en ⟨n1,n2,n3,c7⟩ j7 e7):=hide ⟨fun e=>g7.1 (g6.1 (g3.1 (g2.1 (g1.1 e)))),fun e v0 r hr=>by
  unfold methodR at hr;obtain ⟨k1,hr⟩:=got_bind g1 e hr;obtain ⟨k2,hr⟩:=got_bind g2 k1 hr;obtain ⟨k3,hr⟩:=got_bind g3 k2 hr;obtain ⟨⟨m1,s1⟩,h1,hr⟩:=Option.bind_eq_some_iff.1 hr;obtain ⟨⟨m2,s2⟩,h2,hr⟩:=Option.bind_eq_some_iff.1 hr;obtain ⟨⟨m3,s3⟩,h3,hr⟩:=Option.bind_eq_some_iff.1 hr;obtain ⟨_,k6,d6⟩:=g6.2 k3 () s3 (passR_224 h1 h2 h3);simp only at hr;rw [←d6] at hr;obtain ⟨k7,hr⟩:=got_bind g7 k6 hr;obtain ⟨h4,h5⟩:=got_end hr;exact ⟨h4,k7,h5⟩⟩
 have hb6:w3.heap.size+1≤w6.heap.size:=hl67;have HM:Hid (∀W,(∀k,k≠w.heap.size→W.heap[k]?=w8.heap[k]?)→MdOk C.l W w.heap.size ⟨⟨n1,n2,n3,c7⟩,⟨ba,bn,bc⟩,⟨ha,hn,hc⟩,⟨pa,pn,pc⟩,mr⟩):=hide fun W hW=>by
  have hk:∀{v:Value} {α:Type} {cs:α→List Value} {e:TypeId} {sz:Nat} {l:List α},Orw cs e sz w7 w6.heap.size v l→Orw cs e sz W w.heap.size v l:=fun o=>(o.below fun k hk=>(hW k (by have:=(o.lt k hk).1;omega)).trans (k8 k (by have:=(o.lt k hk).1;omega))).base (by omega)
  exact ⟨⟨hk ok7.own.bs,hk ok7.own.hs,hk ok7.own.maps,fun x hx=>⟨hk (ok7.own.each x hx).loc,hk (ok7.own.each x hx).stk⟩,ok7.own.same⟩,fit4 b1,b2,b3,ok7.st,ok7.lo,ok7.hs,fun x hx=>⟨⟨hk (ok7.mp x hx).own.loc,hk (ok7.mp x hx).own.stk⟩,(ok7.mp x hx).fit,(ok7.mp x hx).loc,(ok7.mp x hx).stk,(ok7.mp x hx).nl,(ok7.mp x hx).ns⟩,ok7.nb,ok7.nh,ok7.np⟩
 have q0:w8.cell? ⟨w.heap.size,0,none⟩=some (.int .i64 0):=bx_cell r8 0 _ rfl;have z0:=bx_thaw r8 0;have d0:w8.cell? ⟨w3.heap.size,0,none⟩=some (.int .i64 n1):=bx_cell l8 0 _ rfl;have q1:w8.cell? ⟨w.heap.size,1,none⟩=some (.string ⟨#[]⟩):=bx_cell r8 1 _ rfl;have z1:=bx_thaw r8 1;have d1:w8.cell? ⟨w3.heap.size,1,none⟩=some (.string ⟨n2.toArray⟩):=bx_cell l8 1 _ rfl;have q2:w8.cell? ⟨w.heap.size,2,none⟩=some (.string ⟨#[]⟩):=bx_cell r8 2 _ rfl;have z2:=bx_thaw r8 2;have d2:w8.cell? ⟨w3.heap.size,2,none⟩=some (.string ⟨n3.toArray⟩):=bx_cell l8 2 _ rfl;have q3:w8.cell? ⟨w.heap.size,3,none⟩=some (.int .i64 0):=bx_cell r8 3 _ rfl;have z3:=bx_thaw r8 3;have d3:w8.cell? ⟨w3.heap.size,3,none⟩=some (.int .i64 c7.stack):=bx_cell l8 3 _ rfl;have q4:w8.cell? ⟨w.heap.size,4,none⟩=some (.int .i64 0):=bx_cell r8 4 _ rfl;have z4:=bx_thaw r8 4;have d4:w8.cell? ⟨w3.heap.size,4,none⟩=some (.int .i64 c7.locals):=bx_cell l8 4 _ rfl;have q5:w8.cell? ⟨w.heap.size,5,none⟩=some (.slice none 0 0):=bx_cell r8 5 _ rfl;have z5:=bx_thaw r8 5;have d5:w8.cell? ⟨w3.heap.size,5,none⟩=some (.slice ba bn bc):=bx_cell l8 5 _ rfl;have q6:w8.cell? ⟨w.heap.size,6,none⟩=some (.slice none 0 0):=bx_cell r8 6 _ rfl;have z6:=bx_thaw r8 6;have d6:w8.cell? ⟨w3.heap.size,6,none⟩=some (.slice ha hn hc):=bx_cell l8 6 _ rfl;have q7:w8.cell? ⟨w.heap.size,7,none⟩=some (.slice none 0 0):=bx_cell r8 7 _ rfl;have z7:=bx_thaw r8 7;have d7:w8.cell? ⟨w3.heap.size,7,none⟩=some (.slice pa pn pc):=bx_cell l8 7 _ rfl;have HR:=hide (And.intro R8 (And.intro F8 r8));clear H0 H1 H2 H3 H6 R0 F0 r0 T0 b1 g1 R1 f1 b2 g2 R2 f2 b3 g3 R3 f3 g6 R6 f36 l6 ok7 g7 R7 f7 f37 fall r7 l7 hlt s1 s2 s3 s6 hl67 R8 F8 k8 e8 hb6 l8 r8;unfold Sl.v;simp only;go_wp2_with fail;obtain ⟨R8,F8,r8⟩:=unhide HR;have r9:=bx_whole [.int .i64 0,.string ⟨#[]⟩,.string ⟨#[]⟩,.int .i64 0,.int .i64 0,.slice none 0 0,.slice none 0 0,.slice none 0 0] [.int .i64 n1,.string ⟨n2.toArray⟩,.string ⟨n3.toArray⟩,.int .i64 c7.stack,.int .i64 c7.locals,.slice ba bn bc,.slice ha hn hc,.slice pa pn pc] r8 rfl;refine bodyPost_ret (v:=.agg #[.int .i64 n1,.string ⟨n2.toArray⟩,.string ⟨n3.toArray⟩,.int .i64 c7.stack,.int .i64 c7.locals,.slice ba bn bc,.slice ha hn hc,.slice pa pn pc]) ?_ rfl ⟨⟨⟨n1,n2,n3,c7⟩,⟨ba,bn,bc⟩,⟨ha,hn,hc⟩,⟨pa,pn,pc⟩,mr⟩,j7,e7,rfl,unhide HM _ (fun k hk=>heap_cells_other _ [.int .i64 n1,.string ⟨n2.toArray⟩,.string ⟨n3.toArray⟩,.int .i64 c7.stack,.int .i64 c7.locals,.slice ba bn bc,.slice ha hn hc,.slice pa pn pc] 0 _ _ hk),unhide HG,R8.cells r8 (by decide) 0 [.int .i64 n1,.string ⟨n2.toArray⟩,.string ⟨n3.toArray⟩,.int .i64 c7.stack,.int .i64 c7.locals,.slice ba bn bc,.slice ha hn hc,.slice pa pn pc],F8.cells (Nat.le_refl _) hB 0 [.int .i64 n1,.string ⟨n2.toArray⟩,.string ⟨n3.toArray⟩,.int .i64 c7.stack,.int .i64 c7.locals,.slice ba bn bc,.slice ha hn hc,.slice pa pn pc]⟩;exact results_cell_row Tryz.results103 _ _ w.heap.size 49 _ (0,0) _ rfl r9 Tryz.underlying49 rfl sizeMethod9
def rlM_post (C:Cr) (i:Nat) (en:Bool) (w:World) (e:Ending) (w':World):Prop:=
 ∃(s:Sl) (xs:List MdR) (i':Nat) (en':Bool),e=.returned s.v∧(Orw mdc 49 8 w' w.heap.size s.v xs∧(∀x∈xs,(MdOk C.l) w' w.heap.size x)∧xs.length≤4294967296)∧Got (listR (methodR C.l)) C.bs i en (xs.map MdR.m) i' en'∧Rd8 C i' en' w'∧FX C w w'
theorem rlM_any (C:Cr) (i:Nat) (en:Bool) (w:World) (h:Rd8 C i en w) (hT:Tab8 w) :
 Calls Tryz.prog 102 #[.pointer (some ⟨C.X,0,none⟩),.func (.func 103) #[.pointer (some ⟨C.X,0,none⟩)] #[]] w (rlM_post C i en w):=by
 have hB:=h.hB;have hB1:=h.one;have HN:=hide (rNumber_any C i en w h 2 (by omega));have HO:Hid (∀j ej W,Rd8 C j ej W→Tab8 W→Calls Tryz.prog 103 #[.pointer (some ⟨C.X,0,none⟩)] W fun e w'=>∃(x:MdR) (i':Nat) (en':Bool),e=.returned (.agg (mdc x).toArray)∧(MdOk C.l) w' W.heap.size x∧Got (methodR C.l) C.bs j ej x.m i' en'∧Rd8 C i' en' w'∧FX C W w'):=hide fun j ej W hW hTW=>rMethod_any C j ej W hW hTW
 have KO:Hid (∀(W W2:World) (B:Nat) (x:MdR),(MdOk C.l) W B x→(∀(k:Nat) (Z:Array Value) (T:TypeId),W.heap[k]?=some (.cells Z T (0,0))→T=5∨T=93∨T=52∨T=143→W2.heap[k]?=W.heap[k]?)→(MdOk C.l) W2 B x):=hide (fun W W2 B x hx f=>hx.keep f);have HT:=hide hT;clear h hT;go_enter Tryz.func102,Tryz.ntmps102;go_wp2_with fail;refine (unhide HN).mono ?_;rintro e w1 ⟨n,i1,e1,rfl,hn,g1,R1,f1⟩;obtain ⟨N,rfl⟩:∃N:Nat,n=N:=⟨n.toNat,by omega⟩;have HG:=hide g1;have H1:=hide (And.intro R1 f1);clear HN g1 R1 f1;go_wp2
 go_loopw [6] (fun v wr=>∃xs j ej,Orw mdc 49 8 wr w.heap.size v xs∧xs.length≤N∧(∀x∈xs,(MdOk C.l) wr w.heap.size x)∧Mid (methodR C.l) C.bs N e1 (C.bs.drop i1) (xs.map MdR.m) j ej∧Rd8 C j ej wr∧FX C w wr) (fun v _=>N-slLen v)
 case atStart=>exact ⟨[],i1,e1,Orw.nil _ _ _ _ _,Nat.zero_le _,(fun x hx=>by cases hx),⟨fun e=>e,fun e vs r hr=>⟨e,vs,rfl,hr⟩⟩,(unhide H1).1,(unhide H1).2⟩
 case round=>
  obtain ⟨xs,j,ej,hO,hN,hE,hM,hR,hF⟩:=hrel;obtain ⟨a,c,rfl,hf1,hf2,hf3⟩:=hO.form;obtain ⟨ra,rc,rq,_⟩:=hR.pl;have cX:=bx_cell rq 2 _ rfl
  by_cases hlt:xs.length<N
  · have hlt1:(xs.length:Int)<(N:Int):=by omega
    cases ej with
    | true=>
     have HD:=hide (And.intro hO (And.intro hE (And.intro hM (And.intro hR hF))));clear hO hE hM hR hF rq hf1 hf2 hf3;go_wp2;go_ret;obtain ⟨hO,hE,hM,hR,hF⟩:=unhide HD;exact ⟨⟨a,xs.length,c⟩,xs,j,true,rfl,⟨hO,hE,by omega⟩,Mid.done (unhide HG) rfl hM (.inr rfl),hR,hF⟩
    | false=>
     have HP:=hide (unhide HO j false wr hR (hF.tab hB1 (unhide HT)));have HD:=hide (And.intro hO (And.intro hE (And.intro hM (And.intro hR hF))));clear hO hE hM hR hF rq hf1 hf2 hf3;go_wp2_with fail;refine (unhide HP).mono ?_;rintro e w2 ⟨x,j2,e2,rfl,ok2,g2,R2,f2⟩;obtain ⟨hO,hE,hM,hR,hF⟩:=unhide HD;clear HP cX HD;have hsz:=hF.size;have O2:Orw mdc 49 8 w2 w.heap.size (.slice a xs.length c) xs:=hR.orw f2 hO (by decide) (by decide);have F2:=hF.trans f2;have hE2:∀x∈xs,(MdOk C.l) w2 w.heap.size x:=fun x hx=>unhide KO wr w2 w.heap.size x (hE x hx) fun k Z T hk hT=>(hR.blk f2 hk (by rcases hT with rfl | rfl | rfl | rfl <;> decide) (by rcases hT with rfl | rfl | rfl | rfl <;> decide)).trans hk.symm
     have b3:Below w2.heap.size w2 (w2.alloc (.cells #[.int .i64 x.m.acc,.string ⟨x.m.name.toArray⟩,.string ⟨x.m.type.toArray⟩,.int .i64 x.m.code.stack,.int .i64 x.m.code.locals,x.bs.v,x.hs.v,x.maps.v] 49)):=(Below.refl _ _).alloc (Nat.le_refl _) _;have O3:Orw mdc 49 8 (w2.alloc (.cells #[.int .i64 x.m.acc,.string ⟨x.m.name.toArray⟩,.string ⟨x.m.type.toArray⟩,.int .i64 x.m.code.stack,.int .i64 x.m.code.locals,x.bs.v,x.hs.v,x.maps.v] 49)) w.heap.size (.slice a xs.length c) xs:=O2.below fun k hk=>b3.block k (O2.lt k hk).2
     have l3:=ls_one (cs:=mdc) (sz:=8) w2 #[.int .i64 x.m.acc,.string ⟨x.m.name.toArray⟩,.string ⟨x.m.type.toArray⟩,.int .i64 x.m.code.stack,.int .i64 x.m.code.locals,x.bs.v,x.hs.v,x.maps.v] 49 x rfl;have R3:=R2.below b3;have F3:=F2.on b3 hB;have hM2:=hM.next (by simpa using hlt) g2;have ok3:∀y∈xs++[x],(MdOk C.l) (w2.alloc (.cells #[.int .i64 x.m.acc,.string ⟨x.m.name.toArray⟩,.string ⟨x.m.type.toArray⟩,.int .i64 x.m.code.stack,.int .i64 x.m.code.locals,x.bs.v,x.hs.v,x.maps.v] 49)) w.heap.size y:=fun y hy=>by
      rcases List.mem_append.1 hy with hy | hy
      · exact unhide KO w2 _ w.heap.size y (hE2 y hy) fun k Z T hk _=>b3.block k (lt_of_heap hk)
      · simp at hy
        subst hy;exact unhide KO w2 _ w.heap.size y (ok2.base (Nat.le_trans hsz (Nat.le_refl _))) fun k Z T hk _=>b3.block k (lt_of_heap hk)
     have hln:(xs.length+1)*128≤140737488355328:=by omega
     have hln2:xs.length+1≤140737488355328:=by omega
     have hbs:w.heap.size≤(w2.alloc (.cells #[.int .i64 x.m.acc,.string ⟨x.m.name.toArray⟩,.string ⟨x.m.type.toArray⟩,.int .i64 x.m.code.stack,.int .i64 x.m.code.locals,x.bs.v,x.hs.v,x.maps.v] 49)).heap.size:=F3.size;have HO3:=hide O3;have HL3:=hide l3;have HLN:=hide hln;have HLN2:=hide hln2;have HBS:=hide hbs;have HX:=hide (And.intro R3 (And.intro F3 (And.intro ok3 hM2)));clear hO hE hM hR hF O2 F2 hE2 b3 O3 l3 R3 F3 hM2 ok3 ok2 g2 R2 f2 hln hln2 hbs;unfold mdc Sl.v at *
     try simp only at *
     go_wp2_with (first
      | (at_builtin;refine listR_append rkM rfl _ _ rfl w.heap.size _ _ rfl (unhide HO3) _ 1 1 [_] rfl (unhide HL3) (fun e=>by cases e) (unhide HLN) (unhide HLN2) (unhide HBS) ?_)
      | go_in)
     intro v' w4 o4 g4;obtain ⟨R3,F3,ok3,hM2⟩:=unhide HX;obtain ⟨a4,c4,hv4,_⟩:=o4.form;have R4:=R3.grown (unhide HO3) g4 (by decide);have F4:=F3.grown hB (unhide HO3) g4;have ok4:∀y∈xs++[x],(MdOk C.l) w4 w.heap.size y:=fun y hy=>unhide KO _ w4 w.heap.size y (ok3 y hy) fun k Z T hk hT=>grown_other g4 (lt_of_heap hk) fun e1=>by
      obtain ⟨Y,h1⟩:=orw_block (unhide HO3) e1;rw [h1] at hk;injection hk with hk
      injection hk with _ hk
      subst hk
      rcases hT with hT | hT | hT | hT <;> cases hT
     have HZ:=hide (And.intro o4 (And.intro ok4 (And.intro R4 (And.intro F4 hM2))));have HV:=hide hv4;clear o4 ok4 R4 F4 R3 F3 ok3 hM2 g4 HX HO3 HL3 HLN HLN2 HBS hv4;go_wp2;go_roundw
     case rel=>
      obtain ⟨o4,ok4,R4,F4,hM2⟩:=unhide HZ;exact ⟨_,j2,e2,o4,by simp;omega,ok4,by rw [List.map_append];exact hM2,R4,F4⟩
     case measure=>
      rw [unhide HV];simp [slLen];omega
  · have hlt1:¬(xs.length:Int)<(N:Int):=by omega
    have HD:=hide (And.intro hO (And.intro hE (And.intro hM (And.intro hR hF))));clear hO hE hM hR hF rq hf1 hf2 hf3;go_wp2;go_ret;obtain ⟨hO,hE,hM,hR,hF⟩:=unhide HD;exact ⟨⟨a,xs.length,c⟩,xs,j,ej,rfl,⟨hO,hE,by omega⟩,Mid.done (unhide HG) rfl hM (.inl (by simpa using hlt)),hR,hF⟩
theorem Orw.lin {α:Type} {cs:α→List Value} {e t:TypeId} {sz by_:Nat} {z:Value} (R:Rk cs e t sz by_ z) {ok:α→Prop} {w:World} {base:Nat} {s:Sl} {l:List α} (h:Orw cs e sz w base s.v l) (hs:l.length*by_≤140737488351232) (he:∀x∈l,ok x):LIn sz by_ cs ok w s l:=by
 obtain ⟨a,n,c⟩:=s;obtain ⟨a',c',e1,h1,h2,h3⟩:=h.form;injection e1 with ea en ec
 subst ea en ec;exact ⟨Orw.ls R h,h2,h3,h1,hs,he⟩
theorem MpOwn.mpIn {w W:World} {base:Nat} {r r':MpR} (h:MpIn w r) (e:r'.m=r.m) (o:MpOwn W base r'):MpIn W r':=by
 have ll:=h.loc.ls.1;have ls:=h.stk.ls.1;refine ⟨by rw [e];exact h.fit,o.loc.lin rkT (by rw [e,ll];exact h.loc.small) (by rw [e];exact h.loc.each),o.stk.lin rkT (by rw [e,ls];exact h.stk.small) (by rw [e];exact h.stk.each)⟩
theorem map_find {α β:Type} {m:α→β} {l l':List α} (h:l'.map m=l.map m) {x:α} (hx:x∈l'):∃y∈l,m x=m y:=by
 have:m x∈l.map m:=by rw [←h];exact List.mem_map_of_mem hx
 obtain ⟨y,hy,e⟩:=List.mem_map.1 this;exact ⟨y,hy,e.symm⟩
theorem orw_arg {w:World} {base:Nat} {s:Sl} {l:List UInt8} (h:Orw byc 5 1 w base s.v l):Arg w s.a s.n s.c l∧l.length=s.n:=by
 obtain ⟨a,n,c⟩:=s;have h0:=h;obtain ⟨a',c',e1,h1,h2,h3⟩:=h.form;injection e1 with ea en ec
 subst ea en ec;unfold Orw at h0;rw [byc_bv] at h0;exact ⟨arg_of_own rfl h0,rfl⟩
theorem MdOwn.mdIn {w W:World} {base:Nat} {r r':MdR} (h:MdIn w r) (e:r'.m=r.m) (o:MdOwn W base r'):MdIn W r':=by
 have hb:=h.bs.bs.1;have hl:=h.hs.ls.1;have hm:=h.maps.ls.1;have hsm:r'.mr.map MpR.m=r.mr.map MpR.m:=by rw [←o.same,←h.same,e]
 have hln:r'.mr.length=r.mr.length:=by simpa using congrArg List.length hsm
 obtain ⟨q1,q2⟩:=orw_arg o.bs;refine ⟨by rw [e];exact h.acc,by rw [e];exact h.name,by rw [e];exact h.type,by rw [e];exact h.stack,by rw [e];exact h.locals,q1,?_,o.hs.lin rkH (by rw [e,hl];exact h.hs.small) (by rw [e];exact h.hs.each),o.maps.lin rkP (by rw [hln,hm];exact h.maps.small) (fun x hx=>?_),o.same⟩
 · rw [←q2,e,hb]
   exact h.few
 · obtain ⟨y,hy,e1⟩:=map_find hsm hx
   exact (o.each x hx).mpIn (h.maps.each y hy) e1
theorem entsR_fit8 {bs:List UInt8} {n:Nat} (hn:bs.length≤1000000):∀(f:Nat) (l:List Ent) (i:Nat),EntsFit7 l→EntsFit7 (entsR bs n f l i).1
 | 0,l,i,h=>h
 | f+1,l,i,h=>by
  rw [entsR];split
  · exact h
  · simp only
    split
    · exact h
    · exact entsR_fit8 hn f _ _ (h.more (entR_fit hn))
theorem readP_fit8 {bs:List UInt8} {i:Nat} (hn:bs.length≤1000000):EntsFit7 (readP bs i).1:=by
 have e0:EntsFit7 []:=⟨fun y hy=>by simp at hy,fun y hy=>by simp at hy⟩;have e1:EntsFit7 [ent0]:=⟨fun y hy=>by simp at hy;subst hy;decide,fun y hy=>by simp at hy;subst hy;exact fit0⟩;unfold readP;simp only
 repeat' split
 all_goals first | exact e0 | exact entsR_fit8 hn _ _ _ e1
theorem Txt8.fit {l:List Ent} {s:List UInt8} (h:Txt8 l s) (hl:EntsFit7 l):fitS s:=by
 unfold fitS
 rcases h with rfl | ⟨x,hx,rfl⟩
 · simp
 · exact hl.1 x hx
theorem MpOk.mpIn {l:List Ent} {w:World} {base:Nat} {r:MpR} (h:MpOk l w base r) (hl:EntsFit7 l):MpIn w r:=
 ⟨h.fit,h.own.loc.lin rkT (by have:=h.nl;omega) (fun t ht=>⟨(h.loc t ht).1,(h.loc t ht).2.fit hl⟩),h.own.stk.lin rkT (by have:=h.ns;omega) (fun t ht=>⟨(h.stk t ht).1,(h.stk t ht).2.fit hl⟩)⟩
theorem MdOk.mdIn {l:List Ent} {w:World} {base:Nat} {r:MdR} (h:MdOk l w base r) (hl:EntsFit7 l):MdIn w r:=by
 obtain ⟨q1,q2⟩:=orw_arg h.own.bs;exact ⟨h.acc,h.nm.fit hl,h.ty.fit hl,h.st,h.lo,q1,by have:=h.nb;omega,h.own.hs.lin rkH (by have:=h.nh;omega) h.hs,h.own.maps.lin rkP (by have:=h.np;omega) (fun x hx=>(h.mp x hx).mpIn hl),h.own.same⟩
theorem PB.keep {w w':World} {a:Option Addr} {c:Nat} {l:List Ent} (h:PB w a c l) (f:∀(k:Nat) (Z:Array Value),w.heap[k]?=some (.cells Z 55 (0,0))→w'.heap[k]?=w.heap[k]?):PB w' a c l:=by
 rcases h with h | ⟨q,e1,e2,h⟩
 · exact .inl h
 · exact .inr ⟨q,e1,e2,(f _ _ h).trans h⟩
theorem PB.ein {w:World} {a:Option Addr} {c:Nat} {l:List Ent} (h:PB w a c l) (hl:EntsFit7 l) (hn:l.length≤1024):EIn w a l.length c l:=by
 refine ⟨⟨⟨rfl,?_⟩,?_,?_,?_⟩,by omega,hl⟩
 · rcases h with ⟨_,_,h⟩ | ⟨q,e1,e2,h⟩
   · exact .inl (by rw [h];rfl)
   · exact .inr ⟨q,0,e1,es_of_block h⟩
 · rcases h with ⟨_,h1,h⟩ | ⟨q,e1,e2,h⟩
   · rw [h];simp
   · omega
 · rcases h with ⟨_,h1,h⟩ | ⟨q,e1,e2,h⟩
   · omega
   · omega
 · intro e
   rcases h with ⟨_,h1,h⟩ | ⟨q,e1,e2,h⟩
   · exact ⟨by rw [h];rfl,h1⟩
   · rw [e1] at e
     cases e
structure KS (C:Cr) (w:World) (R L:Nat) (j:Nat) (e:Bool) (Z:Array Value) (W:World):Prop where
 rd:Rd8 C j e W
 fx:FX C w W
 lb:W.heap[L]?=some (.cells Z 26 (0,0))
 rb:W.heap[R]?=some (.cells #[.slice none 0 0,.string ⟨#[]⟩,.string ⟨#[]⟩,.slice none 0 0,.slice none 0 0] 26 (0,0))
theorem KS.call {C:Cr} {w:World} {R L j j':Nat} {e e':Bool} {Z:Array Value} {W W':World} (h:KS C w R L j e Z W) (r:Rd8 C j' e' W') (f:FX C W W'):KS C w R L j' e' Z W':=
 ⟨r,h.fx.trans f,h.rd.blk f h.lb (by decide) (by decide),h.rd.blk f h.rb (by decide) (by decide)⟩
theorem KS.on {C:Cr} {w:World} {R L j:Nat} {e:Bool} {Z:Array Value} {W W':World} (h:KS C w R L j e Z W) (hB:C.B≤w.heap.size) (f:Below W.heap.size W W'):KS C w R L j e Z W':=
 ⟨h.rd.below f,h.fx.on f hB,(f.block _ (lt_of_heap h.lb)).trans h.lb,(f.block _ (lt_of_heap h.rb)).trans h.rb⟩
theorem KS.set {C:Cr} {w:World} {R L j:Nat} {e:Bool} {Z:Array Value} {W:World} (h:KS C w R L j e Z W) (hB:C.B≤w.heap.size) (hL:w.heap.size≤L) (hne:R≠L) (o:Nat) (v:Value):KS C w R L j e (Z.setIfInBounds o v) (W.setCell ⟨L,o,none⟩ v):=
 ⟨h.rd.set h.lb (by decide) o v,h.fx.cells hL hB o [v],heap_setCell_same W L o _ _ v h.lb,(Below.heap_setCell _ _ _ _ hne).trans h.rb⟩
theorem KS.other {C:Cr} {w:World} {R L j:Nat} {e:Bool} {Z:Array Value} {W:World} (h:KS C w R L j e Z W) (o:Nat) (v:Value) (k:Nat) (Y:Array Value) (T:TypeId) (hk:W.heap[k]?=some (.cells Y T (0,0))) (hT:T≠26):(W.setCell ⟨L,o,none⟩ v).heap[k]?=W.heap[k]?:=Below.heap_setCell _ _ _ _ fun e1=>by
 simp only at e1;subst e1;rw [h.lb] at hk;injection hk with hk
 injection hk with _ hk
 exact hT hk.symm
theorem passR_422 {bs:List UInt8} (h:8≤bs.length):passR [4,2,2] bs=some ((),bs.drop 8):=by
 have h1:∀k (s:List UInt8),k≤s.length→∃n,uR k s=some (n,s.drop k):=fun k s hk=>⟨_,by unfold uR;rw [if_pos hk]⟩
 obtain ⟨a,ha⟩:=h1 4 bs (by omega);obtain ⟨b,hb⟩:=h1 2 (bs.drop 4) (by rw [List.length_drop];omega);obtain ⟨c,hc⟩:=h1 2 ((bs.drop 4).drop 2) (by rw [List.length_drop,List.length_drop];omega);show (uR 4 bs).bind _=_;rw [ha,Option.bind_some];show (uR 2 (bs.drop 4)).bind _=_;rw [hb,Option.bind_some];show (uR 2 ((bs.drop 4).drop 2)).bind _=_;rw [hc,Option.bind_some];simp [passR,List.drop_drop]
theorem drop_at {bs:List UInt8} {i j:Nat} (hi:i≤bs.length) (hj:j≤bs.length) (h:bs.drop i=bs.drop j):i=j:=by
 have:=congrArg List.length h;rw [List.length_drop,List.length_drop] at this;omega
theorem restR_by (l:List Ent) (s:List UInt8):restR l s=(uR 2 s).bind fun a=>(nameR l a.2).bind fun nm=>(superR l nm.2).bind fun sp=>(uR 2 sp.2).bind fun z=>(listR (fieldR l) z.2).bind fun f=>(listR (methodR l) f.2).bind fun ms=>some (⟨l,nm.1,sp.1,f.1,ms.1⟩,ms.2):=by
 unfold restR nameR superR listR;simp only [Option.bind_assoc,fieldsR_many,methodsR_many,Option.bind_some]
def KeepC (w W:World):Prop:=∀(k:Nat) (Z:Array Value) (T:TypeId),w.heap[k]?=some (.cells Z T (0,0))→T≠26→W.heap[k]?=w.heap[k]?
theorem KeepC.refl (w:World):KeepC w w:=fun _ _ _ _ _=>rfl
theorem KeepC.of_below {w W:World} (f:Below w.heap.size w W):KeepC w W:=fun k _ _ hk _=>f.block k (lt_of_heap hk)
theorem KeepC.trans {w W W':World} (f:KeepC w W) (g:KeepC W W'):KeepC w W':=fun k Z T hk hT=>(g k Z T ((f k Z T hk hT).trans hk) hT).trans (f k Z T hk hT)
theorem KeepC.cells {w W:World} (f:KeepC w W) {R:Nat} {Z:Array Value} (hR:W.heap[R]?=some (.cells Z 26 (0,0))) (o:Nat) (vs:List Value):KeepC w (W.setCells R o vs):=f.trans fun k Y T hk hT=>heap_cells_other _ _ _ _ _ fun e=>by
 subst e;rw [hR] at hk;injection hk with hk
 injection hk with _ hk
 exact hT hk.symm
def class_post (X x B:Nat) (bs:List UInt8) (w:World) (e:Ending) (w':World):Prop:=
 ∃(r:ClR) (l:List Ent) (i':Nat) (en':Bool),e=.returned r.v∧(en'=false→∀W,KeepC w' W→CIn W r)∧(∀c0,readK bs=some c0→r.c=c0∧en'=false)∧Rd8 ⟨X,x,B,bs,l⟩ i' en' w'∧FX ⟨X,x,B,bs,l⟩ w w'
end Go.Proofs.YtlabllgifkklhaaGreatDoor
