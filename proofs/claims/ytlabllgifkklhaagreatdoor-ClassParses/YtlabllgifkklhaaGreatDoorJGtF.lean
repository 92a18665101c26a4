/- The document's class's reader: code (written by mk/mkgtf.py). -/
import Derived.Test.YtlabllgifkklhaaGreatDoorJP22
import Derived.Test.YtlabllgifkklhaaGreatDoorJP21
import Derived.Test.YtlabllgifkklhaaGreatDoorJP19
set_option linter.unusedVariables false
set_option maxRecDepth 100000
set_option maxHeartbeats 6400000
namespace Go.Proofs.YtlabllgifkklhaaGreatDoor
open Go.RowKit
theorem got_hd {bs:List UInt8} {i j1 j2 j3 j4:Nat} {en e1 e2 e3 e4:Bool} {n1 n2 n3 n4:Int} (g1:Got (uR 2) bs i en n1 j1 e1) (g2:Got (uR 2) bs j1 e1 n2 j2 e2) (g3:Got (uR 2) bs j2 e2 n3 j3 e3) (g4:Got (uR 2) bs j3 e3 n4 j4 e4):Got hdR bs i en ⟨n1,n2,n3,n4⟩ j4 e4:=by
 refine ⟨fun e=>g4.1 (g3.1 (g2.1 (g1.1 e))),fun e v0 r hr=>?_⟩;unfold hdR at hr;obtain ⟨k1,hr⟩:=got_bind g1 e hr;obtain ⟨k2,hr⟩:=got_bind g2 k1 hr;obtain ⟨k3,hr⟩:=got_bind g3 k2 hr;obtain ⟨k4,hr⟩:=got_bind g4 k3 hr;obtain ⟨h1,h2⟩:=got_end hr;exact ⟨h1,k4,h2⟩
theorem got_mp {l:List Ent} {last:Int} {bs:List UInt8} {i j1 j2 j3 j4:Nat} {en e1 e2 e3 e4:Bool} {x a:Int} {t q:List Ty} (g1:Got (uR 1) bs i en x j1 e1) (g2:Got (uR 2) bs j1 e1 a j2 e2) (g3:Got (typesR l true) bs j2 e2 t j3 e3) (g4:Got (typesR l false) bs j3 e3 q j4 e4):Got (mapR l last) bs i en ⟨last+1+a,t,q⟩ j4 e4:=by
 refine ⟨fun e=>g4.1 (g3.1 (g2.1 (g1.1 e))),fun e v0 r hr=>?_⟩;unfold mapR at hr;obtain ⟨k1,hr⟩:=got_bind g1 e hr;obtain ⟨k2,hr⟩:=got_bind g2 k1 hr;obtain ⟨k3,hr⟩:=got_bind g3 k2 hr;obtain ⟨k4,hr⟩:=got_bind g4 k3 hr;obtain ⟨h1,h2⟩:=got_end hr;exact ⟨h1,k4,h2⟩
theorem take_facts {bs:List UInt8} {i:Nat} {n:Int} (hi:i≤bs.length):i≤(takeW bs i n).2.2∧(takeW bs i n).2.2≤bs.length∧(takeW bs i n).1.length≤(takeW bs i n).2.2-i:=by
 unfold takeW;split
 · simp;omega
 · split
   · simp;omega
   · rename_i h1 h2
     have:((bs.drop i).take n.toNat).length=n.toNat:=by rw [List.length_take,List.length_drop];omega
     simp only [this];omega
theorem take_got {bs:List UInt8} {i2 i3:Nat} {e2:Bool} {n:Int} (g:Got (uR 4) bs i2 e2 n i3 false) (hn:0≤n) (hi:i3≤bs.length):Got bytesR bs i2 e2 (takeW bs i3 n).1 (takeW bs i3 n).2.2 (decide ((takeW bs i3 n).2.1≠0)):=by
 refine ⟨(fun e=>by have:=g.1 e;cases this),fun e v0 r hr=>?_⟩;unfold bytesR at hr;obtain ⟨k1,hr⟩:=got_bind g e hr;unfold takeR at hr;simp only at hr;split at hr
 · rename_i h1
   obtain ⟨h2,h3⟩:=got_end hr;rw [List.length_drop] at h1;unfold takeW;rw [if_neg (by omega),if_neg (by omega)];exact ⟨h2,rfl,by rw [←h3,List.drop_drop]⟩
 · cases hr
theorem got_code {l:List Ent} {bs:List UInt8} {i j1 j2 j3 j4 j5:Nat} {en e1 e2 e3 e4 e5:Bool} {a b:Int} {x:List UInt8} {h:List Hd} {t:List Mp} (g1:Got (uR 2) bs i en a j1 e1) (g2:Got (uR 2) bs j1 e1 b j2 e2) (g3:Got bytesR bs j2 e2 x j3 e3) (g4:Got (listR hdR) bs j3 e3 h j4 e4) (g5:Got (tableR l) bs j4 e4 t j5 e5):Got (codeR l) bs i en ⟨a,b,x,h,t⟩ j5 e5:=by
 refine ⟨fun e=>g5.1 (g4.1 (g3.1 (g2.1 (g1.1 e)))),fun e v0 r hr=>?_⟩;rw [codeR_by] at hr;obtain ⟨k1,hr⟩:=got_bind g1 e hr;obtain ⟨k2,hr⟩:=got_bind g2 k1 hr;obtain ⟨k3,hr⟩:=got_bind g3 k2 hr;obtain ⟨k4,hr⟩:=got_bind g4 k3 hr;obtain ⟨k5,hr⟩:=got_bind g5 k4 hr;obtain ⟨h1,h2⟩:=got_end hr;exact ⟨h1,k5,h2⟩
theorem got_tab0 {l:List Ent} {bs:List UInt8} {i j1:Nat} {en e1:Bool} (g1:Got (uR 2) bs i en 0 j1 e1):Got (tableR l) bs i en (([]:List MpR).map MpR.m) j1 e1:=by
 refine ⟨g1.1,fun e v0 r hr=>?_⟩;unfold tableR at hr;obtain ⟨k1,hr⟩:=got_bind g1 e hr;simp only [if_true] at hr;obtain ⟨h1,h2⟩:=got_end hr;exact ⟨h1,k1,h2⟩
theorem got_tab1 {l:List Ent} {bs:List UInt8} {i j1 j2 j3 j4:Nat} {en e1 e2 e3 e4:Bool} {a c:Int} {s:List UInt8} {t:List Mp} (g1:Got (uR 2) bs i en a j1 e1) (ha:a≠0) (g2:Got (utfR l) bs j1 e1 s j2 e2) (g3:Got (uR 4) bs j2 e2 c j3 e3) (g4:Got (mapsR l) bs j3 e3 t j4 e4):Got (tableR l) bs i en t j4 e4:=by
 refine ⟨fun e=>g4.1 (g3.1 (g2.1 (g1.1 e))),fun e v0 r hr=>?_⟩;unfold tableR at hr;obtain ⟨k1,hr⟩:=got_bind g1 e hr;rw [if_neg ha] at hr;obtain ⟨k2,hr⟩:=got_bind g2 k1 hr;obtain ⟨k3,hr⟩:=got_bind g3 k2 hr;obtain ⟨h1,h2,h3⟩:=g4.2 k3 _ _ hr;exact ⟨h1,h2,h3⟩
def gcode_post (C:Gc) (i:Nat) (en:Bool) (w:World) (e:Ending) (w':World):Prop:=
 ∃(c:Cd) (b h p:Sl) (mr:List MpR) (i':Nat) (en':Bool),e=.returned (.agg #[.int .i64 c.stack,.int .i64 c.locals,b.v,h.v,p.v])∧MdOk C.l w' w.heap.size ⟨⟨0,[],[],c⟩,b,h,p,mr⟩∧Got (codeR C.l) C.bs i en c i' en'∧methN ⟨0,[],[],c⟩≤2*(i'-i)+(if en'=true then 6 else 0)∧Mv 2 i en i' en'∧Gd C i' en' w'∧GF C.X C.B w w'
theorem CS.fin {C:Gc} {w W:World} {A i:Nat} {en:Bool} {st lo:Int} {b h p:Sl} {by_:List UInt8} {hs:List Hd} {mr:List MpR} {j:Nat} {ej:Bool} (h0:Gd C i en w) (s:CS C w A st lo b by_ h hs p mr j ej W) (hst:fitI st) (hlo:fitI lo) (hhs:∀x∈hs,HdFit x) (hb:by_.length≤1000000) (hl:hs.length≤65536) (hm:mr.length≤65536)
 (g:Got (codeR C.l) C.bs i en ⟨st,lo,by_,hs,mr.map MpR.m⟩ j ej) (hn:methN ⟨0,[],[],⟨st,lo,by_,hs,mr.map MpR.m⟩⟩≤2*(j-i)+(if ej=true then 6 else 0)) (hv:Mv 2 i en j ej) :
 gcode_post C i en w (.returned (.agg #[.int .i64 st,.int .i64 lo,b.v,h.v,p.v])) (W.setCells w.heap.size 0 [.int .i64 st,.int .i64 lo,b.v,h.v,p.v])∧(W.setCells w.heap.size 0 [.int .i64 st,.int .i64 lo,b.v,h.v,p.v]).heap[w.heap.size]?=some (.cells #[.int .i64 st,.int .i64 lo,b.v,h.v,p.v] 47 (0,0)):=by
 obtain ⟨W',hW'⟩:∃W',W'=W.setCells w.heap.size 0 [.int .i64 st,.int .i64 lo,b.v,h.v,p.v]:=⟨_,rfl⟩;have ho:∀k,k≠w.heap.size→W'.heap[k]?=W.heap[k]?:=fun k hk=>by rw [hW'];exact heap_cells_other _ _ _ _ _ hk
 have hne:∀(k:Nat) (Z:Array Value) (T:TypeId),T≠47→W.heap[k]?=some (.cells Z T (0,0))→W'.heap[k]?=W.heap[k]?:=fun k Z T hT hk=>ho k fun e=>by
  subst e;rw [s.rb] at hk;injection hk with hk
  injection hk with _ hk
  exact hT hk.symm
 have hX:=h0.X_lt;have F':GF C.X C.B w W':=⟨fun q hq hz=>(ho q (by omega)).trans (s.gf.1 q hq hz),by rw [hW'];exact below_cells _ _ s.gf.2 h0.hB⟩;have r6:=bx_whole [.int .i64 0,.int .i64 0,.slice none 0 0,.slice none 0 0,.slice none 0 0] [.int .i64 st,.int .i64 lo,b.v,h.v,p.v] s.rb rfl;rw [←hW'] at r6 ⊢;refine ⟨⟨⟨st,lo,by_,hs,mr.map MpR.m⟩,b,h,p,mr,j,ej,rfl,?_,g,hn,hv,h0.step F'.1 ((ho _ (by omega)).trans s.gd.blk) s.gd.hi,F'⟩,r6⟩;have ob:=s.ob.keep fun k Z _ hk=>hne k Z _ (by decide) hk
 have oh:=s.oh.keep fun k Z _ hk=>hne k Z _ (by decide) hk
 have op:=s.op.keep fun k Z _ hk=>hne k Z _ (by decide) hk
 have mp:=fun x hx=>(s.mp x hx).keep fun k Z hk=>hne k Z _ (by decide) hk
 exact ⟨⟨ob,oh,op,fun x hx=>(mp x hx).own,rfl⟩,by unfold fitI;simp,.inl rfl,.inl rfl,hst,hlo,hhs,mp,hb,by show hs.length≤_;omega,hm⟩
theorem grcode_any (J:JConstOk) (C:Gc) (hck:checkP C.l=true) (i:Nat) (en:Bool) (w:World) (h:Gd C i en w) (hsm:C.n≤40000) :
 Calls Tryz.prog 43 #[.pointer (some ⟨C.X,0,none⟩)] w (gcode_post C i en w):=by
 have b1:Below w.heap.size w (w.alloc (.cells #[.int .i64 0,.int .i64 0,.slice none 0 0,.slice none 0 0,.slice none 0 0] 47)):=(Below.refl _ _).alloc (Nat.le_refl _) _;have r1:=heap_alloc_new w (.cells #[.int .i64 0,.int .i64 0,.slice none 0 0,.slice none 0 0,.slice none 0 0] 47);have HN:=hide (gru_any C i en _ (h.below b1) 2 (by omega));have F1:GF C.X C.B w _:=GF.of_below b1 h.hB;have HB1:=hide (And.intro (h.below b1) (And.intro F1 r1));have H0:=hide h;have hXw:=h.X_lt;have hjn:∀j ej W,Gd C j ej W→j≤40000:=fun j ej W g=>by have:=g.hi;omega
 have hbl:=h.bl;have HJN:=hide hjn;have HU:Hid (∀W j ej (k:Nat),Gd C j ej W→(k=1∨k=2∨k=4)→Calls Tryz.prog 39 #[.pointer (some ⟨C.X,0,none⟩),.int .i64 (k:Int)] W (gu_post C k j ej W)):=hide fun W j ej k g hk=>gru_any C j ej W g k (by omega)
 have HUt:Hid (∀W j ej,Gd C j ej W→Calls Tryz.prog 42 #[.pointer (some ⟨C.X,0,none⟩)] W (gt_post C 2 (utfR C.l) j ej W)):=hide fun W j ej g=>grutf_any C hck j ej W g
 have HTy:Hid (∀W j ej loc,Gd C j ej W→Calls Tryz.prog 79 #[.pointer (some ⟨C.X,0,none⟩),.bool loc] W (gty_post C loc j ej W)):=hide fun W j ej loc g=>grtypes_any J C hck j ej W g hsm loc
 obtain ⟨PO,hPO⟩:∃PO,PO=gcode_post C i en w:=⟨_,rfl⟩;rw [←hPO];have HPO:=hide hPO;clear h b1 F1 hPO r1 hjn;go_enter Tryz.func43,Tryz.ntmps43;go_wp2_with fail;refine (unhide HN).mono ?_;rintro e w1 ⟨n1,j1,e1,rfl,hn1,hg1,hm1,hk1,G1,F1⟩;clear HN;have HS1:=hide (And.intro hn1 (And.intro (hg1 (by decide)).2.2 (And.intro (Mv.mk hm1.1 (fun e=>by rw [hm1.2.1 e];exact Nat.le_refl _) hk1:Mv 2 i en j1 e1) (And.intro G1 (And.intro ((unhide HB1).2.1.trans F1) (((unhide HB1).1.keep F1 (unhide HB1).2.2 (by decide))))))));have HN:=hide (unhide HU w1 j1 e1 2 G1 (.inr (.inl rfl)));clear hn1 hg1 hm1 hk1 G1 F1 HB1;go_wp2_with fail;refine (unhide HN).mono ?_;rintro e w2 ⟨n2,j2,e2,rfl,hn2,hg2,hm2,hk2,G2,F2⟩;clear HN;have hmv2:Mv 2 j1 e1 j2 e2:=⟨hm2.1,fun e=>by rw [hm2.2.1 e];exact Nat.le_refl _,hk2⟩;have F02:=(unhide HS1).2.2.2.2.1.trans F2;have r2:=(unhide HS1).2.2.2.1.keep F2 (unhide HS1).2.2.2.2.2 (by decide);have hs2:w.heap.size<w2.heap.size:=lt_of_heap r2;have b3:Below w2.heap.size w2 (w2.alloc (.cells #[.int .i64 n1,.int .i64 n2,.slice none 0 0,.slice none 0 0,.slice none 0 0] 47)):=(Below.refl _ _).alloc (Nat.le_refl _) _;have F03:GF C.X C.B w _:=F02.trans (GF.of_below b3 G2.hB);have S3:CS C w w2.heap.size n1 n2 ⟨none,0,0⟩ [] ⟨none,0,0⟩ [] ⟨none,0,0⟩ [] j2 e2 (w2.alloc (.cells #[.int .i64 n1,.int .i64 n2,.slice none 0 0,.slice none 0 0,.slice none 0 0] 47)):=⟨hs2,(b3.block _ hs2).trans r2,heap_alloc_new w2 _,Orw.nil _ _ _ _ _,Orw.nil _ _ _ _ _,Orw.nil _ _ _ _ _,(fun x hx=>by cases hx),G2.below b3,F03⟩;have HS2:=hide (And.intro hn2 (And.intro (hg2 (by decide)).2.2 (And.intro hmv2 S3)));have HN:=hide (unhide HU _ j2 e2 4 S3.gd (.inr (.inr rfl)));clear hn2 hg2 hm2 hk2 G2 F2 hmv2 F02 r2 b3 F03 S3 hs2;go_wp2_with fail;refine (unhide HN).mono ?_;rintro e w4 ⟨n3,j3,e3,rfl,hn3,hg3,hm3,hk3,G4,F4⟩;clear HN;have hmv3:Mv 4 j2 e2 j3 e3:=⟨hm3.1,fun e=>by rw [hm3.2.1 e];exact Nat.le_refl _,hk3⟩;have S4:=(unhide HS2).2.2.2.call (unhide H0) G4 F4;have d4:w4.cell? ⟨C.X,3,none⟩=some (.bool e3):=bx_cell G4.blk 3 _ rfl;have HS4:=hide (And.intro hn3 (And.intro (hg3 (by decide)).2.2 (And.intro hmv3 S4)));clear hn3 hg3 hm3 hk3 G4 F4 hmv3 S4;generalize hA:w2.heap.size=A at *
 go_upto_if 23 with fail
 go_cut [] from 12 (fun wr=>∃(b:Sl) (by_:List UInt8) (j:Nat) (ej:Bool),Got bytesR C.bs j2 e2 by_ j ej∧Mv 4 j2 e2 j ej∧by_.length≤j-j2∧CS C w A n1 n2 b by_ ⟨none,0,0⟩ [] ⟨none,0,0⟩ [] j ej wr)
 case first=>
  obtain ⟨hn3,hgot,hmv,S4⟩:=unhide HS4;cases e3 with
  | true=>
   have HZ:=hide (show ∃(b:Sl) (by_:List UInt8) (j:Nat) (ej:Bool),Got bytesR C.bs j2 e2 by_ j ej∧Mv 4 j2 e2 j ej∧by_.length≤j-j2∧CS C w A n1 n2 b by_ ⟨none,0,0⟩ [] ⟨none,0,0⟩ [] j ej w4 from ⟨⟨none,0,0⟩,[],j3,true,⟨fun _=>rfl,fun e v0 r hr=>by
    unfold bytesR at hr;obtain ⟨k1,_⟩:=got_bind hgot e hr;cases k1⟩,hmv,Nat.zero_le _,S4⟩)
   clear hn3 hgot hmv S4 HS4;go_wp2;go_meet;exact unhide HZ
  | false=>
   have hi4:=S4.gd.hi;have HB:=hRBytes_anyE (ex0:=.slice C.p.a C.p.n C.p.c) (ex1:=.bool false) w4 C.X C.a C.n C.c j3 C.bs S4.gd.arg (by have:=S4.gd.len;omega) hi4 S4.gd.blk S4.gd.far n3 (by omega);have hgt:=take_got hgot hn3.1 (by omega);have hft:=take_facts (bs:=C.bs) (i:=j3) (n:=n3) (by omega);generalize takeW C.bs j3 n3=T at *;obtain ⟨tk,er,j4⟩:=T;simp only at HB hgt hft;have HBB:=hide HB;have HT:=hide (And.intro hgt (And.intro hft (And.intro hmv S4)));clear HB hgt hft hmv S4 hgot HS4 hn3;go_wp2_with fail;refine (unhide HBB).mono ?_;rintro e w5 ⟨v,rfl,o5,R5⟩;obtain ⟨hgt,hft,hmv,S4⟩:=unhide HT;obtain ⟨ba,bc,rfl,_⟩:=own_form o5;have hle:C.B≤C.X:=S4.gd.hX;have F5:GF C.X C.B w4 w5:=⟨R5.oth,R5.bel.mono hle⟩;have G5:Gd C j4 false w5:=S4.gd.step F5.1 R5.blk (by omega);have S5:=S4.call (unhide H0) G5 F5;have O5:Orw byc 5 1 w5 w.heap.size (Sl.v ⟨ba,tk.length,bc⟩) tk:=by
    show World.ownsRow _ _ _ _ _ _ _;rw [byc_bv];exact own_base o5 S4.gf.size
   have S6:=S5.setB (unhide H0) ⟨ba,tk.length,bc⟩ tk O5;have cA:w5.cell? ⟨A,2,none⟩=some (.slice none 0 0):=bx_cell S5.cb 2 _ rfl;have zA:=bx_thaw S5.cb 2;have hAX:¬A=C.X:=by have:=S5.hA;omega
   have cX:(w5.setCell ⟨A,2,none⟩ (.slice ba tk.length bc)).cell? ⟨C.X,3,none⟩=some (.bool false):=bx_cell S6.gd.blk 3 _ rfl;have zX:=bx_thaw S6.gd.blk 3;have HS6:=hide (And.intro hgt (And.intro hft (And.intro hmv S6)));clear HBB HT hgt hft hmv S4 o5 R5 F5 G5 S5 O5 S6 d4;unfold Sl.v at zX;simp only at zX;have HW6:∃w6,w6=w5.setCell ⟨A,2,none⟩ (.slice ba tk.length bc):=⟨_,rfl⟩;obtain ⟨w6,hw6⟩:=HW6;have HW:=hide hw6;go_upto_region 6 with fail
   rw [←hw6] at cX zX ⊢;clear hw6;have KZ:Hid (∀en',∃(b:Sl) (by_:List UInt8) (j:Nat) (ej:Bool),(en'=decide (er≠0))→Got bytesR C.bs j2 e2 by_ j ej∧Mv 4 j2 e2 j ej∧by_.length≤j-j2∧CS C w A n1 n2 b by_ ⟨none,0,0⟩ [] ⟨none,0,0⟩ [] j ej (w6.setCell ⟨C.X,3,none⟩ (.bool en'))):=hide fun en'=>by
    obtain ⟨hgt,hft,hmv,S6⟩:=unhide HS6;have e6:w6=w5.setCell ⟨A,2,none⟩ (Sl.v ⟨ba,tk.length,bc⟩):=unhide HW;rw [←e6] at S6;obtain ⟨G7,F7⟩:=S6.gd.set en';refine ⟨⟨ba,tk.length,bc⟩,tk,j4,en',fun e=>?_⟩;rw [←e] at hgt;exact ⟨hgt,⟨Nat.le_trans hmv.le hft.1,fun e=>Nat.le_trans (hmv.by_ rfl) hft.1,fun e=>by have:=(hmv.bad e).1;cases this⟩,by have:=hmv.le;omega,S6.call (unhide H0) G7 F7⟩
   clear HS6 HW
   by_cases he:er=0
   · subst he
     go_wp2;go_meet;obtain ⟨b,by_,j,ej,hz⟩:=unhide KZ false;exact ⟨b,by_,j,ej,hz (by simp)⟩
   · have he':(er != 0)=true:=by simpa using he
     have hd:decide (er≠0)=true:=decide_eq_true he;go_wp2;go_meet;obtain ⟨b,by_,j,ej,hz⟩:=unhide KZ true;exact ⟨b,by_,j,ej,hz hd.symm⟩
 case rest=>
 obtain ⟨b,by_,j4,e4,hgB,hmB,hlB,S5⟩:=hcut;have HSB:=hide (And.intro hgB (And.intro hmB hlB));have hj4:=unhide HJN _ _ _ S5.gd;have HN:=hide (unhide HU wc j4 e4 2 S5.gd (.inr (.inl rfl)));have HS5:=hide S5;clear hgB hmB hlB S5 d4 HS4;go_wp2_with fail;refine (unhide HN).mono ?_;rintro e w6 ⟨n5,j5,e5,rfl,hn5,hg5,hm5,hk5,G6,F6⟩;clear HN;obtain ⟨N,rfl⟩:∃N:Nat,n5=N:=⟨n5.toNat,by omega⟩;obtain ⟨hN1,_,hgot5⟩:=hg5 (by decide);have hN:N≤65535:=by
  have h9:((256^2:Nat):Int)=65536:=by decide +kernel
  omega
 have hmv5:Mv 2 j4 e4 j5 e5:=⟨hm5.1,fun e=>by rw [hm5.2.1 e];exact Nat.le_refl _,hk5⟩;have HS6:=hide (And.intro hgot5 (And.intro hmv5 ((unhide HS5).call (unhide H0) G6 F6)));clear hn5 hg5 hm5 hk5 G6 F6 hgot5 hmv5 hN1
 go_upto_block 0 with fail
 go_cut [] from 12 (fun wr=>∃(h:Sl) (hs:List Hd) (j:Nat) (ej:Bool),Got (listR hdR) C.bs j4 e4 hs j ej∧(∀x∈hs,HdFit x)∧hs.length≤65536∧hs.length≤(j-j4)+(if ej=true then 1 else 0)∧Mv 2 j4 e4 j ej∧CS C w A n1 n2 b by_ h hs ⟨none,0,0⟩ [] j ej wr)
 case first=>
  obtain ⟨hgot5,hmv5,S6⟩:=unhide HS6;have HG5:=hide (And.intro hgot5 hmv5);have HS0:=hide S6;clear hgot5 hmv5 S6;go_wp2
  go_loopw [7] (fun vn wr=>∃(h:Sl) (hs:List Hd) (j:Nat) (ej:Bool),vn=.int .i64 ((N-hs.length:Nat):Int)∧hs.length≤N∧Mid hdR C.bs N e5 (C.bs.drop j5) hs j ej∧(∀x∈hs,HdFit x)∧hs.length≤(j-j5)+(if ej=true then 1 else 0)∧Mv 0 j5 e5 j ej∧CS C w A n1 n2 b by_ h hs ⟨none,0,0⟩ [] j ej wr) (fun vn _=>(intOf vn).toNat)
  case atStart=>exact ⟨⟨none,0,0⟩,[],j5,e5,rfl,Nat.zero_le _,⟨fun e=>e,fun e vs r hr=>⟨e,vs,rfl,hr⟩⟩,(fun x hx=>by cases hx),Nat.zero_le _,Mv.refl _ _,unhide HS0⟩
  case round=>
   clear HS0;obtain ⟨h,hs,j,ej,rfl,hle,hM,hF,hL,hV,S⟩:=hrel;obtain ⟨M,hMM⟩:∃M,N-hs.length=M:=⟨_,rfl⟩;rw [hMM];have HI:=hide (And.intro hle (And.intro hM (And.intro hF (And.intro hL (And.intro hV S)))));have d3:wr.cell? ⟨C.X,3,none⟩=some (.bool ej):=bx_cell S.gd.blk 3 _ rfl;have KE:Hid ((M=0∨ej=true)→∃(h:Sl) (hs:List Hd) (j:Nat) (ej:Bool),Got (listR hdR) C.bs j4 e4 hs j ej∧(∀x∈hs,HdFit x)∧hs.length≤65536∧hs.length≤(j-j4)+(if ej=true then 1 else 0)∧Mv 2 j4 e4 j ej∧CS C w A n1 n2 b by_ h hs ⟨none,0,0⟩ [] j ej wr):=hide fun hx=>by
    obtain ⟨g5,m5⟩:=unhide HG5;exact ⟨h,hs,j,ej,Mid.done g5 rfl hM (hx.imp (fun h=>by omega) id),hF,by omega,by have:=m5.le;have:=hV.le;omega,m5.trans hV,S⟩
   clear hM hF hL hV S
   by_cases hm0:M=0
   · subst hm0
     go_wp2;go_meet;exact unhide KE (.inl (by first | rfl | trivial))
   · obtain ⟨m,rfl⟩:∃k,M=k+1:=⟨M-1,by omega⟩
     have hm1:(0:Int)<((m+1:Nat):Int):=by omega
     clear hm0;have HMM:=hide hMM;clear hMM;cases ej with
     | true=>
      go_wp2;go_meet;exact unhide KE (.inr (by first | rfl | trivial))
     | false=>
      have S:=(unhide HI).2.2.2.2.2;have HN:=hide (unhide HU wr j false 2 S.gd (.inr (.inl rfl)));clear S KE;go_wp2_with fail;refine (unhide HN).mono ?_;rintro e w2 ⟨a1,k1,f1,rfl,hn_,hg_,hm_,hk_,GN,FN⟩;have gN:=(hg_ (by decide)).2.2;have sN:=hg_ (by decide);have mN:Mv 2 j false k1 f1:=⟨hm_.1,fun e=>by rw [hm_.2.1 e];exact Nat.le_refl _,hk_⟩;clear HN hg_ hm_ hk_;have F02:=(unhide HI).2.2.2.2.2.gf.trans FN;have hz2:=FN.size;have b3:Below w2.heap.size w2 (w2.alloc (.cells #[.int .i64 a1,.int .i64 0,.int .i64 0,.int .i64 0] 93)):=(Below.refl _ _).alloc (Nat.le_refl _) _;have q3:=heap_alloc_new w2 (.cells #[.int .i64 a1,.int .i64 0,.int .i64 0,.int .i64 0] 93);have G3:=GN.below b3;have F3:GF C.X C.B w _:=F02.trans (GF.of_below b3 GN.hB);have K3:Kx C.X wr _:=FN.1.trans FN.size (Kx.of_below b3);have hz:w.heap.size≤w2.heap.size:=F02.size;have hzr:wr.heap.size≤w2.heap.size:=hz2;have H1:=hide (And.intro hn_ (And.intro sN.2.1 (And.intro gN mN)));clear hn_ sN gN mN GN FN F02 hz2 b3;generalize hHb:w2.heap.size=Hb at *;obtain ⟨w3,hw3⟩:∃w3,w3=w2.alloc (.cells #[.int .i64 a1,.int .i64 0,.int .i64 0,.int .i64 0] 93):=⟨_,rfl⟩;rw [←hw3] at q3 G3 F3 K3;have HW3:=hide hw3;have HQ3:=hide (And.intro q3 (And.intro G3 (And.intro F3 K3)));clear hw3 q3 G3 F3 K3;go_upto_region 11 with fail
      rw [←unhide HW3];clear hHb;have G_:=(unhide HQ3).2.1;have HN:=hide (unhide HU w3 k1 f1 2 G_ (.inr (.inl rfl)));clear G_;go_wp2_with fail;refine (unhide HN).mono ?_;rintro e w4 ⟨a2,k2,f2,rfl,hn_,hg_,hm_,hk_,GN,FN⟩;have gN:=(hg_ (by decide)).2.2;have sN:=hg_ (by decide);have mN:Mv 2 k1 f1 k2 f2:=⟨hm_.1,fun e=>by rw [hm_.2.1 e];exact Nat.le_refl _,hk_⟩;clear HN hg_ hm_ hk_;have q_:=(unhide HQ3).2.1.keep FN (unhide HQ3).1 (by decide);have F_:=(unhide HQ3).2.2.1.trans FN;have K_:=(unhide HQ3).2.2.2.trans (Nat.le_trans hzr (by have:=lt_of_heap (unhide HQ3).1;omega)) FN.1;obtain ⟨Gs,Fs⟩:=(unhide H0).put GN F_ (H:=Hb) hz 1 (.int .i64 a2);have Ks_:=Kx.set K_ hzr 1 (.int .i64 a2);have qs:=heap_setCell_same w4 Hb 1 _ _ (.int .i64 a2) q_;have c_:w4.cell? ⟨Hb,1,none⟩=some (.int .i64 0):=bx_cell q_ 1 _ rfl;have z_:=bx_thaw q_ 1;have H2:=hide (And.intro hn_ (And.intro sN.2.1 (And.intro gN mN)));obtain ⟨w5,hw_⟩:∃W',W'=w4.setCell ⟨Hb,1,none⟩ (.int .i64 a2):=⟨_,rfl⟩;rw [←hw_] at qs Gs Fs Ks_;have HW_:=hide hw_;have HQ5:=hide (And.intro qs (And.intro Gs (And.intro Fs Ks_)));clear hn_ sN gN mN GN FN q_ F_ K_ Gs Fs Ks_ qs hw_ HQ3;go_upto_region 12 with fail
      rw [←unhide HW_];clear c_ z_ HW_;have G_:=(unhide HQ5).2.1;have HN:=hide (unhide HU w5 k2 f2 2 G_ (.inr (.inl rfl)));clear G_;go_wp2_with fail;refine (unhide HN).mono ?_;rintro e w6 ⟨a3,k3,f3,rfl,hn_,hg_,hm_,hk_,GN,FN⟩;have gN:=(hg_ (by decide)).2.2;have sN:=hg_ (by decide);have mN:Mv 2 k2 f2 k3 f3:=⟨hm_.1,fun e=>by rw [hm_.2.1 e];exact Nat.le_refl _,hk_⟩;clear HN hg_ hm_ hk_;have q_:=(unhide HQ5).2.1.keep FN (unhide HQ5).1 (by decide);have F_:=(unhide HQ5).2.2.1.trans FN;have K_:=(unhide HQ5).2.2.2.trans (Nat.le_trans hzr (by have:=lt_of_heap (unhide HQ5).1;omega)) FN.1;obtain ⟨Gs,Fs⟩:=(unhide H0).put GN F_ (H:=Hb) hz 2 (.int .i64 a3);have Ks_:=Kx.set K_ hzr 2 (.int .i64 a3);have qs:=heap_setCell_same w6 Hb 2 _ _ (.int .i64 a3) q_;have c_:w6.cell? ⟨Hb,2,none⟩=some (.int .i64 0):=bx_cell q_ 2 _ rfl;have z_:=bx_thaw q_ 2;have H3:=hide (And.intro hn_ (And.intro sN.2.1 (And.intro gN mN)));obtain ⟨w7,hw_⟩:∃W',W'=w6.setCell ⟨Hb,2,none⟩ (.int .i64 a3):=⟨_,rfl⟩;rw [←hw_] at qs Gs Fs Ks_;have HW_:=hide hw_;have HQ7:=hide (And.intro qs (And.intro Gs (And.intro Fs Ks_)));clear hn_ sN gN mN GN FN q_ F_ K_ Gs Fs Ks_ qs hw_ HQ5;go_upto_region 13 with fail
      rw [←unhide HW_];clear c_ z_ HW_;have G_:=(unhide HQ7).2.1;have HN:=hide (unhide HU w7 k3 f3 2 G_ (.inr (.inl rfl)));clear G_;go_wp2_with fail;refine (unhide HN).mono ?_;rintro e w8 ⟨a4,k4,f4,rfl,hn_,hg_,hm_,hk_,GN,FN⟩;have gN:=(hg_ (by decide)).2.2;have sN:=hg_ (by decide);have mN:Mv 2 k3 f3 k4 f4:=⟨hm_.1,fun e=>by rw [hm_.2.1 e];exact Nat.le_refl _,hk_⟩;clear HN hg_ hm_ hk_;have q_:=(unhide HQ7).2.1.keep FN (unhide HQ7).1 (by decide);have F_:=(unhide HQ7).2.2.1.trans FN;have K_:=(unhide HQ7).2.2.2.trans (Nat.le_trans hzr (by have:=lt_of_heap (unhide HQ7).1;omega)) FN.1;obtain ⟨Gs,Fs⟩:=(unhide H0).put GN F_ (H:=Hb) hz 3 (.int .i64 a4);have Ks_:=Kx.set K_ hzr 3 (.int .i64 a4);have qs:=heap_setCell_same w8 Hb 3 _ _ (.int .i64 a4) q_;have c_:w8.cell? ⟨Hb,3,none⟩=some (.int .i64 0):=bx_cell q_ 3 _ rfl;have z_:=bx_thaw q_ 3;have H4:=hide (And.intro hn_ (And.intro sN.2.1 (And.intro gN mN)));obtain ⟨w9,hw_⟩:∃W',W'=w8.setCell ⟨Hb,3,none⟩ (.int .i64 a4):=⟨_,rfl⟩;rw [←hw_] at qs Gs Fs Ks_;have HW_:=hide hw_;have HQ9:=hide (And.intro qs (And.intro Gs (And.intro Fs Ks_)));clear hn_ sN gN mN GN FN q_ F_ K_ Gs Fs Ks_ qs hw_ HQ7;go_upto_region 14 with fail
      rw [←unhide HW_];clear c_ z_ HW_;obtain ⟨q9,G9,F9,K9⟩:=unhide HQ9;simp only [List.setIfInBounds_toArray,List.set_cons_succ,List.set_cons_zero] at q9;have S9:=CS.kx (unhide H0) (unhide HI).2.2.2.2.2 G9 F9 K9;have hsl:hs.length≤100000:=by have:=(unhide HI).1;omega
      obtain ⟨o3,l3,s1,s2,s3,hx⟩:=CS.pushH (unhide H0) S9 ⟨a1,a2,a3,a4⟩ hsl #[.int .i64 a1,.int .i64 a2,.int .i64 a3,.int .i64 a4] rfl;have cA:w9.cell? ⟨A,3,none⟩=some h.v:=bx_cell S9.cb 3 _ rfl;have y0:w9.cell? ⟨Hb,0,none⟩=some (.int .i64 a1):=bx_cell q9 0 _ rfl;have y1:w9.cell? ⟨Hb,1,none⟩=some (.int .i64 a2):=bx_cell q9 1 _ rfl;have y2:w9.cell? ⟨Hb,2,none⟩=some (.int .i64 a3):=bx_cell q9 2 _ rfl;have y3:w9.cell? ⟨Hb,3,none⟩=some (.int .i64 a4):=bx_cell q9 3 _ rfl;have HO:=hide o3;have HL:=hide l3;have HSS:=hide (And.intro s1 (And.intro s2 s3));have HX:=hide hx;have hgot:=got_hd (unhide H1).2.2.1 (unhide H2).2.2.1 (unhide H3).2.2.1 (unhide H4).2.2.1;have hmv:=(((unhide H1).2.2.2.trans (unhide H2).2.2.2).trans (unhide H3).2.2.2).trans (unhide H4).2.2.2;have hfit:HdFit ⟨a1,a2,a3,a4⟩:=by
       have h1:=(unhide H1);have h2:=(unhide H2);have h3:=(unhide H3);have h4:=(unhide H4);exact ⟨by unfold fitI;show _≤a1∧a1≤_;omega,by unfold fitI;show _≤a2∧a2≤_;omega,by unfold fitI;show _≤a3∧a3≤_;omega,by unfold fitI;show _≤a4∧a4≤_;omega⟩
      have HGM:=hide (And.intro hgot (And.intro hmv hfit));clear o3 l3 s1 s2 s3 hx q9 G9 F9 K9 S9 hgot hmv hfit H1 H2 H3 H4 HQ9 HW3;obtain ⟨ha,hn,hc⟩:=h;unfold Sl.v at cA HX HO;simp only at cA HX HO
      go_wp2_with (first
       | (at_builtin;refine listR_append rkH rfl _ _ rfl w.heap.size _ _ rfl (unhide HO) _ 1 1 [_] rfl (unhide HL) (fun e=>by cases e) (unhide HSS).1 (unhide HSS).2.1 (unhide HSS).2.2 ?_)
       | go_in)
      intro v4 w10 o4 g4;obtain ⟨a4',c4',hv4,_⟩:=o4.form;subst hv4;obtain ⟨cb,S10⟩:=unhide HX ⟨a4',(hs++[(⟨a1,a2,a3,a4⟩:Hd)]).length,c4'⟩ w10 o4 g4
      try unfold Sl.v at cb S10
      try simp only at cb S10
      have cA':w10.cell? ⟨A,3,none⟩=some (.slice ha hn hc):=bx_cell cb 3 _ rfl;have zA':=bx_thaw cb 3;obtain ⟨hle,hM,hF,hL,hV,_⟩:=unhide HI;obtain ⟨hgot,hmv,hfit⟩:=unhide HGM;have hln:(hs++[(⟨a1,a2,a3,a4⟩:Hd)]).length=hs.length+1:=by simp
      rw [hln] at S10
      have HZ:=hide (show ∃(h:Sl) (hs':List Hd) (j:Nat) (ej:Bool),m=N-hs'.length∧hs'.length≤N∧Mid hdR C.bs N e5 (C.bs.drop j5) hs' j ej∧(∀x∈hs',HdFit x)∧hs'.length≤(j-j5)+(if ej=true then 1 else 0)∧Mv 0 j5 e5 j ej∧CS C w A n1 n2 b by_ h hs' ⟨none,0,0⟩ [] j ej (w10.setCell ⟨A,3,none⟩ (.slice a4' (hs.length+1) c4')) from ⟨⟨a4',hs.length+1,c4'⟩,hs++[(⟨a1,a2,a3,a4⟩:Hd)],k4,f4,by have:=unhide HMM;omega,by have:=unhide HMM;omega,hM.next (by have:=unhide HMM;omega) hgot,fun x hx=>by
       rcases List.mem_append.1 hx with hx | hx
       · exact hF x hx
       · simp at hx
         subst hx;exact hfit,by
       have h1:=hV.le;have h2:=hmv.le;rw [if_neg (by decide)] at hL;rw [hln];cases f4 with
       | true=>simp only [if_true];omega
       | false=>
        have:=hmv.by_ rfl;simp;omega,⟨Nat.le_trans hV.le hmv.le,fun e=>Nat.le_trans hV.le hmv.le,fun e=>by have:=(hV.bad e).1;cases this⟩,S10⟩)
      have hmb:m≤65535:=by have:=unhide HMM;omega
      clear o4 g4 cb S10 hle hM hF hL hV hgot hmv hfit hln HO HL HSS HX HGM;go_wp2;go_roundw
      case rel=>
       obtain ⟨h,hs',j,ej,hmm,hz⟩:=unhide HZ;exact ⟨h,hs',j,ej,by rw [←hmm],hz⟩
      case measure=>(simp [intOf] <;> omega)
 case rest=>
 obtain ⟨h,hs,j6,e6,hgH,hfH,hkH,hlH,hmH,S7⟩:=hcut;have HSH:=hide (And.intro hgH (And.intro hfH (And.intro hkH (And.intro hlH hmH))));have HN:=hide (unhide HU wc j6 e6 2 S7.gd (.inr (.inl rfl)));have HS7:=hide S7;clear hgH hfH hkH hlH hmH S7 HS6 HS5;go_wp2_with fail;refine (unhide HN).mono ?_;rintro e w8 ⟨n8,j8,e8,rfl,hn8,hg8,hm8,hk8,G8,F8⟩;clear HN;have hmv8:Mv 2 j6 e6 j8 e8:=⟨hm8.1,fun e=>by rw [hm8.2.1 e];exact Nat.le_refl _,hk8⟩;have HS8:=hide (And.intro hn8 (And.intro (hg8 (by decide)).2.2 (And.intro hmv8 ((unhide HS7).call (unhide H0) G8 F8))));clear hn8 hg8 hm8 hk8 G8 F8 hmv8
 by_cases z8:n8=0
 · subst z8
   obtain ⟨hn1,g1,m1,_⟩:=unhide HS1;obtain ⟨hn2,g2,m2,_⟩:=unhide HS2;obtain ⟨gB,mB,lB⟩:=unhide HSB;obtain ⟨gH,fH,kH,lH,mH⟩:=unhide HSH;have SF:=(unhide HS8).2.2.2;have hcode:=got_code (l:=C.l) g1 g2 gB gH (got_tab0 (unhide HS8).2.1);have hjj:=unhide HJN _ _ _ SF.gd;have hmr:([]:List MpR).length≤65536:=Nat.zero_le _;have hmv:Mv 2 i en j8 e8:=((((m1.trans m2).trans mB).trans mH).trans (unhide HS8).2.2.1).less (by omega);have hcnt:methN ⟨0,[],[],⟨n1,n2,by_,hs,([]:List MpR).map MpR.m⟩⟩≤2*(j8-i)+(if e8=true then 6 else 0):=by
    show by_.length+hs.length+0≤_;have h1:=m1.le;have h2:=m2.le;have h3:=mB.le;have h4:=mH.le;have h5:=(unhide HS8).2.2.1.le;cases e6 with
    | true=>
     have:=((unhide HS8).2.2.1.bad rfl).1;rw [if_pos rfl] at lH;rw [if_pos this];omega
    | false=>
     rw [if_neg (by decide)] at lH;omega
   have HFIN:=CS.fin (unhide H0) SF (by unfold fitI;omega) (by unfold fitI;omega) fH (by omega) kH hmr hcode hcnt hmv;obtain ⟨ba,bn,bc⟩:=b;obtain ⟨ha,hn,hc⟩:=h;have x0:=bx_cell SF.cb 0 _ rfl;have x1:=bx_cell SF.cb 1 _ rfl;have x2:=bx_cell SF.cb 2 _ rfl;have x3:=bx_cell SF.cb 3 _ rfl;have x4:=bx_cell SF.cb 4 _ rfl;have y0:=bx_cell SF.rb 0 _ rfl;have y1:=bx_cell SF.rb 1 _ rfl;have y2:=bx_cell SF.rb 2 _ rfl;have y3:=bx_cell SF.rb 3 _ rfl;have y4:=bx_cell SF.rb 4 _ rfl;have z0:=bx_thaw SF.rb 0;have z1:=bx_thaw SF.rb 1;have z2:=bx_thaw SF.rb 2;have z3:=bx_thaw SF.rb 3;have z4:=bx_thaw SF.rb 4;simp only [Sl.v] at x2 x3 x4 HFIN;have HFI:=hide HFIN;clear HFIN SF hcode hjj hcnt hmv hmr hn1 g1 m1 hn2 g2 m2 gB mB lB gH fH kH lH mH;go_wp2_with fail;obtain ⟨hpost,hrow⟩:=unhide HFI;refine bodyPost_ret (v:=.agg #[.int .i64 n1,.int .i64 n2,.slice ba bn bc,.slice ha hn hc,.slice none 0 0]) ?_ rfl (by rw [unhide HPO];exact hpost);exact results_cell_row Tryz.results43 _ _ w.heap.size 47 _ (0,0) _ rfl hrow Tryz.underlying47 rfl sizeCode8
 · have y8:(n8==0)=false:=by simpa using z8
   have HN:=hide (unhide HUt w8 j8 e8 (unhide HS8).2.2.2.gd);go_wp2_with fail;refine (unhide HN).mono ?_;rintro e w9 ⟨s9,j9,e9,rfl,ts9,g9,m9,G9,F9⟩;clear HN;have HS9:=hide (And.intro g9 (And.intro m9 ((unhide HS8).2.2.2.call (unhide H0) G9 F9)));clear ts9 g9 m9 G9 F9;have HN:=hide (unhide HU w9 j9 e9 4 (unhide HS9).2.2.gd (.inr (.inr rfl)));go_wp2_with fail;refine (unhide HN).mono ?_;rintro e w10 ⟨n10,j10,e10,rfl,hn_,hg_,hm_,hk_,GN,FN⟩;have gN:=(hg_ (by decide)).2.2;have sN:=hg_ (by decide);have mN:Mv 4 j9 e9 j10 e10:=⟨hm_.1,fun e=>by rw [hm_.2.1 e];exact Nat.le_refl _,hk_⟩;clear HN hg_ hm_ hk_;have HS10:=hide (And.intro gN (And.intro mN ((unhide HS9).2.2.call (unhide H0) GN FN)));clear hn_ sN gN mN GN FN;have HN:=hide (unhide HU w10 j10 e10 2 (unhide HS10).2.2.gd (.inr (.inl rfl)));go_wp2_with fail;refine (unhide HN).mono ?_;rintro e w11 ⟨n11,j11,e11,rfl,hn_,hg_,hm_,hk_,GN,FN⟩;have gN:=(hg_ (by decide)).2.2;have sN:=hg_ (by decide);have mN:Mv 2 j10 e10 j11 e11:=⟨hm_.1,fun e=>by rw [hm_.2.1 e];exact Nat.le_refl _,hk_⟩;clear HN hg_ hm_ hk_;obtain ⟨N,rfl⟩:∃N:Nat,n11=N:=⟨n11.toNat,by omega⟩;have hN:N≤65535:=by
    have h9:((256^2:Nat):Int)=65536:=by decide +kernel
    have:=sN.1;omega
   have HS11:=hide (And.intro gN (And.intro mN ((unhide HS10).2.2.call (unhide H0) GN FN)));clear hn_ sN gN mN GN FN
   go_upto_block 2 with fail
   go_cut [] from 12 (fun wr=>∃(p:Sl) (mr:List MpR) (j:Nat) (ej:Bool),Got (mapsR C.l) C.bs j10 e10 (mr.map MpR.m) j ej∧mr.length≤65536∧mapsN (mr.map MpR.m)≤2*(j-j10)+(if ej=true then 5 else 0)∧Mv 2 j10 e10 j ej∧CS C w A n1 n2 b by_ h hs p mr j ej wr)
   case first=>
    have HS0:=hide (unhide HS11).2.2;go_wp2
    go_loopw [9,10] (fun vl vn wr=>∃(p:Sl) (mr:List MpR) (last:Int) (j:Nat) (ej:Bool),vl=.int .i64 last∧vn=.int .i64 ((N-mr.length:Nat):Int)∧mr.length≤N∧(-1≤last∧last≤65536*(mr.length+1))∧MidP C.l C.bs N e11 (C.bs.drop j11) (mr.map MpR.m) last j ej∧mapsN (mr.map MpR.m)≤2*(j-j11)+(if ej=true then 5 else 0)∧Mv 0 j11 e11 j ej∧CS C w A n1 n2 b by_ h hs p mr j ej wr) (fun _ vn _=>(intOf vn).toNat)
    case atStart=>exact ⟨⟨none,0,0⟩,[],-1,j11,e11,rfl,rfl,Nat.zero_le _,by simp,⟨fun e=>e,fun e vs r hr=>⟨e,vs,rfl,hr⟩⟩,Nat.zero_le _,Mv.refl _ _,unhide HS0⟩
    case round=>
     clear HS0;obtain ⟨p,mr,last,j,ej,rfl,rfl,hle,hlast,hM,hL,hV,S⟩:=hrel;obtain ⟨M,hMM⟩:∃M,N-mr.length=M:=⟨_,rfl⟩;rw [hMM];have HI:=hide (And.intro hle (And.intro hlast (And.intro hM (And.intro hL (And.intro hV S)))));have hll:-1≤last∧last≤65536*65537:=by omega
     have d3:wr.cell? ⟨C.X,3,none⟩=some (.bool ej):=bx_cell S.gd.blk 3 _ rfl;have KE:Hid ((M=0∨ej=true)→∃(p:Sl) (mr:List MpR) (j:Nat) (ej:Bool),Got (mapsR C.l) C.bs j10 e10 (mr.map MpR.m) j ej∧mr.length≤65536∧mapsN (mr.map MpR.m)≤2*(j-j10)+(if ej=true then 5 else 0)∧Mv 2 j10 e10 j ej∧CS C w A n1 n2 b by_ h hs p mr j ej wr):=hide fun hx=>by
      obtain ⟨g5,m5,_⟩:=unhide HS11;exact ⟨p,mr,j,ej,MidP.done g5 rfl hM (hx.imp (fun h=>by rw [List.length_map];omega) id),by omega,by have:=m5.le;have:=hV.le;omega,m5.trans hV,S⟩
     clear hM hL hV S hlast
     by_cases hm0:M=0
     · subst hm0
       go_wp2;go_meet;exact unhide KE (.inl (by first | rfl | trivial))
     · obtain ⟨m,rfl⟩:∃k,M=k+1:=⟨M-1,by omega⟩
       have hm1:(0:Int)<((m+1:Nat):Int):=by omega
       clear hm0;have HMM:=hide hMM;clear hMM;cases ej with
       | true=>
        go_wp2;go_meet;exact unhide KE (.inr (by first | rfl | trivial))
       | false=>
        have S:=(unhide HI).2.2.2.2.2;have HN:=hide (unhide HU wr j false 1 S.gd (.inl rfl));clear S KE;go_wp2_with fail;refine (unhide HN).mono ?_;rintro e w2 ⟨x1,k1,f1,rfl,hn_,hg_,hm_,hk_,GN,FN⟩;have gN:=(hg_ (by decide)).2.2;have sN:=hg_ (by decide);have mN:Mv 1 j false k1 f1:=⟨hm_.1,fun e=>by rw [hm_.2.1 e];exact Nat.le_refl _,hk_⟩;clear HN hg_ hm_ hk_;have S2:=(unhide HI).2.2.2.2.2.call (unhide H0) GN FN;have HB1:=hide (And.intro gN (And.intro mN S2));clear hn_ sN gN mN GN FN S2 d3;have y1:IntKind.i64.wrap (last+1)=last+1:=by rw [IntKind.wrap_i64];omega
        have HN:=hide (unhide HU w2 k1 f1 2 (unhide HB1).2.2.gd (.inr (.inl rfl)));go_wp2_with fail;refine (unhide HN).mono ?_;rintro e w3 ⟨x2,k2,f2,rfl,hn_,hg_,hm_,hk_,GN,FN⟩;have gN:=(hg_ (by decide)).2.2;have sN:=hg_ (by decide);have mN:Mv 2 k1 f1 k2 f2:=⟨hm_.1,fun e=>by rw [hm_.2.1 e];exact Nat.le_refl _,hk_⟩;clear HN hg_ hm_ hk_;have hx2:0≤x2∧x2≤65535:=by
         have h9:((256^2:Nat):Int)=65536:=by decide +kernel
         have:=sN.1;omega
        have y2:IntKind.i64.wrap (last+1+x2)=last+1+x2:=by rw [IntKind.wrap_i64];omega
        have S3:=(unhide HB1).2.2.call (unhide H0) GN FN;have b4:Below w3.heap.size w3 (w3.alloc (.cells #[.int .i64 (last+1+x2),.slice none 0 0,.slice none 0 0] 52)):=(Below.refl _ _).alloc (Nat.le_refl _) _;have q4:=heap_alloc_new w3 (.cells #[.int .i64 (last+1+x2),.slice none 0 0,.slice none 0 0] 52);have G4:=GN.below b4;have F4:GF C.X C.B w _:=S3.gf.trans (GF.of_below b4 GN.hB);have hz:w.heap.size≤w3.heap.size:=S3.gf.size;have HB2:=hide (And.intro gN (And.intro mN S3));clear hn_ sN gN mN GN FN S3;obtain ⟨AT,hAT⟩:∃AT,AT=last+1+x2:=⟨_,rfl⟩;rw [←hAT] at b4 q4 G4 F4;have hATb:-1≤AT∧AT≤last+65536:=by omega
        obtain ⟨Hb,hHb⟩:∃Hb,Hb=w3.heap.size:=⟨_,rfl⟩;rw [←hHb] at q4 hz;have K4:Kx C.X w3 (w3.alloc (.cells #[.int .i64 AT,.slice none 0 0,.slice none 0 0] 52)):=Kx.of_below b4;obtain ⟨w4,hw4⟩:∃w4,w4=w3.alloc (.cells #[.int .i64 AT,.slice none 0 0,.slice none 0 0] 52):=⟨_,rfl⟩;rw [←hw4] at q4 G4 F4 K4;have HQ4:=hide (And.intro q4 (And.intro G4 (And.intro F4 K4)));have c4:w4.cell? ⟨Hb,0,none⟩=some (.int .i64 AT):=bx_cell q4 0 _ rfl;have HAT:=hide hAT;have HW4:=hide hw4;have HHb:=hide hHb;clear hw4 q4 G4 F4 K4 b4 hAT hHb;go_upto_region 25 with fail
        rw [←unhide HAT,←unhide HW4,←unhide HHb];have HN:=hide (unhide HTy w4 k2 f2 true (unhide HQ4).2.1);clear y1 y2;go_wp2_with fail;refine (unhide HN).mono ?_;rintro e w5 ⟨⟨s1a,s1n,s1c⟩,t1,k3,f3,rfl,o5,ok5,g5,l5,m5,G5,F5⟩;clear HN c4;unfold Sl.v at o5 ⊢;simp only at o5 ⊢;have q5:=(unhide HQ4).2.1.keep F5 (unhide HQ4).1 (by decide);have FF5:=(unhide HQ4).2.2.1.trans F5;have hz5:w3.heap.size≤w4.heap.size:=by rw [unhide HW4];simp
        have K5:=(unhide HQ4).2.2.2.trans hz5 F5.1;have hzb:w3.heap.size≤Hb:=by rw [unhide HHb];exact Nat.le_refl _
        obtain ⟨G6,F6⟩:=(unhide H0).put G5 FF5 (H:=Hb) hz 1 (.slice s1a s1n s1c);have K6:=Kx.set K5 hzb 1 (.slice s1a s1n s1c);have q6:=heap_setCell_same w5 Hb 1 _ _ (.slice s1a s1n s1c) q5;have O6:Orw tyc 143 2 (w5.setCell ⟨Hb,1,none⟩ (.slice s1a s1n s1c)) w.heap.size (.slice s1a s1n s1c) t1:=(orw_set q5 o5 (by decide) 1 (.slice s1a s1n s1c)).base (unhide HQ4).2.2.1.size;have c5:w5.cell? ⟨Hb,1,none⟩=some (.slice none 0 0):=bx_cell q5 1 _ rfl;have z5:=bx_thaw q5 1;obtain ⟨w6,hw6⟩:∃w6,w6=w5.setCell ⟨Hb,1,none⟩ (.slice s1a s1n s1c):=⟨_,rfl⟩;rw [←hw6] at G6 F6 K6 q6 O6;have HW6:=hide hw6;have HQ6:=hide (And.intro q6 (And.intro G6 (And.intro F6 (And.intro K6 O6))));have HT1:=hide (And.intro ok5 (And.intro g5 (And.intro l5 m5)));clear o5 ok5 g5 l5 m5 G5 F5 q5 FF5 K5 G6 F6 K6 q6 O6 hw6 HQ4;go_upto_region 27 with fail
        rw [←unhide HW6];clear c5 z5;have HN:=hide (unhide HTy w6 k3 f3 false (unhide HQ6).2.1);go_wp2_with fail;refine (unhide HN).mono ?_;rintro e w7 ⟨⟨s2a,s2n,s2c⟩,t2,k4,f4,rfl,o7,ok7,g7,l7,m7,G7,F7⟩;clear HN;unfold Sl.v at o7 ⊢;simp only at o7 ⊢;have q7:=(unhide HQ6).2.1.keep F7 (unhide HQ6).1 (by decide);have FF7:=(unhide HQ6).2.2.1.trans F7;have hz6:w3.heap.size≤w6.heap.size:=Nat.le_trans hz5 (by have:=lt_of_heap (unhide HQ6).1;rw [unhide HHb] at this;rw [unhide HW4];simp;omega);have K7:=(unhide HQ6).2.2.2.1.trans hz6 F7.1;have O7:=(unhide HQ6).2.1.orw F7 (unhide HQ6).2.2.2.2 (by decide);obtain ⟨G8,F8⟩:=(unhide H0).put G7 FF7 (H:=Hb) hz 2 (.slice s2a s2n s2c);have K8:=Kx.set K7 hzb 2 (.slice s2a s2n s2c);have q8:=heap_setCell_same w7 Hb 2 _ _ (.slice s2a s2n s2c) q7;have O8:=orw_set q7 O7 (by decide) 2 (.slice s2a s2n s2c);have P8:Orw tyc 143 2 (w7.setCell ⟨Hb,2,none⟩ (.slice s2a s2n s2c)) w.heap.size (.slice s2a s2n s2c) t2:=(orw_set q7 o7 (by decide) 2 (.slice s2a s2n s2c)).base (unhide HQ6).2.2.1.size;have c7:w7.cell? ⟨Hb,2,none⟩=some (.slice none 0 0):=bx_cell q7 2 _ rfl;have z7:=bx_thaw q7 2;obtain ⟨w8',hw8⟩:∃w8',w8'=w7.setCell ⟨Hb,2,none⟩ (.slice s2a s2n s2c):=⟨_,rfl⟩;rw [←hw8] at G8 F8 K8 q8 O8 P8;have HW8:=hide hw8;have HQ8:=hide (And.intro q8 (And.intro G8 (And.intro F8 (And.intro K8 (And.intro O8 P8)))));have HT2:=hide (And.intro ok7 (And.intro g7 (And.intro l7 m7)));clear o7 ok7 g7 l7 m7 G7 F7 q7 FF7 K7 O7 G8 F8 K8 q8 O8 P8 hw8 HQ6;go_upto_region 28 with fail
        rw [←unhide HW8];clear c7 z7;obtain ⟨q8,G8,F8,K8,O8,P8⟩:=unhide HQ8;simp only [List.setIfInBounds_toArray,List.set_cons_succ,List.set_cons_zero] at q8;have S8:=CS.kx (unhide H0) (unhide HB2).2.2 G8 F8 K8;have hsl:mr.length≤100000:=by have:=(unhide HI).1;omega
        have hT1l:t1.length≤8589934592:=by
         have h1:=(unhide HT1).2.2.1;have h2:=unhide HJN _ _ _ G8;have h3:=(unhide HT2).2.2.2.le;have:(if f3=true then 2 else 0)≤2:=by split <;> omega
         omega
        have hT2l:t2.length≤4294967296:=by
         have h1:=(unhide HT2).2.2.1;have h2:=unhide HJN _ _ _ G8;have:(if f4=true then 2 else 0)≤2:=by split <;> omega
         omega
        have hmp:MpOk C.l w8' w.heap.size ⟨⟨AT,t1,t2⟩,⟨s1a,s1n,s1c⟩,⟨s2a,s2n,s2c⟩⟩:=⟨⟨O8,P8⟩,by unfold fitI;show _≤AT∧AT≤_;omega,(unhide HT1).1,(unhide HT2).1,hT1l,hT2l⟩;obtain ⟨o3,l3,e1',e2',e3',hx⟩:=CS.pushP (unhide H0) S8 ⟨⟨AT,t1,t2⟩,⟨s1a,s1n,s1c⟩,⟨s2a,s2n,s2c⟩⟩ hmp hsl #[.int .i64 AT,.slice s1a s1n s1c,.slice s2a s2n s2c] rfl;have cA:w8'.cell? ⟨A,4,none⟩=some p.v:=bx_cell S8.cb 4 _ rfl;have y0:w8'.cell? ⟨Hb,0,none⟩=some (.int .i64 AT):=bx_cell q8 0 _ rfl;have y1:w8'.cell? ⟨Hb,1,none⟩=some (.slice s1a s1n s1c):=bx_cell q8 1 _ rfl;have y2:w8'.cell? ⟨Hb,2,none⟩=some (.slice s2a s2n s2c):=bx_cell q8 2 _ rfl;have HO:=hide o3;have HL:=hide l3;have HSS:=hide (And.intro e1' (And.intro e2' e3'));have HX:=hide hx;have hgot:Got (mapR C.l last) C.bs j false ⟨AT,t1,t2⟩ k4 f4:=by
         rw [unhide HAT];exact got_mp (unhide HB1).1 (unhide HB2).1 (unhide HT1).2.1 (unhide HT2).2.1
        have hmv:=(((unhide HB1).2.1.trans (unhide HB2).2.1).trans (unhide HT1).2.2.2).trans (unhide HT2).2.2.2;have hcn:1+t1.length+t2.length≤2*(k4-j)+(if f4=true then 5 else 0):=by
         have h1:=(unhide HT1).2.2.1;have h2:=(unhide HT2).2.2.1;have h3:=(unhide HB1).2.1.le;have h4:=(unhide HB2).2.1.le;have h5:=(unhide HT1).2.2.2.le;have h6:=(unhide HT2).2.2.2.le;cases f4 with
         | true=>
          have:(if f3=true then 2 else 0)≤2:=by split <;> omega
          simp only [if_true] at h2 ⊢;omega
         | false=>
          have:=hmv.by_ rfl;have hf3:f3=false:=by
           cases h:f3 with
           | false=>rfl
           | true=>
            have:=((unhide HT2).2.2.2.bad h).1;cases this
          rw [hf3] at h1;have hq1:=(unhide HB1).2.1;have hf1:f1=false:=by
           cases h:f1 with
           | false=>rfl
           | true=>
            have:=((((unhide HB2).2.1.trans (unhide HT1).2.2.2).trans (unhide HT2).2.2.2).bad h).1;cases this
          have:=hq1.by_ hf1;simp at h1 h2 ⊢;omega
        have HGM:=hide (And.intro hgot (And.intro hmv hcn));clear o3 l3 e1' e2' e3' hx q8 G8 F8 K8 O8 P8 S8 hmp hT1l hT2l hgot hmv hcn HT1 HT2 HB1 HB2 HQ8;obtain ⟨pa,pn,pc⟩:=p;unfold Sl.v at cA HX HO;simp only at cA HX HO
        go_wp2_with (first
         | (at_builtin;refine listR_append rkP rfl _ _ rfl w.heap.size _ _ rfl (unhide HO) _ 1 1 [_] rfl (unhide HL) (fun e=>by cases e) (unhide HSS).1 (unhide HSS).2.1 (unhide HSS).2.2 ?_)
         | go_in)
        intro v4 w10 o4 g4;obtain ⟨a4',c4',hv4,_⟩:=o4.form;subst hv4;have hln:(mr++[(⟨⟨AT,t1,t2⟩,⟨s1a,s1n,s1c⟩,⟨s2a,s2n,s2c⟩⟩:MpR)]).length=mr.length+1:=by simp
        obtain ⟨cb,S10⟩:=unhide HX ⟨a4',(mr++[(⟨⟨AT,t1,t2⟩,⟨s1a,s1n,s1c⟩,⟨s2a,s2n,s2c⟩⟩:MpR)]).length,c4'⟩ w10 o4 g4
        try unfold Sl.v at cb S10
        try simp only at cb S10
        have cA':w10.cell? ⟨A,4,none⟩=some (.slice pa pn pc):=bx_cell cb 4 _ rfl;have zA':=bx_thaw cb 4;obtain ⟨hle,hlast,hM,hL,hV,_⟩:=unhide HI;obtain ⟨hgot,hmv,hcn⟩:=unhide HGM;rw [hln] at S10
        have HZ:=hide (show ∃(p:Sl) (mr':List MpR) (j:Nat) (ej:Bool),m=N-mr'.length∧mr'.length≤N∧(-1≤AT∧AT≤65536*(mr'.length+1))∧MidP C.l C.bs N e11 (C.bs.drop j11) (mr'.map MpR.m) AT j ej∧mapsN (mr'.map MpR.m)≤2*(j-j11)+(if ej=true then 5 else 0)∧Mv 0 j11 e11 j ej∧CS C w A n1 n2 b by_ h hs p mr' j ej (w10.setCell ⟨A,4,none⟩ (.slice a4' (mr.length+1) c4')) from ⟨⟨a4',mr.length+1,c4'⟩,mr++[(⟨⟨AT,t1,t2⟩,⟨s1a,s1n,s1c⟩,⟨s2a,s2n,s2c⟩⟩:MpR)],k4,f4,by have:=unhide HMM;omega,by have:=unhide HMM;omega,by rw [hln];omega,by
         rw [List.map_append];exact hM.next (by rw [List.length_map];have:=unhide HMM;omega) hgot,by
         have h1:=hV.le;have h2:=hmv.le;have h3:mapsN ((mr++[(⟨⟨AT,t1,t2⟩,⟨s1a,s1n,s1c⟩,⟨s2a,s2n,s2c⟩⟩:MpR)]).map MpR.m)=mapsN (mr.map MpR.m)+(1+t1.length+t2.length):=by
          unfold mapsN;simp
         rw [h3];rw [if_neg (by decide)] at hL;omega,⟨Nat.le_trans hV.le hmv.le,fun e=>Nat.le_trans hV.le hmv.le,fun e=>by have:=(hV.bad e).1;cases this⟩,S10⟩)
        have hmb:m≤65535:=by have:=unhide HMM;omega
        clear o4 g4 cb S10 hle hlast hM hL hV hgot hmv hcn hln HO HL HSS HX HGM;go_wp2;go_roundw
        case rel=>
         obtain ⟨p,mr',j,ej,hmm,hz⟩:=unhide HZ;exact ⟨p,mr',AT,j,ej,rfl,by rw [←hmm],hz⟩
        case measure=>(simp [intOf] <;> omega)
   case rest=>
   obtain ⟨p,mr,j12,e12,g12,hmr,hmn,m12,S12⟩:=hcut;clear HS7;have HSM:=hide (And.intro g12 (And.intro hmn (And.intro m12 S12)));clear g12 hmn m12 S12;obtain ⟨pa,pn,pc⟩:=p;obtain ⟨hn1,g1,m1,_⟩:=unhide HS1;obtain ⟨hn2,g2,m2,_⟩:=unhide HS2;obtain ⟨gB,mB,lB⟩:=unhide HSB;obtain ⟨gH,fH,kH,lH,mH⟩:=unhide HSH;have SF:=(unhide HSM).2.2.2;have hcode:=got_code (l:=C.l) g1 g2 gB gH (got_tab1 (unhide HS8).2.1 z8 (unhide HS9).1 (unhide HS10).1 (unhide HSM).1);have hjj:=unhide HJN _ _ _ SF.gd;have hmv:Mv 2 i en j12 e12:=(((((((m1.trans m2).trans mB).trans mH).trans (unhide HS8).2.2.1).trans (unhide HS9).2.1).trans (unhide HS10).2.1).trans (unhide HSM).2.2.1).less (by omega);have hcnt:methN ⟨0,[],[],⟨n1,n2,by_,hs,mr.map MpR.m⟩⟩≤2*(j12-i)+(if e12=true then 6 else 0):=by
    show by_.length+hs.length+mapsN (mr.map MpR.m)≤_;have h1:=m1.le;have h2:=m2.le;have h3:=mB.le;have h4:=mH.le;have h5:=(unhide HS8).2.2.1.le;have h6:=(unhide HS9).2.1.le;have h7:=(unhide HS10).2.1.le;have h8:=(unhide HSM).2.2.1.le;have h9:=(unhide HSM).2.1;have h10:=((((unhide HS8).2.2.1.trans (unhide HS9).2.1).trans (unhide HS10).2.1).trans (unhide HSM).2.2.1);cases e6 with
    | true=>
     have:=(h10.bad rfl).1;rw [if_pos rfl] at lH;rw [if_pos this] at h9 ⊢;omega
    | false=>
     rw [if_neg (by decide)] at lH;cases e12 with
     | true=>simp only [if_true] at h9 ⊢;omega
     | false=>simp at h9 ⊢;omega
   have HFIN:=CS.fin (unhide H0) SF (by unfold fitI;omega) (by unfold fitI;omega) fH (by omega) kH hmr hcode hcnt hmv;obtain ⟨ba,bn,bc⟩:=b;obtain ⟨ha,hn,hc⟩:=h;have x0:=bx_cell SF.cb 0 _ rfl;have x1:=bx_cell SF.cb 1 _ rfl;have x2:=bx_cell SF.cb 2 _ rfl;have x3:=bx_cell SF.cb 3 _ rfl;have x4:=bx_cell SF.cb 4 _ rfl;have y0:=bx_cell SF.rb 0 _ rfl;have y1:=bx_cell SF.rb 1 _ rfl;have y2:=bx_cell SF.rb 2 _ rfl;have y3:=bx_cell SF.rb 3 _ rfl;have y4:=bx_cell SF.rb 4 _ rfl;have z0:=bx_thaw SF.rb 0;have z1:=bx_thaw SF.rb 1;have z2:=bx_thaw SF.rb 2;have z3:=bx_thaw SF.rb 3;have z4:=bx_thaw SF.rb 4;simp only [Sl.v] at x2 x3 x4 HFIN;have HFI:=hide HFIN;clear HFIN SF hcode hjj hcnt hmv hmr hn1 g1 m1 hn2 g2 m2 gB mB lB gH fH kH lH mH;go_wp2_with fail;obtain ⟨hpost,hrow⟩:=unhide HFI;refine bodyPost_ret (v:=.agg #[.int .i64 n1,.int .i64 n2,.slice ba bn bc,.slice ha hn hc,.slice pa pn pc]) ?_ rfl (by rw [unhide HPO];exact hpost);exact results_cell_row Tryz.results43 _ _ w.heap.size 47 _ (0,0) _ rfl hrow Tryz.underlying47 rfl sizeCode8
end Go.Proofs.YtlabllgifkklhaaGreatDoor
