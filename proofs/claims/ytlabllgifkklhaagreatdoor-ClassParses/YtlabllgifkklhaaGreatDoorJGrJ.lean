/- The document's class: Print (written by mk/mkgrj.py). -/
import Derived.Test.YtlabllgifkklhaaGreatDoorJP30
import Derived.Test.YtlabllgifkklhaaGreatDoorJCkO
set_option linter.unusedVariables false
set_option maxRecDepth 100000
set_option maxHeartbeats 12800000
namespace Go.Proofs.YtlabllgifkklhaaGreatDoor
open Go.RowKit
theorem alloc_sz (W:World) (o:Obj):(W.alloc o).heap.size=W.heap.size+1:=by simp
def headC:Array Value:=#[.int .u8 202,.int .u8 254,.int .u8 186,.int .u8 190,.int .u8 0,.int .u8 0,.int .u8 0,.int .u8 52]
theorem headC_is:headK.flatMap byc=headC.toList:=by
 unfold headK headC byc;simp
theorem head_row (w:World) (o:Obj):Orw byc 5 1 ((w.alloc (.cells headC 5)).alloc o) w.heap.size (.slice (some ⟨w.heap.size,0,none⟩) 8 8) headK:=by
 unfold Orw;rw [headC_is];exact (World.ownsRow_lit (base:=w.heap.size) (e:=5) (size:=1) w headC 8 (Nat.le_refl _) (by decide) rfl).alloc o
theorem head_blk (w:World) (o1 o:Obj):((w.alloc o1).alloc o).heap[w.heap.size+1]?=some o:=by
 have h:=heap_alloc_new (w.alloc o1) o;rw [alloc_sz] at h;exact h
theorem head_below {w0 w:World} (f:Below w0.heap.size w0 w) (o1 o:Obj):Below w0.heap.size w0 ((w.alloc o1).alloc o):=
 (f.alloc f.size _).alloc (by rw [alloc_sz];have:=f.size;omega) _
theorem gPrint_yes (w:World) (r:ClR) (CC:Cl) (hCC:CC=r.c) (PO:Ending→World→Prop) (HPO:Hid (PO=gprint_post w CC)) (hC:CIn w r) (hl:sizeK r.c<14000) (h1:checkP r.c.pool=true) (h2:r.c.fields.length≤256) (h3:r.c.methods.length≤256) :
 Calls Tryz.prog 10 #[r.v] w PO:=by
 obtain ⟨⟨pl,nm,sp,fl,ml⟩,⟨p1a,p1n,p1c⟩,⟨f1a,f1n,f1c⟩,⟨m1a,m1n,m1c⟩,mr⟩:=r;simp only at h1 h2 h3 hl;replace hCC:CC=(⟨pl,nm,sp,fl,ml⟩:Cl):=hCC;rw [←hCC] at hl;obtain ⟨w0,e0,f0,K0⟩:=one_local w #[.slice p1a p1n p1c,.string ⟨nm.toArray⟩,.string ⟨sp.toArray⟩,.slice f1a f1n f1c,.slice m1a m1n m1c] 26;have hfl:fl.length=f1n:=hC.fields.ls.1;have hml:ml.length=m1n:=by
  have h4:=hC.same;have h5:=hC.methods.ls.1;simp only at h4 h5;rw [h4,List.length_map];exact h5
 rw [hfl] at h2;rw [hml] at h3;have hC0:=hC.below f0;have hP:EIn w0 p1a p1n p1c pl:=hC0.pool;have hpn:p1n≤140737488351232:=by have:=hP.small;omega
 have HK:=hide (jCheck_any w0 p1a p1n p1c pl hP.arg.es (by omega) hP.fit.1 hP.fit.2);rw [if_pos h1] at HK;have HJ:Hid (∀W,Below w0.heap.size w0 W→Calls Tryz.prog 26 #[.slice p1a p1n p1c] W fun e w'=>∃v,e=.returned v∧Orw byc 5 1 w' W.heap.size v (bytesP pl)∧Below W.heap.size W w'):=hide fun W f=>(jBytes_any W p1a p1n p1c pl (hP.arg.es.below f) h1 hP.fit.2).mono (by
  rintro e w' ⟨v,rfl,o,f'⟩;refine ⟨v,rfl,?_,f'⟩;show w'.ownsRow _ _ _ _ _ _;rw [byc_bv];exact o)
 have KL:Hid (∀W,Below w0.heap.size w0 W→W.cell? ⟨w.heap.size,0,none⟩=some (.slice p1a p1n p1c)∧W.cell? ⟨w.heap.size,1,none⟩=some (.string ⟨nm.toArray⟩)∧W.cell? ⟨w.heap.size,2,none⟩=some (.string ⟨sp.toArray⟩)∧W.cell? ⟨w.heap.size,3,none⟩=some (.slice f1a f1n f1c)∧W.cell? ⟨w.heap.size,4,none⟩=some (.slice m1a m1n m1c)):=fun W f=>⟨K0 W f 0 _ rfl,K0 W f 1 _ rfl,K0 W f 2 _ rfl,K0 W f 3 _ rfl,K0 W f 4 _ rfl⟩
 have h3b:decide ((256:Int)<(f1n:Int))=false:=decide_eq_false (by omega);have h4b:decide ((256:Int)<(m1n:Int))=false:=decide_eq_false (by omega);have h3c:decide (256<f1n)=false:=decide_eq_false (by omega);have h4c:decide (256<m1n)=false:=decide_eq_false (by omega);have h256:f1n≤256∧m1n≤256:=⟨h2,h3⟩;have hbp:(bytesP pl).length≤400000:=bytesP_len h1;have hhk:headK.length=8:=rfl;have HP:=hide (And.intro hP h1);have HC0:=hide hC0;have HCC:=hide hCC;have H0:=hide f0;have HSZ:=hide hl;have hw0:w0.heap.size=w.heap.size+1:=by rw [←e0];simp
 obtain ⟨q0,q1,q2,q3,q4⟩:=unhide KL w0 (Below.refl _ _);clear hC hC0 hP hCC f0 K0 h2 h3 hl;unfold ClR.v Sl.v;simp only;go_enter Tryz.func10,Tryz.ntmps10;go_wp2_with fail;refine (unhide HK).mono ?_;rintro e w1 ⟨rfl,f1⟩;clear q0 q1 q2 q3 q4;obtain ⟨q0,q1,q2,q3,q4⟩:=unhide KL w1 f1;have H1:=hide f1;clear f1 HK e0;go_upto_region 3 with fail
 go_cut [4] from 10 (fun v4 wr=>∃B,v4=.pointer (some ⟨B+1,0,none⟩)∧w0.heap.size≤B∧wr.heap[B+1]?=some (.cells #[.slice p1a p1n p1c,.slice (some ⟨B,0,none⟩) 8 8,.bool false] 65 (0,0))∧Orw byc 5 1 wr B (.slice (some ⟨B,0,none⟩) 8 8) headK∧Below w0.heap.size w0 wr)
 case first=>
  have f1:=unhide H1;have KR0:=head_row w1;unfold headC at KR0;have KR:=hide KR0;have KK:=hide (head_blk w1);have KBl:=hide (head_below f1);have f1s:=f1.size;clear f1 KR0;go_wp2;go_meet;refine ⟨w1.heap.size,rfl,f1s,?_,?_,?_⟩
  · exact unhide KK _ _
  · have KR0:=unhide KR
    with_reducible exact KR0 _
  · exact unhide KBl _ _
 case rest=>
  obtain ⟨B,rfl,hB,x3,o3,F3⟩:=hcut;obtain ⟨w3,hw3⟩:∃w3,w3=wc:=⟨_,rfl⟩;rw [←hw3] at x3 o3 F3;rw [←hw3];clear hw3 wc;have HX3:=hide (And.intro x3 (And.intro o3 F3));clear x3 o3 F3 q0 q1 q2 q3 q4 H1;go_upto_region 4 with fail
  go_cut [] from 10 (fun wr=>Gw (B+1) B ⟨p1a,p1n,p1c⟩ (headK++bytesP pl) false wr∧Below w0.heap.size w0 wr)
  case first=>
   as_aux_lemma=>
    obtain ⟨x3,o3,F3⟩:=unhide HX3;refine wp_region_txtn (fun W=>Below w0.heap.size w0 W∧W.heap[B+1]?=some (.cells #[.slice p1a p1n p1c,.slice (some ⟨B,0,none⟩) 8 8,.bool false] 65 (0,0))) [7,8] (List.range 11) 11 (by rfl) (by kernel_rfl) (by kernel_rfl) ⟨F3.drew,x3⟩ ?_;simp only [List.take_succ_cons,List.take_zero]
    repeat (first
     | (refine Txt.reads (v:=?_) (by rfl) (by rfl) (by rfl) ?_ ?_;rotate_left;(focus ((intro W hSW;obtain ⟨q1,q2⟩:=hSW;have x1:W.cell? ⟨B+1,1,none⟩=some (.slice (some ⟨B,0,none⟩) 8 8):=bx_cell q2 1 _ rfl;obtain ⟨k0,_⟩:=unhide KL W q1;clear q1 q2;go_simp) <;> with_reducible rfl));simp only [Act.put,List.setIfInBounds_toArray,List.set_cons_zero,List.set_cons_succ]))
    refine Txt.acts (by rfl) (by rfl) (by rfl) (fun K hK=>?_);go_simp;have HJ9:=unhide HJ w3.drew F3.drew;refine HJ9.mono ?_;rintro e w5 ⟨v,rfl,o5,f5⟩;have hsz3:w3.drew.heap.size=w3.heap.size:=rfl;have f35:Below w3.heap.size w3 w5:=((Below.refl _ _).drew).trans (f5.mono (by rw [hsz3];exact Nat.le_refl _));have F5:Below w0.heap.size w0 w5:=F3.trans (f35.mono F3.size);have x5:w5.heap[B+1]?=some (.cells #[.slice p1a p1n p1c,.slice (some ⟨B,0,none⟩) 8 8,.bool false] 65 (0,0)):=(f35.block _ (lt_of_heap x3)).trans x3;have oh5:Orw byc 5 1 w5 B (.slice (some ⟨B,0,none⟩) 8 8) headK:=o3.below fun k hk=>f35.block k (o3.lt k hk).2
    have hB5:B≤w5.heap.size:=by have:=lt_of_heap x5;omega
    refine hK.out _ _ ⟨F5,x5⟩ ?_;clear hK K;obtain ⟨a5,c5,rfl,nil5,_⟩:=o5.form;refine Txt.acts (by rfl) (by rfl) (by rfl) (fun K hK=>?_);refine wpR_append rkB10 (.tmp 35) (.tmp 38) rfl B (.slice (some ⟨B,0,none⟩) 8 8) headK (by rfl) oh5 a5 _ c5 (bytesP pl) (by rfl) (o5.ls rkB10) nil5 (by rw [hhk];omega) (by rw [hhk];omega) hB5 ?_;intro v7 w7 o7 g7;obtain ⟨a7,c7,rfl,x7,g8,k8,f8⟩:=gw_grown (X:=B+1) (p:=⟨p1a,p1n,p1c⟩) x5 (by omega) oh5 0 v7 w7 (bytesP pl) o7 g7;have b7:Below B w5 w7:=Below.grown (Below.refl B w5) g7 hB5 (fun k hk=>(oh5.lt k hk).1);have F7:Below w0.heap.size w0 w7:=F5.trans (b7.mono hB);have G8:=hide (And.intro g8 (F5.trans (f8.mono hB)));refine hK.out _ _ ⟨F7,x7⟩ ?_;have z7:=bx_thaw x7 1;have c7':w7.cell? ⟨B+1,1,none⟩=some (.slice (some ⟨B,0,none⟩) 8 8):=bx_cell x7 1 _ rfl;clear hK K g8 k8 f8 b7 o7 g7 x7
    repeat (first
     | (refine Txt.reads (v:=?_) (by rfl) (by rfl) (by rfl) ?_ ?_;rotate_left;(focus ((intro W hSW;clear hSW;go_simp) <;> with_reducible rfl));simp only [Act.put,List.setIfInBounds_toArray,List.set_cons_zero,List.set_cons_succ]))
    refine Txt.done (thenLast_n (by rfl) (by rfl) (by rfl) (fun K hK=>?_));go_simp;refine hK.out _ _ ?_;clear c7' z7;go_wp2;go_meet;exact unhide G8
  case rest=>
   obtain ⟨G4,F4⟩:=hcut;obtain ⟨w4,hw4⟩:∃w4,w4=wc:=⟨_,rfl⟩;rw [←hw4] at G4 F4;rw [←hw4];clear hw4 wc;obtain ⟨b0,hb0⟩:∃b0,b0=headK++bytesP pl:=⟨_,rfl⟩;rw [←hb0] at G4;have hbl:b0.length≤400008:=by rw [hb0,List.length_append,hhk];omega
   have HB0:=hide hb0;obtain ⟨X,hX⟩:∃X,X=B+1:=⟨_,rfl⟩;rw [←hX] at G4 ⊢;have HG:Hid (Gx w0 B ⟨p1a,p1n,p1c⟩ pl):=hide ⟨(unhide HP).1,hB,(unhide HP).2⟩;have T4:Wr w0 w4 X B ⟨p1a,p1n,p1c⟩ b0 w4 (true) ([]) (0):=Wr.start G4 F4 hB;have hwB:w.heap.size<B:=by omega
   have hBX:B<X:=by omega
   have HSP:=hide hX;clear G4 F4 hb0 HX3 HJ h1 hX;obtain ⟨zp,hzp⟩:∃zp:ByteArray,zp=⟨sp.toArray⟩:=⟨_,rfl⟩;rw [←hzp] at KL;have HZP:=hide hzp;clear hzp;have HC:=hide (T4.u (w1:=(w4.alloc (.cells #[.int .i64 33] 3))) ((Below.refl _ _).alloc (Nat.le_refl _) _) 2 (by omega) [33] 1 rfl (fun j z hz=>ints_at w4 [33] _ rfl j z hz) (fun z hz=>by simp at hz;subst hz;unfold fitI;omega) (by omega));clear T4;go_wp2_with fail;refine (unhide HC).mono ?_;rintro e w5 ⟨rfl,T5,kk,ff⟩;clear HC;clear kk ff;obtain ⟨q0,q1,q2,q3,q4⟩:=unhide KL w5 T5.came;have HC:=hide (T5.class (unhide HG) nm (by show b0.length+(0+1*2)≤_;omega));clear T5;go_wp2_with fail;refine (unhide HC).mono ?_;rintro e w6 ⟨rfl,T6,kk,ff⟩;clear HC;clear kk ff;clear q0 q1 q2 q3 q4;obtain ⟨q0,q1,q2,q3,q4⟩:=unhide KL w6 T6.came;have HT6:=hide T6;clear T6
   go_upto_if 51 with fail
   obtain ⟨E,hE⟩:∃E,zp.toList.isEmpty=E:=⟨_,rfl⟩;rw [hE];have HE:=hide hE;clear hE
   go_cut [] from 10 (fun wr=>Wr w0 w4 X B ⟨p1a,p1n,p1c⟩ b0 wr (headOk CC) (bytesW 2 33++(bytesW 2 (clsN pl nm:Int)++bytesW 2 (superN pl sp:Int))) (6))
   case first=>
    as_aux_lemma=>
     have T6:=unhide HT6;have hsp:(E=true→sp=[])∧(E=false→¬sp=[]):=by
      rw [←unhide HE,unhide HZP,ByteArray.toList_eq];cases sp <;> simp
     cases E
     case true=>
      have HS:=hide (hsp.1 rfl);clear hsp;have HC:=hide (T6.u (w1:=(w6.alloc (.cells #[.int .i64 0] 3))) ((Below.refl _ _).alloc (Nat.le_refl _) _) 2 (by omega) [0] 1 rfl (fun j z hz=>ints_at w6 [0] _ rfl j z hz) (fun z hz=>by simp at hz;subst hz;unfold fitI;omega) (by show b0.length+(0+1*2+2)+8*1≤_;omega));clear T6;go_wp2_with fail;refine (unhide HC).mono ?_;rintro e w7 ⟨rfl,T7,kk,ff⟩;clear HC;clear kk ff;have T8:Wr w0 w4 X B ⟨p1a,p1n,p1c⟩ b0 w7 (headOk CC) (bytesW 2 33++(bytesW 2 (clsN pl nm:Int)++bytesW 2 (superN pl sp:Int))) (6):=by
       obtain rfl:=unhide HCC;exact T7.imp (head_ok0 ⟨pl,nm,sp,fl,ml⟩ (unhide HS)) (fun _=>head_b0 ⟨pl,nm,sp,fl,ml⟩ (unhide HS)) (by show 0+1*2+2+1*2≤_;omega)
      have HT8:=hide T8;clear T7 T8;go_wp2;go_meet;exact unhide HT8
     case false=>
      have HS:=hide (hsp.2 rfl);clear hsp;have HC:Hid (Calls Tryz.prog 28 #[.pointer (some ⟨X,0,none⟩),.string zp] w6 (wr_post w0 w4 X B ⟨p1a,p1n,p1c⟩ b0 w6 _ _ _)):=hide (by rw [unhide HZP];exact T6.class (unhide HG) sp (by show b0.length+(0+1*2+2)≤_;omega));clear T6;go_wp2_with fail;refine (unhide HC).mono ?_;rintro e w7 ⟨rfl,T7,kk,ff⟩;clear HC kk ff;have T8:Wr w0 w4 X B ⟨p1a,p1n,p1c⟩ b0 w7 (headOk CC) (bytesW 2 33++(bytesW 2 (clsN pl nm:Int)++bytesW 2 (superN pl sp:Int))) (6):=by
       obtain rfl:=unhide HCC;exact T7.imp (head_ok1 ⟨pl,nm,sp,fl,ml⟩ (unhide HS)) (fun _=>head_b1 ⟨pl,nm,sp,fl,ml⟩ (unhide HS)) (by show 0+1*2+2+2≤_;omega)
      have HT8:=hide T8;clear T7 T8;go_wp2;go_meet;exact unhide HT8
   case rest=>
   have T8:=hcut;clear hcut HT6;clear q0 q1 q2 q3 q4;obtain ⟨q0,q1,q2,q3,q4⟩:=unhide KL wc T8.came;have HC:=hide (T8.u (w1:=(wc.alloc (.cells #[.int .i64 0,.int .i64 (f1n:Int)] 3))) ((Below.refl _ _).alloc (Nat.le_refl _) _) 2 (by omega) [0,(f1n:Int)] 2 rfl (fun j z hz=>ints_at wc [0,(f1n:Int)] _ rfl j z hz) (fun z hz=>by simp at hz;rcases hz with rfl | rfl <;> (unfold fitI;omega)) (by omega));clear T8;go_wp2_with fail;refine (unhide HC).mono ?_;rintro e w10 ⟨rfl,T9,kk,ff⟩;clear HC;clear kk ff q0 q1 q2 q3 q4;have T10:Wr w0 w4 X B ⟨p1a,p1n,p1c⟩ b0 w10 (headOk CC) (headB CC) (10):=by
    have e1:fitsB 2 [(0:Int),(f1n:Int)]=true:=by simp [fitsB];omega
    refine T9.imp (by rw [e1,Bool.and_true]) (fun _=>?_) (by show 6+2*2≤_;omega);obtain rfl:=unhide HCC;have:=head_b2 ⟨pl,nm,sp,fl,ml⟩;simp only at this;rw [hfl] at this;exact this
   have HT10:=hide T10;have HLf:=hide (unhide HC0).fields.ls;have HFf:=hide (unhide HC0).fields.each;clear T9 T10;go_wp2
   go_loopw [5] (fun vi wr=>∃k:Nat,vi=.int .i64 k∧k≤f1n∧Wr w0 w4 X B ⟨p1a,p1n,p1c⟩ b0 wr (headOk CC&&(fl.take k).all (rightF pl)) (headB CC++(fl.take k).flatMap (fieldB pl)) (10+8*k)) (fun vi _=>f1n-(intOf vi).toNat)
   case atStart=>exact ⟨0,rfl,by omega,by simpa using unhide HT10⟩
   case round=>
    obtain ⟨k,rfl,hk,hT⟩:=hrel;obtain ⟨q0,q1,q2,q3,q4⟩:=unhide KL wr hT.came
    by_cases hlt:k<f1n
    · as_aux_lemma=>
       have hlt1:(k:Int)<(f1n:Int):=by omega
       have hk0:(0:Int)≤(k:Int):=by omega
       obtain ⟨b1,o1,h1a,hr1⟩:=Ls.row (unhide HLf) (w':=w0) (by show f1n≠0;omega);have h1a':f1a=some ⟨b1,o1,none⟩:=h1a;clear h1a;subst h1a';obtain ⟨t,ht⟩:∃t,fl[k]?=some t:=⟨_,List.getElem?_eq_getElem (by omega)⟩;obtain ⟨q,hq⟩:∃q:RowAt wr b1 (o1+k*3) (fdc t),True:=⟨hr1 hT.came k t ht,trivial⟩;have c0:=q.zero;have c1:=q 1 _ rfl;have c2:=q 2 _ rfl;have hfit:=unhide HFf t (List.mem_of_getElem? ht);have HTK:=hide ht;obtain ⟨acc,nme,typ⟩:=t;simp only at c0 c1 c2;obtain ⟨hfa,hfn,hft⟩:=hfit;simp only at hfa hfn hft;obtain ⟨wl,el,fl',ll⟩:∃wl,wr.alloc (.cells #[.int .i64 acc,.string ⟨nme.toArray⟩,.string ⟨typ.toArray⟩] 58)=wl∧Below wr.heap.size wr wl∧wl.heap[wr.heap.size]?=some (.cells #[.int .i64 acc,.string ⟨nme.toArray⟩,.string ⟨typ.toArray⟩] 58 (0,0)):=⟨_,rfl,(Below.refl _ _).alloc (Nat.le_refl _) _,heap_alloc_new wr _⟩;have Tl:=hT.on fl';have hXr:X<wr.heap.size:=by
        obtain ⟨_,g,_⟩:=hT.gw;exact g.X_lt
       obtain ⟨okk,hokk⟩:∃okk,(headOk CC&&(fl.take k).all (rightF pl))=okk:=⟨_,rfl⟩;obtain ⟨bsk,hbsk⟩:∃bsk,headB CC++(fl.take k).flatMap (fieldB pl)=bsk:=⟨_,rfl⟩;rw [hokk,hbsk] at Tl;have HKK:=hide (And.intro hokk hbsk);obtain ⟨HH,hHH⟩:∃HH:World→Prop,HH=fun W=>W.heap[wr.heap.size]?=some (.cells #[.int .i64 acc,.string ⟨nme.toArray⟩,.string ⟨typ.toArray⟩] 58 (0,0)):=⟨_,rfl⟩
       have hl0:HH wl:=by rw [hHH];exact ll
       have KH:Hid (∀W W',HH W→Ks X W W'→HH W'):=hide fun W W' h1 h2=>by
        rw [hHH] at h1 ⊢;exact h2 _ _ _ (by omega) (by decide) h1
       have KH2:Hid (∀W W',HH W→Below W.heap.size W W'→HH W'):=hide fun W W' h1 h2=>by
        rw [hHH] at h1 ⊢;exact (h2.block _ (lt_of_heap h1)).trans h1
       have KHI:Hid (∀W,HH W→W.cell? ⟨wr.heap.size,0,none⟩=some (.int .i64 acc)∧W.cell? ⟨wr.heap.size,1,none⟩=some (.string ⟨nme.toArray⟩)∧W.cell? ⟨wr.heap.size,2,none⟩=some (.string ⟨typ.toArray⟩)):=hide fun W h1=>by
        rw [hHH] at h1;exact ⟨bx_cell h1 0 _ rfl,bx_cell h1 1 _ rfl,bx_cell h1 2 _ rfl⟩
       have HMk:Hid (∀v,Calls Tryz.prog 29 #[.pointer (some ⟨X,0,none⟩),.bool v] wl fun e w'=>e=.returned (.tuple #[])∧Wr w0 w4 X B ⟨p1a,p1n,p1c⟩ b0 w' (okk&&v) (bsk) (10+8*k)∧HH w'):=hide fun v=>(Tl.must v).mono (by
        rintro e w' ⟨rfl,T9,k9,f9⟩;exact ⟨rfl,T9,unhide KH _ _ hl0 k9⟩)
       obtain ⟨d0,d1,d2⟩:=unhide KHI wl hl0;clear hT q hq hokk hbsk hHH hl0 ll fl' Tl hr1 ht;go_upto_region 15 with fail
       go_cut [] from 65 to 103 (fun wx=>Wr w0 w4 X B ⟨p1a,p1n,p1c⟩ b0 wx (okk&&decide (acc=0∨acc=8)) (bsk) (10+8*k)∧HH wx)
       case first=>
        as_aux_lemma=>
         by_cases z0:acc=0
         · subst z0
           go_wp2_with fail;refine (unhide HMk true).mono ?_;rintro e w2 ⟨rfl,T2,h2⟩;have HT2:=hide (And.intro T2 h2);clear T2 h2;go_wp2;go_meet;exact unhide HT2
         · have e0:(acc==0)=false:=by simpa using z0
           by_cases z8:acc=8
           · subst z8
             go_wp2_with fail;refine (unhide HMk true).mono ?_;rintro e w2 ⟨rfl,T2,h2⟩;have HT2:=hide (And.intro T2 h2);clear T2 h2;go_wp2;go_meet;exact unhide HT2
           · have e8:(acc==8)=false:=by simpa using z8
             go_wp2_with fail;refine (unhide HMk false).mono ?_;rintro e w2 ⟨rfl,T2,h2⟩;have HT2:=hide (And.intro T2 h2);clear T2 h2;go_wp2;go_meet;rw [show decide (acc=0∨acc=8)=false from decide_eq_false (by omega)];exact unhide HT2
       case rest=>
       obtain ⟨T15,H15⟩:=hcut;clear HMk d0 d1 d2 c0 c1 c2;have H16:Hid (∀z,z=max 0 acc→Calls Tryz.prog 27 #[.pointer (some ⟨X,0,none⟩),.int .i64 2,.slice (some ⟨wc.heap.size,0,none⟩) 1 1] (wc.alloc (.cells #[.int .i64 z] 3)) fun e w'=>e=.returned (.tuple #[])∧Wr w0 w4 X B ⟨p1a,p1n,p1c⟩ b0 w' ((okk&&decide (acc=0∨acc=8))&&fitsB 2 [max 0 acc]) (bsk++[max 0 acc].flatMap (bytesW 2)) (10+8*k+1*2)∧HH w'):=hide fun z hz=>by
        refine (T15.u (w1:=wc.alloc (.cells #[.int .i64 z] 3)) ((Below.refl _ _).alloc (Nat.le_refl _) _) 2 (by omega) [z] 1 rfl (fun j y hj=>ints_at wc [z] _ rfl j y hj) (fun y hy=>by simp at hy;subst hy;unfold fitI at hfa ⊢;omega) (by omega)).mono ?_;rintro e w' ⟨rfl,T9,k9,f9⟩;rw [hz] at T9;exact ⟨rfl,T9,unhide KH _ _ (unhide KH2 _ _ H15 ((Below.refl _ _).alloc (Nat.le_refl _) _)) k9⟩
       obtain ⟨d0,d1,d2⟩:=unhide KHI wc H15;clear T15 H15;go_upto_region 16 with fail
       go_cut [] from 65 to 103 (fun wx=>Wr w0 w4 X B ⟨p1a,p1n,p1c⟩ b0 wx ((okk&&decide (acc=0∨acc=8))&&fitsB 2 [max 0 acc]) (bsk++[max 0 acc].flatMap (bytesW 2)) (10+8*k+1*2)∧HH wx)
       case first=>
        as_aux_lemma=>
         go_wp2_with fail
         all_goals
          refine (unhide H16 _ ?_).mono ?_
          · omega
          rintro e w17 ⟨rfl,hx⟩;have HF:=hide hx;clear hx;go_wp2;go_meet;exact unhide HF
       case rest=>
       clear H16;obtain ⟨T16,H15⟩:=hcut;clear d0 d1 d2;obtain ⟨d0,d1,d2⟩:=unhide KHI wc H15;have HHB:=hide H15;clear H15;have HC:=hide (T16.utf (unhide HG) nme (by show b0.length+(10+8*k+1*2)≤_;omega));clear T16;go_wp2_with fail;refine (unhide HC).mono ?_;rintro e w17 ⟨rfl,T17,kk,ff⟩;clear HC;have H15:=unhide KH _ _ (unhide HHB) kk;clear kk ff HHB d0 d1 d2;obtain ⟨d0,d1,d2⟩:=unhide KHI w17 H15;have HHB:=hide H15;clear H15;have HC:=hide (T17.utf (unhide HG) typ (by show b0.length+(10+8*k+1*2+2)≤_;omega));clear T17;go_wp2_with fail;refine (unhide HC).mono ?_;rintro e w18 ⟨rfl,T18,kk,ff⟩;clear HC;have H15:=unhide KH _ _ (unhide HHB) kk;clear kk ff HHB d0 d1 d2;have HHB:=hide (unhide KH2 _ _ H15 ((Below.refl _ _).alloc (Nat.le_refl _) (.cells #[.int .i64 0] 3)));obtain ⟨d0,d1,d2⟩:=unhide KHI w18 H15;clear H15;have HC:=hide (T18.u (w1:=(w18.alloc (.cells #[.int .i64 0] 3))) ((Below.refl _ _).alloc (Nat.le_refl _) _) 2 (by omega) [0] 1 rfl (fun j z hz=>ints_at w18 [0] _ rfl j z hz) (fun z hz=>by simp at hz;subst hz;unfold fitI;omega) (by show b0.length+(10+8*k+1*2+2+2)+8*1≤_;omega));clear T18;go_wp2_with fail;refine (unhide HC).mono ?_;rintro e w19 ⟨rfl,T19,kk,ff⟩;clear HC;have H15:=unhide KH _ _ (unhide HHB) kk;clear kk ff HHB d0 d1 d2;have htk:fl.take (k+1)=fl.take k++[⟨acc,nme,typ⟩]:=by rw [List.take_add_one,unhide HTK];rfl
       have hok:=field_ok pl ⟨acc,nme,typ⟩ okk (max 0 acc) rfl;have T20:Wr w0 w4 X B ⟨p1a,p1n,p1c⟩ b0 w19 (headOk CC&&(fl.take (k+1)).all (rightF pl)) (headB CC++(fl.take (k+1)).flatMap (fieldB pl)) (10+8*(k+1)):=T19.imp (by
        rw [htk,List.all_append,←Bool.and_assoc,(unhide HKK).1];simp only [List.all_cons,List.all_nil,Bool.and_true];exact hok) (fun e=>by
        rw [htk,List.flatMap_append,←List.append_assoc,(unhide HKK).2];simp only [List.flatMap_cons,List.flatMap_nil,List.append_nil];have e2:rightF pl ⟨acc,nme,typ⟩=true:=by
         rw [htk,List.all_append] at e;simp only [List.all_cons,List.all_nil,Bool.and_true,Bool.and_eq_true] at e;exact e.2.2
        exact field_bytes pl ⟨acc,nme,typ⟩ bsk (max 0 acc) rfl e2) (by show 10+8*k+1*2+2+2+1*2≤_;omega)
       have HZ:=hide T20;clear T19 T20 htk hok H15;go_wp2;go_roundw
       case rel=>exact ⟨k+1,by go_num,by omega,unhide HZ⟩
       case measure=>simp [intOf];omega
    · have hlt1:¬(k:Int)<(f1n:Int):=by omega
      obtain rfl:k=f1n:=by omega
      rw [List.take_of_length_le (by omega)] at hT;have HTF:=hide hT;clear hlt hT;have T9:=unhide HTF;have HC:=hide (T9.u (w1:=(wr.alloc (.cells #[.int .i64 (m1n:Int)] 3))) ((Below.refl _ _).alloc (Nat.le_refl _) _) 2 (by omega) [(m1n:Int)] 1 rfl (fun j z hz=>ints_at wr [(m1n:Int)] _ rfl j z hz) (fun z hz=>by simp at hz;subst hz;unfold fitI;omega) (by omega));clear T9;go_wp2_with fail;refine (unhide HC).mono ?_;rintro e w21 ⟨rfl,T10,kk,ff⟩;clear HC;clear kk ff q0 q1 q2 q3 q4;obtain ⟨OKF,hOKF⟩:∃OKF,((headOk CC&&fl.all (rightF pl))&&fitsB 2 [(m1n:Int)])=OKF:=⟨_,rfl⟩;obtain ⟨BSF,hBSF⟩:∃BSF,((headB CC++fl.flatMap (fieldB pl))++[(m1n:Int)].flatMap (bytesW 2))=BSF:=⟨_,rfl⟩;have T11:Wr w0 w4 X B ⟨p1a,p1n,p1c⟩ b0 w21 (OKF) (BSF) (12+8*k):=T10.imp hOKF (fun _=>hBSF) (by show 10+8*k+1*2≤_;omega);have HOF:=hide (And.intro hOKF hBSF);have HT11:=hide T11;have HLm:=hide (unhide HC0).methods.ls;have HFm:=hide (unhide HC0).methods.each;have HSm:=hide (unhide HC0).same;clear T10 T11 hOKF hBSF HTF;generalize hf1:k=f1n at *;clear hf1;go_wp2
      go_loopw [7] (fun vi wr=>∃k:Nat,vi=.int .i64 k∧k≤m1n∧Wr w0 w4 X B ⟨p1a,p1n,p1c⟩ b0 wr (OKF&&(ml.take k).all (rightMd pl)) (BSF++(ml.take k).flatMap (methodB pl)) (12+8*f1n+k*200000)) (fun vi _=>m1n-(intOf vi).toNat)
      case atStart=>exact ⟨0,rfl,by omega,by simpa using unhide HT11⟩
      case round=>
       obtain ⟨k,rfl,hk,hT⟩:=hrel;obtain ⟨q0,q1,q2,q3,q4⟩:=unhide KL wr hT.came
       by_cases hlt:k<m1n
       · as_aux_lemma=>
          have hlt1:(k:Int)<(m1n:Int):=by omega
          have hk0:(0:Int)≤(k:Int):=by omega
          obtain ⟨b1,o1,h1a,hr1⟩:=Ls.row (unhide HLm) (w':=w0) (by show m1n≠0;omega);have h1a':m1a=some ⟨b1,o1,none⟩:=h1a;clear h1a;subst h1a';have hmrl:mr.length=m1n:=(unhide HLm).1;obtain ⟨x,hx⟩:∃x,mr[k]?=some x:=⟨_,List.getElem?_eq_getElem (by omega)⟩;obtain ⟨q,hq⟩:∃q:RowAt wr b1 (o1+k*8) (mdc x),True:=⟨hr1 hT.came k x hx,trivial⟩;have c0:=q.zero;have c1:=q 1 _ rfl;have c2:=q 2 _ rfl;have c3:=q 3 _ rfl;have c4:=q 4 _ rfl;have c5:=q 5 _ rfl;have c6:=q 6 _ rfl;have c7:=q 7 _ rfl;have hxi:=unhide HFm x (List.mem_of_getElem? hx);have hxm:ml[k]?=some x.m:=by
           have h9:ml=mr.map MdR.m:=unhide HSm;rw [h9,List.getElem?_map,hx];rfl
          have hmem:x.m∈CC.methods:=by
           rw [unhide HCC];exact List.mem_of_getElem? hxm
          have hcn:=code_small (unhide HSZ) hmem;have h60:=(light_meth (unhide HSZ) hmem).2;obtain ⟨⟨acc,nme,typ,⟨st,lo,by_,hh,mm⟩⟩,⟨ba,bn,bc⟩,⟨ha,hn,hc⟩,⟨ma,mn,mc⟩,xr⟩:=x;simp only at hcn h60 hxm;simp only [Sl.v] at c0 c1 c2 c3 c4 c5 c6 c7;have hfa:fitI acc:=hxi.acc;have HXI:=hide hxi;have HXM:=hide hxm;have HCN:=hide (And.intro hcn h60);obtain ⟨wl,el,fl',ll⟩:∃wl,wr.alloc (.cells #[.int .i64 acc,.string ⟨nme.toArray⟩,.string ⟨typ.toArray⟩,.int .i64 st,.int .i64 lo,.slice ba bn bc,.slice ha hn hc,.slice ma mn mc] 49)=wl∧Below wr.heap.size wr wl∧wl.heap[wr.heap.size]?=some (.cells #[.int .i64 acc,.string ⟨nme.toArray⟩,.string ⟨typ.toArray⟩,.int .i64 st,.int .i64 lo,.slice ba bn bc,.slice ha hn hc,.slice ma mn mc] 49 (0,0)):=⟨_,rfl,(Below.refl _ _).alloc (Nat.le_refl _) _,heap_alloc_new wr _⟩;have Tl:=hT.on fl';have hXr:X<wr.heap.size:=by
           obtain ⟨_,g,_⟩:=hT.gw;exact g.X_lt
          obtain ⟨okk,hokk⟩:∃okk,(OKF&&(ml.take k).all (rightMd pl))=okk:=⟨_,rfl⟩;obtain ⟨bsk,hbsk⟩:∃bsk,BSF++(ml.take k).flatMap (methodB pl)=bsk:=⟨_,rfl⟩;rw [hokk,hbsk] at Tl;have HKK:=hide (And.intro hokk hbsk);have hkm:k*200000≤51200000:=by omega
          obtain ⟨nk,hnk⟩:∃nk,nk=12+8*f1n+k*200000:=⟨_,rfl⟩;have hnk2:nk≤51202060:=by omega
          rw [←hnk] at Tl;have HNK:=hide hnk;obtain ⟨HH,hHH⟩:∃HH:World→Prop,HH=fun W=>W.heap[wr.heap.size]?=some (.cells #[.int .i64 acc,.string ⟨nme.toArray⟩,.string ⟨typ.toArray⟩,.int .i64 st,.int .i64 lo,.slice ba bn bc,.slice ha hn hc,.slice ma mn mc] 49 (0,0)):=⟨_,rfl⟩
          have hl0:HH wl:=by rw [hHH];exact ll
          have HDEF:=hide hHH;have KH:Hid (∀W W',HH W→Ks X W W'→HH W'):=hide fun W W' h1 h2=>by
           rw [hHH] at h1 ⊢;exact h2 _ _ _ (by omega) (by decide) h1
          have KH2:Hid (∀W W',HH W→Below W.heap.size W W'→HH W'):=hide fun W W' h1 h2=>by
           rw [hHH] at h1 ⊢;exact (h2.block _ (lt_of_heap h1)).trans h1
          have KHI:Hid (∀W,HH W→W.cell? ⟨wr.heap.size,0,none⟩=some (.int .i64 acc)∧W.cell? ⟨wr.heap.size,1,none⟩=some (.string ⟨nme.toArray⟩)∧W.cell? ⟨wr.heap.size,2,none⟩=some (.string ⟨typ.toArray⟩)∧W.cell? ⟨wr.heap.size,3,none⟩=some (.int .i64 st)∧W.cell? ⟨wr.heap.size,4,none⟩=some (.int .i64 lo)∧W.cell? ⟨wr.heap.size,5,none⟩=some (.slice ba bn bc)∧W.cell? ⟨wr.heap.size,6,none⟩=some (.slice ha hn hc)∧W.cell? ⟨wr.heap.size,7,none⟩=some (.slice ma mn mc)):=hide fun W h1=>by
           rw [hHH] at h1;exact ⟨bx_cell h1 0 _ rfl,bx_cell h1 1 _ rfl,bx_cell h1 2 _ rfl,bx_cell h1 3 _ rfl,bx_cell h1 4 _ rfl,bx_cell h1 5 _ rfl,bx_cell h1 6 _ rfl,bx_cell h1 7 _ rfl⟩
          have HMk:Hid (∀v,Calls Tryz.prog 29 #[.pointer (some ⟨X,0,none⟩),.bool v] wl fun e w'=>e=.returned (.tuple #[])∧Wr w0 w4 X B ⟨p1a,p1n,p1c⟩ b0 w' (okk&&v) (bsk) (nk)∧HH w'):=hide fun v=>(Tl.must v).mono (by
           rintro e w' ⟨rfl,T9,k9,f9⟩;exact ⟨rfl,T9,unhide KH _ _ hl0 k9⟩)
          obtain ⟨d0,d1,d2,d3,d4,d5,d6,d7⟩:=unhide KHI wl hl0;clear hT q hq hokk hbsk hnk hHH hl0 ll fl' Tl hr1 hx hxm hxi hmem hcn h60;go_upto_region 25 with fail
          go_cut [] from 110 to 195 (fun wx=>Wr w0 w4 X B ⟨p1a,p1n,p1c⟩ b0 wx (okk&&decide (acc=0∨acc=8∨acc=32∨acc=40)) (bsk) (nk)∧HH wx)
          case first=>
           as_aux_lemma=>
            by_cases z0:acc=0
            · subst z0
              go_wp2_with fail;refine (unhide HMk true).mono ?_;rintro e w2 ⟨rfl,T2,h2⟩;have HT2:=hide (And.intro T2 h2);clear T2 h2;go_wp2;go_meet;exact unhide HT2
            · have e0:(acc==0)=false:=by simpa using z0
              by_cases z8:acc=8
              · subst z8
                go_wp2_with fail;refine (unhide HMk true).mono ?_;rintro e w2 ⟨rfl,T2,h2⟩;have HT2:=hide (And.intro T2 h2);clear T2 h2;go_wp2;go_meet;exact unhide HT2
              · have e8:(acc==8)=false:=by simpa using z8
                by_cases z32:acc=32
                · subst z32
                  go_wp2_with fail;refine (unhide HMk true).mono ?_;rintro e w2 ⟨rfl,T2,h2⟩;have HT2:=hide (And.intro T2 h2);clear T2 h2;go_wp2;go_meet;exact unhide HT2
                · have e32:(acc==32)=false:=by simpa using z32
                  by_cases z40:acc=40
                  · subst z40
                    go_wp2_with fail;refine (unhide HMk true).mono ?_;rintro e w2 ⟨rfl,T2,h2⟩;have HT2:=hide (And.intro T2 h2);clear T2 h2;go_wp2;go_meet;exact unhide HT2
                  · have e40:(acc==40)=false:=by simpa using z40
                    go_wp2_with fail;refine (unhide HMk false).mono ?_;rintro e w2 ⟨rfl,T2,h2⟩;have HT2:=hide (And.intro T2 h2);clear T2 h2;go_wp2;go_meet;rw [show decide (acc=0∨acc=8∨acc=32∨acc=40)=false from decide_eq_false (by omega)];exact unhide HT2
          case rest=>
          obtain ⟨T15,H15⟩:=hcut;clear HMk d0 d1 d2 d3 d4 d5 d6 d7 c0 c1 c2 c3 c4 c5 c6 c7;have H16:Hid (∀z,z=max 0 acc→Calls Tryz.prog 27 #[.pointer (some ⟨X,0,none⟩),.int .i64 2,.slice (some ⟨wc.heap.size,0,none⟩) 1 1] (wc.alloc (.cells #[.int .i64 z] 3)) fun e w'=>e=.returned (.tuple #[])∧Wr w0 w4 X B ⟨p1a,p1n,p1c⟩ b0 w' ((okk&&decide (acc=0∨acc=8∨acc=32∨acc=40))&&fitsB 2 [max 0 acc]) (bsk++[max 0 acc].flatMap (bytesW 2)) (nk+1*2)∧HH w'):=hide fun z hz=>by
           refine (T15.u (w1:=wc.alloc (.cells #[.int .i64 z] 3)) ((Below.refl _ _).alloc (Nat.le_refl _) _) 2 (by omega) [z] 1 rfl (fun j y hj=>ints_at wc [z] _ rfl j y hj) (fun y hy=>by simp at hy;subst hy;unfold fitI at hfa ⊢;omega) (by omega)).mono ?_;rintro e w' ⟨rfl,T9,k9,f9⟩;rw [hz] at T9;exact ⟨rfl,T9,unhide KH _ _ (unhide KH2 _ _ H15 ((Below.refl _ _).alloc (Nat.le_refl _) _)) k9⟩
          obtain ⟨d0,d1,d2,d3,d4,d5,d6,d7⟩:=unhide KHI wc H15;clear T15 H15;go_upto_region 26 with fail
          go_cut [] from 110 to 195 (fun wx=>Wr w0 w4 X B ⟨p1a,p1n,p1c⟩ b0 wx ((okk&&decide (acc=0∨acc=8∨acc=32∨acc=40))&&fitsB 2 [max 0 acc]) (bsk++[max 0 acc].flatMap (bytesW 2)) (nk+1*2)∧HH wx)
          case first=>
           as_aux_lemma=>
            go_wp2_with fail
            all_goals
             refine (unhide H16 _ ?_).mono ?_
             · omega
             rintro e w17 ⟨rfl,hx⟩;have HF:=hide hx;clear hx;go_wp2;go_meet;exact unhide HF
          case rest=>
          clear H16;obtain ⟨T16,H15⟩:=hcut;clear d0 d1 d2 d3 d4 d5 d6 d7;obtain ⟨d0,d1,d2,d3,d4,d5,d6,d7⟩:=unhide KHI wc H15;have HHB:=hide H15;clear H15;have HC:=hide (T16.utf (unhide HG) nme (by show b0.length+(nk+1*2)≤_;omega));clear T16;go_wp2_with fail;refine (unhide HC).mono ?_;rintro e w27 ⟨rfl,T17,kk,ff⟩;clear HC;have H15:=unhide KH _ _ (unhide HHB) kk;clear kk ff HHB d0 d1 d2 d3 d4 d5 d6 d7;obtain ⟨d0,d1,d2,d3,d4,d5,d6,d7⟩:=unhide KHI w27 H15;have HHB:=hide H15;clear H15;have HC:=hide (T17.utf (unhide HG) typ (by show b0.length+(nk+1*2+2)≤_;omega));clear T17;go_wp2_with fail;refine (unhide HC).mono ?_;rintro e w28 ⟨rfl,T18,kk,ff⟩;clear HC;have H15:=unhide KH _ _ (unhide HHB) kk;clear kk ff HHB d0 d1 d2 d3 d4 d5 d6 d7;have HHB:=hide (unhide KH2 _ _ H15 ((Below.refl _ _).alloc (Nat.le_refl _) (.cells #[.int .i64 1] 3)));obtain ⟨d0,d1,d2,d3,d4,d5,d6,d7⟩:=unhide KHI w28 H15;clear H15;have HC:=hide (T18.u (w1:=(w28.alloc (.cells #[.int .i64 1] 3))) ((Below.refl _ _).alloc (Nat.le_refl _) _) 2 (by omega) [1] 1 rfl (fun j z hz=>ints_at w28 [1] _ rfl j z hz) (fun z hz=>by simp at hz;subst hz;unfold fitI;omega) (by show b0.length+(nk+1*2+2+2)+8*1≤_;omega));clear T18;go_wp2_with fail;refine (unhide HC).mono ?_;rintro e w29 ⟨rfl,T19,kk,ff⟩;clear HC;have H15:=unhide KH _ _ (unhide HHB) kk;clear kk ff HHB d0 d1 d2 d3 d4 d5 d6 d7;have HC:Hid (Calls Tryz.prog 30 #[.pointer (some ⟨X,0,none⟩),.string ⟨#[67,111,100,101]⟩] w29 (wr_post w0 w4 X B ⟨p1a,p1n,p1c⟩ b0 w29 _ _ _)):=hide (T19.utf (unhide HG) sCode (by show b0.length+(nk+1*2+2+2+1*2)≤_;omega));have HHB:=hide H15;clear T19 H15;go_wp2_with fail;refine (unhide HC).mono ?_;rintro e w30 ⟨rfl,T20,kk,ff⟩;clear HC;have H15:=unhide KH _ _ (unhide HHB) kk;clear kk ff HHB;obtain ⟨OKM,hOKM⟩:∃OKM,((((((okk&&decide (acc=0∨acc=8∨acc=32∨acc=40))&&fitsB 2 [max 0 acc])&&decide (utfN pl nme≠0))&&decide (utfN pl typ≠0))&&fitsB 2 [1])&&decide (utfN pl sCode≠0))=OKM:=⟨_,rfl⟩;obtain ⟨BSM,hBSM⟩:∃BSM,(((((bsk++[max 0 acc].flatMap (bytesW 2))++bytesW 2 (utfN pl nme:Int))++bytesW 2 (utfN pl typ:Int))++[(1:Int)].flatMap (bytesW 2))++bytesW 2 (utfN pl sCode:Int))=BSM:=⟨_,rfl⟩;have T21:Wr w0 w4 X B ⟨p1a,p1n,p1c⟩ b0 w30 (OKM) (BSM) (nk+10):=T20.imp hOKM (fun _=>hBSM) (by show nk+1*2+2+2+1*2+2≤_;omega);have HOM:=hide (And.intro hOKM hBSM);clear T20 hOKM hBSM q0 q1 q2 q3 q4;obtain ⟨q0,q1,q2,q3,q4⟩:=unhide KL w30 T21.came;obtain ⟨w31,e31,f31,y31⟩:∃w31,w30.alloc (.cells #[.slice p1a p1n p1c,.slice none 0 0,.bool false] 65)=w31∧Below w30.heap.size w30 w31∧w31.heap[w30.heap.size]?=some (.cells #[.slice p1a p1n p1c,.slice none 0 0,.bool false] 65 (0,0)):=⟨_,rfl,(Below.refl _ _).alloc (Nat.le_refl _) _,heap_alloc_new w30 _⟩;have hoY:w0.heap.size≤w30.heap.size:=T21.came.size;have hXY:X<w30.heap.size:=by
           obtain ⟨_,g,_⟩:=T21.gw;exact g.X_lt
          have HCode:Hid (Calls Tryz.prog 31 #[.pointer (some ⟨w30.heap.size,0,none⟩),.agg #[.int .i64 st,.int .i64 lo,.slice ba bn bc,.slice ha hn hc,.slice ma mn mc]] w31 (wr_post w0 w31 w30.heap.size w30.heap.size ⟨p1a,p1n,p1c⟩ [] w31 (true&&rightD pl ⟨st,lo,by_,hh,mm⟩) (codeB pl ⟨st,lo,by_,hh,mm⟩) (codeN ⟨st,lo,by_,hh,mm⟩))):=hide (gwcode_any w0 w30.heap.size w30.heap.size ⟨p1a,p1n,p1c⟩ pl ⟨(unhide HG).ein,hoY,(unhide HG).ck⟩ [] false w31 (T21.came.trans (f31.mono hoY)) ⟨Nat.le_refl _,none,0,y31,Orw.nil _ _ _ _ _⟩ ⟨⟨acc,nme,typ,⟨st,lo,by_,hh,mm⟩⟩,⟨ba,bn,bc⟩,⟨ha,hn,hc⟩,⟨ma,mn,mc⟩,xr⟩ (unhide HXI) (by have:=(unhide HCN).1;show codeN ⟨st,lo,by_,hh,mm⟩≤_;omega) (unhide HCN).2 (by simp));have H31:=unhide KH2 _ _ H15 f31;obtain ⟨d0,d1,d2,d3,d4,d5,d6,d7⟩:=unhide KHI w31 H31;have HT21:=hide (And.intro T21 (And.intro f31 H31));clear T21 f31 y31 H15 H31;go_upto_region 32 with fail
          generalize hY:w30.heap.size=Y at *;have HY:=hide hY;clear hY;clear e31 q0 q1 q2 q3 q4;go_wp2_with fail;refine (unhide HCode).mono ?_;rintro e w32 ⟨rfl,I32,kI,fI⟩;clear HCode d0 d1 d2 d3 d4 d5 d6 d7;obtain ⟨T21,f31,H31⟩:=unhide HT21;have f3:Below w30.heap.size w30 w32:=by
           rw [unhide HY];exact f31.trans fI
          have T32:=T21.on f3;obtain ⟨bi,gi,hbi,hli⟩:=I32.gw;obtain ⟨rD,hrD⟩:∃rD,rightD pl ⟨st,lo,by_,hh,mm⟩=rD:=⟨_,rfl⟩;rw [hrD] at gi hbi;have hgb:(!(true&&rD))=!rD:=by cases rD <;> rfl
          rw [hgb] at gi;have hli2:bi.length≤190000:=by
           have h8:bi.length≤0+codeN ⟨st,lo,by_,hh,mm⟩:=hli;have h9:=(unhide HCN).1;omega
          have HBI:=hide (And.intro hrD hbi);have g2:w32.cell? ⟨Y,2,none⟩=some (.bool (!rD)):=by
           obtain ⟨_,_,y9,_⟩:=gi.blk;exact bx_cell y9 2 _ rfl
          have HC:Hid (Calls Tryz.prog 29 #[.pointer (some ⟨X,0,none⟩),.bool (!(!rD))] w32 (fun e w'=>wr_post w0 w4 X B ⟨p1a,p1n,p1c⟩ b0 w32 (OKM&&!(!rD)) BSM (nk+10) e w'∧Kx X w32 w')):=hide (T32.mustK (!(!rD)));rw [Bool.not_not] at HC;have HGI:=hide gi;clear hbi hrD hli gi T21 f31 H31 T32 I32 kI fI f3 hgb HT21;go_wp2_with fail
          try rw [Bool.not_not]
          refine (unhide HC).mono ?_;rintro e w33 ⟨⟨rfl,T22,kk,ff⟩,kx⟩;have gi:Gw Y Y ⟨p1a,p1n,p1c⟩ bi (!rD) w33:=(unhide HGI).keep fun q Z T hq hZ _=>kx q (lt_of_heap hZ) (by omega)
          clear HC HGI g2 kk ff kx;have g1:∃ia ic,w33.cell? ⟨Y,1,none⟩=some (.slice ia bi.length ic):=by
           obtain ⟨ia,ic,y9,_⟩:=gi.blk;exact ⟨ia,ic,bx_cell y9 1 _ rfl⟩
          obtain ⟨ia,ic,g1⟩:=g1;have HC:=hide (T22.uK (w1:=w33.alloc (.cells #[.int .i64 (bi.length:Int)] 3)) ((Below.refl _ _).alloc (Nat.le_refl _) _) 4 (by omega) [(bi.length:Int)] 1 rfl (fun j z hz=>ints_at w33 [(bi.length:Int)] _ rfl j z hz) (fun z hz=>by simp at hz;subst hz;unfold fitI;omega) (by omega));have HGI:Hid (Gw Y Y ⟨p1a,p1n,p1c⟩ bi (!rD) (w33.alloc (.cells #[.int .i64 (bi.length:Int)] 3))):=hide (gi.below ((Below.refl _ _).alloc (Nat.le_refl _) _));clear gi T22;go_wp2_with fail;refine (unhide HC).mono ?_;rintro e w34 ⟨⟨rfl,T23,kk,ff⟩,kx⟩;have gi:Gw Y Y ⟨p1a,p1n,p1c⟩ bi (!rD) w34:=(unhide HGI).keep fun q Z T hq hZ _=>kx q (lt_of_heap hZ) (by omega)
          clear HC HGI g1 kk ff kx;obtain ⟨OK22,hOK22⟩:∃OK22,((OKM&&rD)&&fitsB 4 [(bi.length:Int)])=OK22:=⟨_,rfl⟩;rw [hOK22] at T23;have HO22:=hide hOK22;clear hOK22;obtain ⟨b5,g5,hb5,hl5⟩:=T23.gw;have hl5':b5.length≤b0.length+(nk+14):=by
           have:b5.length≤b0.length+(nk+10+1*4):=hl5;omega
          obtain ⟨a5,c5,x5,r5⟩:=g5.blk;obtain ⟨ia,ic,y5,ri⟩:=gi.blk;have c1:w34.cell? ⟨X,1,none⟩=some (.slice a5 b5.length c5):=bx_cell x5 1 _ rfl;have z1:=bx_thaw x5 1;have k1:w34.cell? ⟨Y,1,none⟩=some (.slice ia bi.length ic):=bx_cell y5 1 _ rfl;have HLn:Hid ((b5.length+bi.length)*1≤140737488355328):=hide (by omega);have HLn2:Hid (b5.length+bi.length≤140737488355328):=hide (by omega);have own5:Hid (∀q,Orw byc 5 1 (w34.drewN q) B (.slice a5 b5.length c5) b5):=hide fun q=>r5.below fun k hk=>(below_drewN (Below.refl _ _) q).block k (r5.lt k hk).2
          have src5:Hid (∀q,Ls 1 byc (w34.drewN q) ia bi.length bi):=hide fun q=>(ri.ls rkB10).below (below_drewN (Below.refl _ _) q)
          have NIL:Hid (ia=none→bi.length=0∧ic=0):=hide fun e=>by
           obtain ⟨a',c',e1,h9,_⟩:=ri.form;injection e1 with ea en ec
           exact h9 (ea▸e) |>.imp id (fun h=>by rw [ec];exact h)
          have hB5:Hid (∀q,B≤(w34.drewN q).heap.size):=hide fun q=>Nat.le_trans T23.hB (below_drewN (Below.refl w34.heap.size w34) q).size
          have HGR:Hid (∀q v' w7,Orw byc 5 1 w7 B v' (b5++bi)→(w34.drewN q).grownBy w7 (Value.slice a5 b5.length c5).ownBlock→∃a7 c7,v'=.slice a7 (b5.length+bi.length) c7∧w7.heap[X]?=some (.cells #[.slice p1a p1n p1c,.slice a5 b5.length c5,.bool (!OK22)] 65 (0,0))∧Gw X B ⟨p1a,p1n,p1c⟩ (b5++bi) (!OK22) (w7.setCell ⟨X,1,none⟩ v')∧Ks X w34 (w7.setCell ⟨X,1,none⟩ v')∧Below B w34 (w7.setCell ⟨X,1,none⟩ v')):=hide fun q v' w7 o7 g7=>gw_grown (p:=⟨p1a,p1n,p1c⟩) x5 g5.hX r5 q v' w7 bi o7 g7
          have HT4:=hide (And.intro T23 (And.intro hb5 hl5'));clear T23 g5 gi hb5 hl5 r5 ri c1 z1 k1;go_upto_region 35 with fail
          refine wp_region_txtn (fun W=>W.heap[X]?=some (.cells #[.slice p1a p1n p1c,.slice a5 b5.length c5,.bool (!OK22)] 65 (0,0))∧W.heap[Y]?=some (.cells #[.slice p1a p1n p1c,.slice ia bi.length ic,.bool (!rD)] 65 (0,0))) [9] (List.range 12) 12 (by rfl) (by kernel_rfl) (by kernel_rfl) ⟨x5,y5⟩ ?_;simp only [List.take_succ_cons,List.take_zero]
          repeat (first
           | (refine Txt.reads (v:=?_) (by rfl) (by rfl) (by rfl) ?_ ?_;rotate_left;(focus ((intro W hSW;obtain ⟨q1,q2⟩:=hSW;have x1:W.cell? ⟨X,1,none⟩=some (.slice a5 b5.length c5):=bx_cell q1 1 _ rfl;have y1:W.cell? ⟨Y,1,none⟩=some (.slice ia bi.length ic):=bx_cell q2 1 _ rfl;clear q1 q2;go_simp) <;> with_reducible rfl));simp only [Act.put,List.setIfInBounds_toArray,List.set_cons_zero,List.set_cons_succ]))
          refine Txt.acts (by rfl) (by rfl) (by rfl) (fun K hK=>?_);refine wpR_append rkB10 (.tmp 188) (.tmp 192) rfl B (.slice a5 b5.length c5) b5 (by rfl) (unhide own5 1) ia bi.length ic bi (by rfl) (unhide src5 1) (unhide NIL) (unhide HLn) (unhide HLn2) (unhide hB5 1) ?_;intro v7 w7 o7 g7;have K7:=unhide HGR 1 _ w7 o7 g7;clear o7 g7;obtain ⟨a7,c7,rfl,x7,g8,k8,f8⟩:=K7;have hYX:Y≠X:=by omega
          have y7:w7.heap[Y]?=some (.cells #[.slice p1a p1n p1c,.slice ia bi.length ic,.bool (!rD)] 65 (0,0)):=(Below.heap_setCell w7 ⟨X,1,none⟩ _ Y hYX).symm.trans (k8 Y _ _ hYX (by decide) y5);refine hK.out _ _ ⟨x7,y7⟩ ?_;have z7:=bx_thaw x7 1;have c7':w7.cell? ⟨X,1,none⟩=some (.slice a5 b5.length c5):=bx_cell x7 1 _ rfl;have Y7:=hide (And.intro g8 (And.intro k8 f8));clear hK K g8 k8 f8 x7 y7 x5 y5
          repeat (first
           | (refine Txt.reads (v:=?_) (by rfl) (by rfl) (by rfl) ?_ ?_;rotate_left;(focus ((intro W hSW;clear hSW;go_simp) <;> with_reducible rfl));simp only [Act.put,List.setIfInBounds_toArray,List.set_cons_zero,List.set_cons_succ]))
          refine Txt.done (thenLast_n (by rfl) (by rfl) (by rfl) (fun K hK=>?_));go_simp;refine hK.out _ _ ?_;clear c7' z7 hK;obtain ⟨g8,k8,f8⟩:=unhide Y7;obtain ⟨T4,hb5,hl5'⟩:=unhide HT4;have htk:ml.take (k+1)=ml.take k++[⟨acc,nme,typ,⟨st,lo,by_,hh,mm⟩⟩]:=by rw [List.take_add_one,unhide HXM];rfl
          have hok:=meth_ok pl ⟨acc,nme,typ,⟨st,lo,by_,hh,mm⟩⟩ okk (max 0 acc) rfl bi.length (by omega);simp only at hok;rw [(unhide HOM).1,(unhide HBI).1,unhide HO22] at hok;have T8:=T4.step (b:=b5) (ok':=OK22) (bs':=(BSM++[(bi.length:Int)].flatMap (bytesW 4))++bi) (n':=nk+14+bi.length) g8 f8 k8 (fun e=>by rw [hb5 e,List.append_assoc]) (by rw [List.length_append];omega);have T24:Wr w0 w4 X B ⟨p1a,p1n,p1c⟩ b0 _ (OKF&&(ml.take (k+1)).all (rightMd pl)) (BSF++(ml.take (k+1)).flatMap (methodB pl)) (12+8*f1n+(k+1)*200000):=T8.imp (by
           rw [hok,htk,List.all_append,←Bool.and_assoc,(unhide HKK).1];simp only [List.all_cons,List.all_nil,Bool.and_true]) (fun e=>by
           have e1:(okk&&rightMd pl ⟨acc,nme,typ,⟨st,lo,by_,hh,mm⟩⟩)=true:=by
            rw [htk,List.all_append,←Bool.and_assoc,(unhide HKK).1] at e
            simpa only [List.all_cons,List.all_nil,Bool.and_true] using e
           rw [Bool.and_eq_true] at e1;have hrm:=e1.2;have hrd:rightD pl ⟨st,lo,by_,hh,mm⟩=true:=by
            unfold rightMd at hrm;simp only [Bool.and_eq_true] at hrm;exact hrm.2
           have hb:bi=codeB pl ⟨st,lo,by_,hh,mm⟩:=by
            have:=(unhide HBI).2 (by rw [←(unhide HBI).1,hrd];rfl)
            simpa using this
           rw [htk,List.flatMap_append,←List.append_assoc,(unhide HKK).2];simp only [List.flatMap_cons,List.flatMap_nil,List.append_nil];rw [←(unhide HOM).2];exact meth_bytes pl ⟨acc,nme,typ,⟨st,lo,by_,hh,mm⟩⟩ bsk bi (max 0 acc) rfl hrm hb) (by have:=unhide HNK;omega)
          have HZ:=hide T24;clear T24 T8 T4 g8 k8 f8 hok htk Y7 hb5 hl5';go_wp2;go_roundw
          case rel=>exact ⟨k+1,by go_num,by omega,unhide HZ⟩
          case measure=>simp [intOf];omega
       · as_aux_lemma=>
          have hlt1:¬(k:Int)<(m1n:Int):=by omega
          obtain rfl:k=m1n:=by omega
          rw [List.take_of_length_le (by omega)] at hT;have hTn:=hT.imp (n':=12+8*f1n+51200000) rfl (fun _=>rfl) (by omega);clear hlt hT;have HC:=hide (hTn.u (w1:=(wr.alloc (.cells #[.int .i64 0] 3))) ((Below.refl _ _).alloc (Nat.le_refl _) _) 2 (by omega) [0] 1 rfl (fun j z hz=>ints_at wr [0] _ rfl j z hz) (fun z hz=>by simp at hz;subst hz;unfold fitI;omega) (by omega));clear hTn;go_wp2_with fail;refine (unhide HC).mono ?_;rintro e w36 ⟨rfl,T40,kk,ff⟩;clear HC;clear kk ff q0 q1 q2 q3 q4;obtain ⟨OK,hOK⟩:∃OK,((OKF&&ml.all (rightMd pl))&&fitsB 2 [0])=OK:=⟨_,rfl⟩;rw [hOK] at T40;have hright:OK=rightK CC:=by
           rw [←hOK,←(unhide HOF).1];have hc:=unhide HCC;have:=end_ok CC (by rw [hc];exact (unhide HP).2) (by rw [hc];show fl.length≤_;omega) (by rw [hc];show ml.length≤_;omega);rw [←this,hc,←hml]
          obtain ⟨b6,g6,hb6,hl6⟩:=T40.gw;have hbytes:OK=true→b6=bytesK CC:=fun e=>by
           have hc:=unhide HCC;rw [hb6 e,←end_bytes CC,←(unhide HOF).2,unhide HB0,hc,←hml]
          obtain ⟨a6,c6,x6,r6⟩:=g6.blk;have hbel:Below w.heap.size w w36:=(unhide H0).trans (T40.came.mono (unhide H0).size);have i1:w36.cell? ⟨X,1,none⟩=some (.slice a6 b6.length c6):=bx_cell x6 1 _ rfl;have i2:w36.cell? ⟨X,2,none⟩=some (.bool (!OK)):=bx_cell x6 2 _ rfl;have HR6:=hide (And.intro (r6.base (base':=w.heap.size) (by omega)) hbel);have HRB:=hide (And.intro hright hbytes);clear T40 hOK hright hb6 hl6 hbytes g6 x6 r6 hbel;cases hk:OK
          · obtain ⟨h80,hpk⟩:=end_no (c:=CC) (by rw [←(unhide HRB).1,hk])
            rw [hk] at i2;simp only [Bool.not_false] at i2;have HHB:=hide (And.intro h80 hpk);clear h80 hpk;go_wp2;rw [unhide HPO];unfold gprint_post;rw [(unhide HHB).1,(unhide HHB).2];exact ⟨_,rfl,Orw.nil _ _ _ _ _,(unhide HR6).2⟩
          · rw [hk] at i2
            simp only [Bool.not_true] at i2;have hr:rightK CC=true:=by rw [←(unhide HRB).1,hk]
            have hb:=(unhide HRB).2 hk
            by_cases hlen:32768<b6.length
            · have hlen1:(32768:Int)<(b6.length:Int):=by omega
              obtain ⟨h3,hpk⟩:=end_long hr (by rw [←hb];exact hlen);have HHB:=hide (And.intro h3 hpk);clear hb h3 hpk;go_wp2;rw [unhide HPO];unfold gprint_post;rw [(unhide HHB).1,(unhide HHB).2];exact ⟨_,rfl,Orw.nil _ _ _ _ _,(unhide HR6).2⟩
            · have hlen1:¬(32768:Int)<(b6.length:Int):=by omega
              obtain ⟨h0,hpk⟩:=end_yes hr (by rw [←hb];exact hlen);have HHB:=hide (And.intro h0 (And.intro hpk hb));clear hb hpk h0;go_wp2;rw [unhide HPO];unfold gprint_post;rw [(unhide HHB).1,(unhide HHB).2.1,←(unhide HHB).2.2];exact ⟨_,rfl,(unhide HR6).1,(unhide HR6).2⟩
end Go.Proofs.YtlabllgifkklhaaGreatDoor
