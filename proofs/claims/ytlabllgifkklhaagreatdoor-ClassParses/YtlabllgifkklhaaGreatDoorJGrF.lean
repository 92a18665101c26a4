/- The document's class: its writer: code. -/
import Derived.Test.YtlabllgifkklhaaGreatDoorJP27
import Derived.Test.YtlabllgifkklhaaGreatDoorJP29
set_option linter.unusedVariables false
set_option maxRecDepth 100000
set_option maxHeartbeats 12800000
namespace Go.Proofs.YtlabllgifkklhaaGreatDoor
open Go.RowKit
def codeN (c:Cd):Nat:=24+c.bytes.length+8*c.hs.length+(c.maps.map fun m=>13+3*(m.loc.length+m.stk.length)).sum
theorem gwcode_any (wo:World) (X B:Nat) (p:Sl) (l:List Ent) (G:Gx wo B p l) (b0:List UInt8) (bad:Bool) (w:World) (hW:Below wo.heap.size wo w) (h:Gw X B p b0 bad w) (r:MdR) (hr:MdIn wo r) (hn:codeN r.m.code≤200000) (hm:∀m∈r.m.code.maps,m.loc.length≤14000∧m.stk.length≤14000) (hs:b0.length≤30000000) :
 Calls Tryz.prog 31 #[.pointer (some ⟨X,0,none⟩),cdv r.m.code r.bs r.hs r.maps] w (wr_post wo w X B p b0 w (!bad&&rightD l r.m.code) (codeB l r.m.code) (codeN r.m.code)):=by
 obtain ⟨⟨acc,nm,ty,⟨st,lo,by_,hh,mm⟩⟩,⟨ba,bn,bc⟩,⟨ha,hn_,hc⟩,⟨ma,mn,mcc⟩,mr⟩:=r;obtain ⟨r1,r2,r3,r4,r5,r6,r7,r8,r9,r10⟩:=hr;simp only at r4 r5 r6 r7 r8 r9 r10 hn hm ⊢;have hbn:=r6.bs.1;have hhn:=r8.ls.1;have hmn:=r9.ls.1;simp only at hbn hhn hmn;have hml:mm.length=mn:=by rw [r10,List.length_map];exact hmn
 unfold codeN at hn;simp only at hn;have hN1:bn≤200000∧8*hn_≤200000:=by omega
 have hN2:13*mn≤200000:=by
  have h9:∀q:List Mp,13*q.length≤(q.map fun m=>13+3*(m.loc.length+m.stk.length)).sum:=fun q=>by
   induction q with
   | nil=>simp
   | cons x q ih=>simp only [List.map_cons,List.sum_cons,List.length_cons];omega
  have:=h9 mm;omega
 unfold cdv Sl.v;simp only;have T0:=Wr.start h hW G.hB;have hXl:=h.X_lt;have hBl:=h.hB;obtain ⟨w1,e1,f1,y1⟩:∃w1,w.alloc (.cells #[.int .i64 st,.int .i64 lo,.slice ba bn bc,.slice ha hn_ hc,.slice ma mn mcc] 47)=w1∧Below w.heap.size w w1∧w1.heap[w.heap.size]?=some (.cells #[.int .i64 st,.int .i64 lo,.slice ba bn bc,.slice ha hn_ hc,.slice ma mn mcc] 47 (0,0)):=⟨_,rfl,(Below.refl _ _).alloc (Nat.le_refl _) _,heap_alloc_new w _⟩;have T1:=T0.on f1;obtain ⟨CB,hCB⟩:∃CB:World→Prop,CB=fun W=>W.heap[w.heap.size]?=some (.cells #[.int .i64 st,.int .i64 lo,.slice ba bn bc,.slice ha hn_ hc,.slice ma mn mcc] 47 (0,0)):=⟨_,rfl⟩
 have KC:Hid (∀W W',CB W→Ks X W W'→CB W'):=hide fun W W' h1 h2=>by
  rw [hCB] at h1 ⊢;exact h2 _ _ _ (by omega) (by decide) h1
 have KB:Hid (∀W W',CB W→Below W.heap.size W W'→CB W'):=hide fun W W' h1 h2=>by
  rw [hCB] at h1 ⊢;exact (h2.block _ (lt_of_heap h1)).trans h1
 have KI:Hid (∀W,CB W→W.cell? ⟨w.heap.size,0,none⟩=some (.int .i64 st)∧W.cell? ⟨w.heap.size,1,none⟩=some (.int .i64 lo)∧W.cell? ⟨w.heap.size,2,none⟩=some (.slice ba bn bc)∧W.cell? ⟨w.heap.size,3,none⟩=some (.slice ha hn_ hc)∧W.cell? ⟨w.heap.size,4,none⟩=some (.slice ma mn mcc)):=hide fun W h1=>by
  rw [hCB] at h1;exact ⟨bx_cell h1 0 _ rfl,bx_cell h1 1 _ rfl,bx_cell h1 2 _ rfl,bx_cell h1 3 _ rfl,bx_cell h1 4 _ rfl⟩
 have C1:CB w1:=by rw [hCB];exact y1
 have HCBW:=hide hCB;clear hCB y1 T0 h hW;obtain ⟨okM,hokM⟩:∃okM,okM=decide (0≤st∧st≤64∧0≤lo∧lo≤64∧1≤by_.length∧by_.length≤4096∧hh.length≤256∧mm.length≤256):=⟨_,rfl⟩;rw [hbn,hhn,hml] at hokM;have HOK:=hide hokM;have HR:=hide (And.intro r6 (And.intro r8 (And.intro r9 (And.intro r10 (And.intro G (And.intro hm hn))))));have HR4:=hide (And.intro r4 r5);clear hokM r1 r2 r3 r4 r5 r6 r7 r8 r9 r10 G hm hn;have HM:Hid (∀v,Calls Tryz.prog 29 #[.pointer (some ⟨X,0,none⟩),.bool v] w1 (wr_post wo w X B p b0 w1 (!bad&&v) [] 0)):=hide fun v=>T1.must v
 obtain ⟨i0,i1,i2,i3,i4⟩:=unhide KI w1 C1;have H1:=hide (And.intro T1 (And.intro C1 f1));clear T1 C1 f1;go_enter Tryz.func31,Tryz.ntmps31;go_upto_region 1 with fail
 go_cut [3] from 10 (fun v3 wr=>v3=.pointer (some ⟨w.heap.size,0,none⟩)∧Wr wo w X B p b0 wr (!bad&&okM) [] 0∧CB wr∧Ks X w wr)
 case first=>
  by_cases d1:0≤st
  · by_cases d2:st≤64
    · by_cases d3:0≤lo
      · by_cases d4:lo≤64
        · by_cases d5:1≤(bn:Int)
          · by_cases d6:(bn:Int)≤4096
            · by_cases d7:(hn_:Int)≤256
              · by_cases d8:(mn:Int)≤256
                · as_aux_lemma=>
                   obtain rfl:okM=true:=(unhide HOK).trans (decide_eq_true ⟨by omega,by omega,by omega,by omega,by omega,by omega,by omega,by omega⟩);clear HOK;go_wp2_with fail;refine (unhide HM true).mono ?_;rintro e w2 ⟨rfl,T2,k2,f2⟩;have HF:=hide (And.intro T2 (And.intro (unhide KC _ _ (unhide H1).2.1 k2) ((Ks.of_below (unhide H1).2.2).trans k2)));clear T2 k2 f2;go_wp2;go_meet;exact ⟨rfl,(unhide HF).1,(unhide HF).2.1,(unhide HF).2.2⟩
                · as_aux_lemma=>
                   obtain rfl:okM=false:=(unhide HOK).trans (decide_eq_false (by omega));clear HOK;go_wp2_with fail;refine (unhide HM false).mono ?_;rintro e w2 ⟨rfl,T2,k2,f2⟩;have HF:=hide (And.intro T2 (And.intro (unhide KC _ _ (unhide H1).2.1 k2) ((Ks.of_below (unhide H1).2.2).trans k2)));clear T2 k2 f2;go_wp2;go_meet;exact ⟨rfl,(unhide HF).1,(unhide HF).2.1,(unhide HF).2.2⟩
              · as_aux_lemma=>
                 obtain rfl:okM=false:=(unhide HOK).trans (decide_eq_false (by omega));clear HOK;go_wp2_with fail;refine (unhide HM false).mono ?_;rintro e w2 ⟨rfl,T2,k2,f2⟩;have HF:=hide (And.intro T2 (And.intro (unhide KC _ _ (unhide H1).2.1 k2) ((Ks.of_below (unhide H1).2.2).trans k2)));clear T2 k2 f2;go_wp2;go_meet;exact ⟨rfl,(unhide HF).1,(unhide HF).2.1,(unhide HF).2.2⟩
            · as_aux_lemma=>
               obtain rfl:okM=false:=(unhide HOK).trans (decide_eq_false (by omega));clear HOK;go_wp2_with fail;refine (unhide HM false).mono ?_;rintro e w2 ⟨rfl,T2,k2,f2⟩;have HF:=hide (And.intro T2 (And.intro (unhide KC _ _ (unhide H1).2.1 k2) ((Ks.of_below (unhide H1).2.2).trans k2)));clear T2 k2 f2;go_wp2;go_meet;exact ⟨rfl,(unhide HF).1,(unhide HF).2.1,(unhide HF).2.2⟩
          · as_aux_lemma=>
             obtain rfl:okM=false:=(unhide HOK).trans (decide_eq_false (by omega));clear HOK;go_wp2_with fail;refine (unhide HM false).mono ?_;rintro e w2 ⟨rfl,T2,k2,f2⟩;have HF:=hide (And.intro T2 (And.intro (unhide KC _ _ (unhide H1).2.1 k2) ((Ks.of_below (unhide H1).2.2).trans k2)));clear T2 k2 f2;go_wp2;go_meet;exact ⟨rfl,(unhide HF).1,(unhide HF).2.1,(unhide HF).2.2⟩
        · as_aux_lemma=>
           obtain rfl:okM=false:=(unhide HOK).trans (decide_eq_false (by omega));clear HOK;go_wp2_with fail;refine (unhide HM false).mono ?_;rintro e w2 ⟨rfl,T2,k2,f2⟩;have HF:=hide (And.intro T2 (And.intro (unhide KC _ _ (unhide H1).2.1 k2) ((Ks.of_below (unhide H1).2.2).trans k2)));clear T2 k2 f2;go_wp2;go_meet;exact ⟨rfl,(unhide HF).1,(unhide HF).2.1,(unhide HF).2.2⟩
      · as_aux_lemma=>
         obtain rfl:okM=false:=(unhide HOK).trans (decide_eq_false (by omega));clear HOK;go_wp2_with fail;refine (unhide HM false).mono ?_;rintro e w2 ⟨rfl,T2,k2,f2⟩;have HF:=hide (And.intro T2 (And.intro (unhide KC _ _ (unhide H1).2.1 k2) ((Ks.of_below (unhide H1).2.2).trans k2)));clear T2 k2 f2;go_wp2;go_meet;exact ⟨rfl,(unhide HF).1,(unhide HF).2.1,(unhide HF).2.2⟩
    · as_aux_lemma=>
       obtain rfl:okM=false:=(unhide HOK).trans (decide_eq_false (by omega));clear HOK;go_wp2_with fail;refine (unhide HM false).mono ?_;rintro e w2 ⟨rfl,T2,k2,f2⟩;have HF:=hide (And.intro T2 (And.intro (unhide KC _ _ (unhide H1).2.1 k2) ((Ks.of_below (unhide H1).2.2).trans k2)));clear T2 k2 f2;go_wp2;go_meet;exact ⟨rfl,(unhide HF).1,(unhide HF).2.1,(unhide HF).2.2⟩
  · as_aux_lemma=>
     obtain rfl:okM=false:=(unhide HOK).trans (decide_eq_false (by omega));clear HOK;go_wp2_with fail;refine (unhide HM false).mono ?_;rintro e w2 ⟨rfl,T2,k2,f2⟩;have HF:=hide (And.intro T2 (And.intro (unhide KC _ _ (unhide H1).2.1 k2) ((Ks.of_below (unhide H1).2.2).trans k2)));clear T2 k2 f2;go_wp2;go_meet;exact ⟨rfl,(unhide HF).1,(unhide HF).2.1,(unhide HF).2.2⟩
 case rest=>
 obtain ⟨rfl,T2,C2,k2⟩:=hcut;obtain ⟨i0,i1,i2,i3,i4⟩:=unhide KI wc C2;clear k2 HM;have HC:=hide (T2.u (w1:=wc.alloc (.cells #[.int .i64 st,.int .i64 lo] 3)) ((Below.refl _ _).alloc (Nat.le_refl _) _) 2 (by omega) [st,lo] 2 rfl (fun j z hz=>ints_at wc [st,lo] _ rfl j z hz) (fun z hz=>by simp at hz;rcases hz with rfl | rfl;exact (unhide HR4).1;exact (unhide HR4).2) (by omega));have HP:=hide (unhide KB _ _ C2 ((Below.refl _ _).alloc (Nat.le_refl _) (.cells #[.int .i64 st,.int .i64 lo] 3)));clear T2 C2;go_wp2_with fail;refine (unhide HC).mono ?_;rintro e w3 ⟨rfl,T2,kk,ff⟩;have C2:=unhide KC _ _ (unhide HP) kk;clear kk ff HC HP i0 i1 i2 i3 i4;obtain ⟨i0,i1,i2,i3,i4⟩:=unhide KI w3 C2;have HC:=hide (T2.u (w1:=w3.alloc (.cells #[.int .i64 (bn:Int)] 3)) ((Below.refl _ _).alloc (Nat.le_refl _) _) 4 (by omega) [(bn:Int)] 1 rfl (fun j z hz=>ints_at w3 [(bn:Int)] _ rfl j z hz) (fun z hz=>by simp at hz;subst hz;unfold fitI;omega) (by show _+(0+2*2)+8*1≤_;omega));have HP:=hide (unhide KB _ _ C2 ((Below.refl _ _).alloc (Nat.le_refl _) (.cells #[.int .i64 (bn:Int)] 3)));clear T2 C2;go_wp2_with fail;refine (unhide HC).mono ?_;rintro e w4 ⟨rfl,T2,kk,ff⟩;have C2:=unhide KC _ _ (unhide HP) kk;clear kk ff HC HP i0 i1 i2 i3 i4;obtain ⟨i0,i1,i2,i3,i4⟩:=unhide KI w4 C2;obtain ⟨b5,g5,hb5,hl5⟩:=T2.gw;have hl5':b5.length≤b0.length+8:=hl5;obtain ⟨a5,c5,x5,r5⟩:=g5.blk;have c1:w4.cell? ⟨X,1,none⟩=some (.slice a5 b5.length c5):=bx_cell x5 1 _ rfl;have z1:=bx_thaw x5 1;have HLn:Hid ((b5.length+bn)*1≤140737488355328):=hide (by omega);have HLn2:Hid (b5.length+bn≤140737488355328):=hide (by omega);have own5:Hid (∀q,Orw byc 5 1 (w4.drewN q) B (.slice a5 b5.length c5) b5):=hide fun q=>r5.below fun k hk=>(below_drewN (Below.refl _ _) q).block k (r5.lt k hk).2
 have src5:Hid (∀q,Ls 1 byc (w4.drewN q) ba bn by_):=hide fun q=>ls_of_arg9 (((unhide HR).1.below T2.came).below (below_drewN (Below.refl _ _) q))
 have NIL:Hid (ba=none→bn=0∧bc=0):=hide (unhide HR).1.nil;have hB5:Hid (∀q,B≤(w4.drewN q).heap.size):=hide fun q=>Nat.le_trans T2.hB (below_drewN (Below.refl w4.heap.size w4) q).size
 have HGR:Hid (∀q v' w7,Orw byc 5 1 w7 B v' (b5++by_)→(w4.drewN q).grownBy w7 (Value.slice a5 b5.length c5).ownBlock→∃a7 c7,v'=.slice a7 (b5.length+bn) c7∧w7.heap[X]?=some (.cells #[.slice p.a p.n p.c,.slice a5 b5.length c5,.bool (!((!bad&&okM)&&fitsB 2 [st,lo]&&fitsB 4 [(bn:Int)]))] 65 (0,0))∧Gw X B p (b5++by_) (!((!bad&&okM)&&fitsB 2 [st,lo]&&fitsB 4 [(bn:Int)])) (w7.setCell ⟨X,1,none⟩ v')∧Ks X w4 (w7.setCell ⟨X,1,none⟩ v')∧Below B w4 (w7.setCell ⟨X,1,none⟩ v')):=hide fun q v' w7 o7 g7=>by
  have:=gw_grown x5 g5.hX r5 q v' w7 by_ o7 g7;rw [hbn] at this;exact this
 have HT4:=hide (And.intro T2 (And.intro C2 (And.intro hb5 hl5')));clear T2 C2 g5 hb5 hl5 x5 r5;go_upto_region 4 with fail
 obtain ⟨OK5,hOK5⟩:∃OK5,((!bad&&okM)&&fitsB 2 [st,lo]&&fitsB 4 [(bn:Int)])=OK5:=⟨_,rfl⟩;obtain ⟨BS5,hBS5⟩:∃BS5,((([]++[st,lo].flatMap (bytesW 2))++[(bn:Int)].flatMap (bytesW 4))++by_)=BS5:=⟨_,rfl⟩;have HOB:=hide (And.intro hOK5 hBS5);clear hOK5 hBS5
 go_cut [] from 10 (fun wr=>Wr wo w X B p b0 wr OK5 BS5 (8+bn)∧CB wr)
 case first=>
  as_aux_lemma=>
   go_region_law (first
    | (refine stepB_append8 rfl (.tmp 71) (.tmp 73) rfl B (.slice a5 b5.length c5) b5 (by rfl) (by first | exact unhide own5 0 | exact unhide own5 1) ba bn bc by_ (by rfl) (by first | exact unhide src5 0 | exact unhide src5 1) (unhide NIL) (unhide HLn) (unhide HLn2) (by first | exact unhide hB5 0 | exact unhide hB5 1) ?_;intro v7 w7 o7 g7;have K7:=hide (unhide HGR 1 _ w7 o7 g7);clear o7 g7;obtain ⟨a7,c7,rfl,x7,y7⟩:=unhide K7;have cx7:w7.cell? ⟨X,1,none⟩=some (.slice a5 b5.length c5):=bx_cell x7 1 _ rfl;have zx7:=bx_thaw x7 1;have Y7:=hide y7;clear x7 y7 K7))
   all_goals
    go_wp2;go_meet;obtain ⟨g8,k8,f8⟩:=unhide Y7;obtain ⟨T4,C4,hb5,hl5'⟩:=unhide HT4;obtain ⟨rfl,rfl⟩:=unhide HOB;exact ⟨T4.step (b:=b5) g8 f8 k8 (fun e=>by rw [hb5 e,List.append_assoc]) (by rw [List.length_append];omega),unhide KC _ _ C4 k8⟩
 case rest=>
 obtain ⟨T8,C8⟩:=hcut;clear HGR own5 src5 NIL HLn HLn2 hB5 HT4 c1 z1 i0 i1 i2 i3 i4 a5 c5 hl5' b5;obtain ⟨i0,i1,i2,i3,i4⟩:=unhide KI wc C8;have HC:=hide (T8.u (w1:=wc.alloc (.cells #[.int .i64 (hn_:Int)] 3)) ((Below.refl _ _).alloc (Nat.le_refl _) _) 2 (by omega) [(hn_:Int)] 1 rfl (fun j z hz=>ints_at wc [(hn_:Int)] _ rfl j z hz) (fun z hz=>by simp at hz;subst hz;unfold fitI;omega) (by omega));have HP:=hide (unhide KB _ _ C8 ((Below.refl _ _).alloc (Nat.le_refl _) (.cells #[.int .i64 (hn_:Int)] 3)));clear T8 C8;go_wp2_with fail;refine (unhide HC).mono ?_;rintro e w9 ⟨rfl,T8,kk,ff⟩;have C8:=unhide KC _ _ (unhide HP) kk;clear kk ff HC HP i0 i1 i2 i3 i4;obtain ⟨i0,i1,i2,i3,i4⟩:=unhide KI w9 C8;have hok:(OK5&&fitsB 2 [(hn_:Int)])=(!bad&&okM):=by
  rw [←(unhide HOB).1];have ho:=unhide HOK;cases hk:okM with
  | false=>simp
  | true=>
   have h9:=of_decide_eq_true (ho.symm.trans hk);have q1:fitsB 2 [st,lo]=true:=by simp [fitsB];omega
   have q2:fitsB 4 [(bn:Int)]=true:=by simp [fitsB];omega
   have q3:fitsB 2 [(hn_:Int)]=true:=by simp [fitsB];omega
   rw [q1,q2,q3];simp
 obtain ⟨okA,hokA⟩:∃okA,(!bad&&okM)=okA:=⟨_,rfl⟩;obtain ⟨BS9,hBS9⟩:∃BS9,BS5++[(hn_:Int)].flatMap (bytesW 2)=BS9:=⟨_,rfl⟩;have T9:Wr wo w X B p b0 w9 okA BS9 (10+bn):=T8.imp (hok.trans hokA) (fun _=>hBS9) (by show 8+bn+1*2≤_;omega);have HOA:=hide hokA;have HB9:=hide hBS9;have HLs:=hide (unhide HR).2.1.ls;have HFit:=hide (unhide HR).2.1.each;have HG:=hide (unhide HR).2.2.2.2.1;have HT9:=hide (And.intro T9 C8);clear T8 C8 hok hokA hBS9 T9 i0 i1 i2 i3 i4;go_wp2
 go_loopw [4] (fun vi wr=>∃k:Nat,vi=.int .i64 k∧k≤hn_∧Wr wo w X B p b0 wr (okA&&(hh.take k).all (rightH l)) (BS9++(hh.take k).flatMap hdB) (10+bn+8*k)∧CB wr) (fun vi _=>hn_-(intOf vi).toNat)
 case atStart=>exact ⟨0,rfl,by omega,by simpa using (unhide HT9).1,(unhide HT9).2⟩
 case round=>
  obtain ⟨k,rfl,hk,hT,hC⟩:=hrel;obtain ⟨i0,i1,i2,i3,i4⟩:=unhide KI wr hC
  by_cases hlt:k<hn_
  · have hlt1:(k:Int)<(hn_:Int):=by omega
    have hk0:(0:Int)≤(k:Int):=by omega
    obtain ⟨b1,o1,h1a,hr1⟩:=Ls.row (unhide HLs) (w':=wo) (by show hn_≠0;omega);subst h1a;obtain ⟨t,ht⟩:∃t,hh[k]?=some t:=⟨_,List.getElem?_eq_getElem (by omega)⟩;obtain ⟨q,hq⟩:∃q:RowAt wr b1 (o1+k*4) (hdc t),True:=⟨hr1 hT.came k t ht,trivial⟩;have c0:=q.zero;have c1:=q 1 _ rfl;have c2:=q 2 _ rfl;have c3:=q 3 _ rfl;have hfit:=unhide HFit t (List.mem_of_getElem? ht);have HTK:=hide ht;obtain ⟨frm,to_,at_,cls⟩:=t;simp only at c0 c1 c2 c3;obtain ⟨wl,el,fl,ll⟩:∃wl,wr.alloc (.cells #[.int .i64 frm,.int .i64 to_,.int .i64 at_,.int .i64 cls] 93)=wl∧Below wr.heap.size wr wl∧wl.heap[wr.heap.size]?=some (.cells #[.int .i64 frm,.int .i64 to_,.int .i64 at_,.int .i64 cls] 93 (0,0)):=⟨_,rfl,(Below.refl _ _).alloc (Nat.le_refl _) _,heap_alloc_new wr _⟩;have Tl:=hT.on fl;have Cl:=unhide KB _ _ hC fl;have hXr:X<wr.heap.size:=by
     obtain ⟨_,g,_⟩:=hT.gw;exact g.X_lt
    have hes:=(unhide HG).es Tl.came;obtain ⟨_,g,_⟩:=Tl.gw;obtain ⟨_,_,gx,_⟩:=g.blk;have x0:wl.cell? ⟨X,0,none⟩=some (.slice p.a p.n p.c):=bx_cell gx 0 _ rfl;have hfew:=(unhide HG).few;obtain ⟨okC,hokC⟩:∃okC,okC=decide (cls=0∨0<cls∧cls<l.length∧tagE l cls=7):=⟨_,rfl⟩;have HOC:=hide hokC;have d3:wl.cell? ⟨wr.heap.size,3,none⟩=some (.int .i64 cls):=bx_cell ll 3 _ rfl;obtain ⟨okk,hokk⟩:∃okk,(okA&&(hh.take k).all (rightH l))=okk:=⟨_,rfl⟩;obtain ⟨bsk,hbsk⟩:∃bsk,BS9++(hh.take k).flatMap hdB=bsk:=⟨_,rfl⟩;rw [hokk,hbsk] at Tl;have HKK:=hide (And.intro hokk hbsk);obtain ⟨HH,hHH⟩:∃HH:World→Prop,HH=fun W=>W.heap[wr.heap.size]?=some (.cells #[.int .i64 frm,.int .i64 to_,.int .i64 at_,.int .i64 cls] 93 (0,0)):=⟨_,rfl⟩
    have hl0:HH wl:=by rw [hHH];exact ll
    have KH:Hid (∀W W',HH W→Ks X W W'→HH W'):=hide fun W W' h1 h2=>by
     rw [hHH] at h1 ⊢;exact h2 _ _ _ (by omega) (by decide) h1
    have KH2:Hid (∀W W',HH W→Below W.heap.size W W'→HH W'):=hide fun W W' h1 h2=>by
     rw [hHH] at h1 ⊢;exact (h2.block _ (lt_of_heap h1)).trans h1
    have KHI:Hid (∀W,HH W→W.cell? ⟨wr.heap.size,0,none⟩=some (.int .i64 frm)∧W.cell? ⟨wr.heap.size,1,none⟩=some (.int .i64 to_)∧W.cell? ⟨wr.heap.size,2,none⟩=some (.int .i64 at_)∧W.cell? ⟨wr.heap.size,3,none⟩=some (.int .i64 cls)):=hide fun W h1=>by
     rw [hHH] at h1;exact ⟨bx_cell h1 0 _ rfl,bx_cell h1 1 _ rfl,bx_cell h1 2 _ rfl,bx_cell h1 3 _ rfl⟩
    have HGL:Hid ((∃b bd,Gw X B p b bd wl.drew)∧HH wl.drew∧Below wo.heap.size wo wl.drew):=hide ⟨⟨_,_,g.below (Below.refl _ _).drew⟩,unhide KH2 _ _ hl0 (Below.refl _ _).drew,Tl.came.trans ((Below.refl _ _).drew)⟩;have HMk:Hid (∀W,Below wl.heap.size wl W→∀v,Calls Tryz.prog 29 #[.pointer (some ⟨X,0,none⟩),.bool v] W fun e w'=>e=.returned (.tuple #[])∧Wr wo w X B p b0 w' (okk&&v) bsk (10+bn+8*k)∧CB w'∧HH w'):=hide fun W f v=>((Tl.on f).must v).mono (by
     rintro e w' ⟨rfl,T9,k9,f9⟩;exact ⟨rfl,T9,unhide KC _ _ (unhide KB _ _ Cl f) k9,unhide KH _ _ (unhide KH2 _ _ hl0 f) k9⟩)
    clear hT hC q hq hokC hokk hbsk hHH hl0 ll fl Tl Cl gx g hr1 ht;go_upto_region 10 with fail
    go_cut [] from 83 to 137 (fun wx=>Wr wo w X B p b0 wx (okk&&okC) bsk (10+bn+8*k)∧CB wx∧HH wx)
    case first=>
     by_cases z0:cls=0
     · subst z0
       obtain rfl:okC=true:=(unhide HOC).trans (decide_eq_true (.inl rfl))
       as_aux_lemma=>
        obtain ⟨PW,hPW⟩:∃PW:World→Prop,PW=fun W=>Wr wo w X B p b0 W (okk&&true) bsk (10+bn+8*k)∧CB W∧HH W:=⟨_,rfl⟩
        have HMP:Hid (∀W,(W=wl.drew∨PW W)→Calls Tryz.prog 29 #[.pointer (some ⟨X,0,none⟩),.bool true] W fun e w'=>e=.returned (.tuple #[])∧PW w'):=hide fun W hWW=>by
         rw [hPW] at hWW ⊢
         rcases hWW with rfl | ⟨T9,C9,L9⟩
         · exact unhide HMk _ (Below.refl _ _).drew _
         · refine (T9.must _).mono ?_
           rintro e w' ⟨rfl,T8,k8,f8⟩;exact ⟨rfl,T8.imp (by simp) (fun _=>rfl) (Nat.le_refl _),unhide KC _ _ C9 k8,unhide KH _ _ L9 k8⟩
        have HFX:Hid (∀W,(W=wl.drew∨PW W)→W.cell? ⟨wr.heap.size,3,none⟩=some (.int .i64 0)∧W.cell? ⟨X,0,none⟩=some (.slice p.a p.n p.c)):=hide fun W hWW=>by
         rw [hPW] at hWW;have key:(∃b bd,Gw X B p b bd W)∧HH W∧Below wo.heap.size wo W:=by
          rcases hWW with rfl | ⟨T9,C9,L9⟩
          · exact unhide HGL
          · obtain ⟨b9,g9,_⟩:=T9.gw
            exact ⟨⟨_,_,g9⟩,L9,T9.came⟩
         obtain ⟨⟨b8,bd8,g8⟩,L8,came8⟩:=key;obtain ⟨_,_,x8,_⟩:=g8.blk;have x9:W.cell? ⟨X,0,none⟩=some (.slice p.a p.n p.c):=bx_cell x8 0 _ rfl;exact ⟨(unhide KHI W L8).2.2.2,x9⟩
        have HPW:=hide hPW;clear hPW
        refine wp_region_tells (fun u v=>v=u∨PW v) [
         (fun v W=>v=(.pointer (some ⟨X,0,none⟩):Value)),
         (fun v W=>v=(.pointer (some ⟨wr.heap.size,3,none⟩):Value)),
         (fun v W=>v=(.int .i64 0:Value)),
         (fun v W=>v=(.bool true:Value)),
         (fun v W=>v=(.bool true:Value)),
         (fun v W=>v=(undef:Value)),
         (fun v W=>v=(undef:Value)),
         (fun v W=>v=(undef:Value)),
         (fun v W=>v=(undef:Value)),
         (fun v W=>v=(undef:Value)),
         (fun v W=>v=(undef:Value)),
         (fun v W=>v=(undef:Value)),
         (fun v W=>v=(undef:Value)),
         (fun v W=>v=(undef:Value)),
         (fun v W=>v=(undef:Value)),
         (fun v W=>v=(undef:Value)),
         (fun v W=>v=(undef:Value)),
         (fun v W=>v=(undef:Value)),
         (fun v W=>v=(undef:Value)),
         (fun v W=>v=(undef:Value)),
         (fun v W=>v=(undef:Value)),
         (fun v W=>v=(undef:Value)),
         (fun v W=>v=(undef:Value)),
         (fun v W=>v=(undef:Value)),
         (fun v W=>v=(undef:Value)),
         (fun v W=>v=(undef:Value)),
         (fun v W=>v=(undef:Value)),
         (fun v W=>v=(undef:Value)),
         (fun v W=>v=(undef:Value)),
         (fun v W=>v=(undef:Value)),
         (fun v W=>v=(.bool true:Value)),
         (fun v W=>PW W)] 235
         [[],[],[(1,some 96)],[(2,some 97)],[(3,some 98)],[(4,some 99)],[(4,some 99),(5,some 100)],[(4,some 99),(6,some 101)],[(4,some 99),(7,some 102)],[(8,some 103)],[(8,some 103),(9,some 104)],[(8,some 103)],[(8,some 103),(11,some 106)],[(8,some 103),(12,some 107)],[(8,some 103),(13,some 108)],[(8,some 103),(14,some 109)],[(8,some 103),(10,some 105),(15,some 110)],[(4,some 99),(8,some 103),(16,some 111)],[(4,some 99),(17,some 112)],[(18,some 113)],[(18,some 113),(19,some 114)],[(18,some 113),(20,some 115)],[(18,some 113),(21,some 116)],[(18,some 113)],[(18,some 113),(23,some 118)],[(18,some 113),(22,some 117),(24,some 119)],[(18,some 113),(25,some 120)],[(18,some 113),(26,some 121)],[(18,some 113),(27,some 122)],[(4,some 99),(18,some 113),(28,some 123)],[(4,some 99),(29,some 124)],[(0,some 95),(30,some 125)]]
         [(0,some 95),(1,some 96),(2,some 97),(3,some 98),(4,some 99),(5,some 100),(6,some 101),(7,some 102),(8,some 103),(9,some 104),(10,some 105),(11,some 106),(12,some 107),(13,some 108),(14,some 109),(15,some 110),(16,some 111),(17,some 112),(18,some 113),(19,some 114),(20,some 115),(21,some 116),(22,some 117),(23,some 118),(24,some 119),(25,some 120),(26,some 121),(27,some 122),(28,some 123),(29,some 124),(30,some 125),(31,some 126)]
         (by kernel_rfl) (by kernel_rfl) rfl (fun _=>.inl rfl) (fun u v z h1 h2=>h2.elim (fun e=>e▸h1) .inr) ?_ ?_ ?_
        · intro r hr
          simp only [List.mem_cons,List.not_mem_nil,or_false] at hr
          rcases hr with rfl | rfl | rfl | rfl | rfl | rfl | rfl | rfl | rfl | rfl | rfl | rfl | rfl | rfl | rfl | rfl | rfl | rfl | rfl | rfl | rfl | rfl | rfl | rfl | rfl | rfl | rfl | rfl | rfl | rfl | rfl | rfl
          all_goals first | exact fun v W W2 h _=>h | exact fun v W W2 h f=>f.elim (fun e=>e▸h) id
        · refine ⟨?_,?_,?_,?_,?_,?_,?_,?_,?_,?_,?_,?_,?_,?_,?_,?_,?_,?_,?_,?_,?_,?_,?_,?_,?_,?_,?_,?_,?_,?_,?_,?_,trivial⟩
          rotate_right
          · intro W hG
            simp only [ForDeps,rAt];rintro _ rfl _ rfl;simp only [Act.put,List.setIfInBounds_toArray,List.set_cons_zero,List.set_cons_succ];refine Tells.does (by rfl) (fun K hK=>?_);go_simp
            go_wp2_with (go_at_call 29;refine (unhide HMP W hG).mono ?_;rintro e w9 ⟨rfl,h9⟩)
            exact hK.out _ _ (.inr h9) h9
          all_goals
           intro W hG;simp only [ForDeps,rAt]
           repeat rintro _ rfl
           try simp only [Act.put,List.setIfInBounds_toArray,List.set_cons_zero,List.set_cons_succ]
           first | exact Tells.skips (by rfl) rfl | skip
           all_goals
            obtain ⟨y1,y2⟩:=unhide HFX W hG;refine Tells.yields (v:=?_) (by rfl) (.inl rfl) ?_ ?_
            rotate_left
            focus ((go_simp) <;> with_reducible rfl)
            exact rfl
        · intro W hG
          simp only [ForDeps,rAt];intro x0 h0 x1 h1 x2 h2 x3 h3 x4 h4 x5 h5 x6 h6 x7 h7 x8 h8 x9 h9 x10 h10 x11 h11 x12 h12 x13 h13 x14 h14 x15 h15 x16 h16 x17 h17 x18 h18 x19 h19 x20 h20 x21 h21 x22 h22 x23 h23 x24 h24 x25 h25 x26 h26 x27 h27 x28 h28 x29 h29 x30 h30 x31 h31;simp only [Act.put,List.setIfInBounds_toArray,List.set_cons_zero,List.set_cons_succ];have HF:=hide h31;clear h0 h1 h2 h3 h4 h5 h6 h7 h8 h9 h10 h11 h12 h13 h14 h15 h16 h17 h18 h19 h20 h21 h22 h23 h24 h25 h26 h27 h28 h29 h30;go_wp2;go_meet;have h9:=unhide HF;rw [unhide HPW] at h9;exact h9
     · have z0b:(cls==0)=false:=by simpa using z0
       by_cases z1:0<cls
       · have z1b:decide (0<cls)=true:=decide_eq_true z1
         by_cases z2:cls<(p.n:Int)
         · have z2b:decide (cls<(p.n:Int))=true:=decide_eq_true z2
           obtain ⟨kc,rfl⟩:∃kc:Nat,cls=kc:=⟨cls.toNat,by omega⟩;obtain ⟨b9,o9,hpa,hE⟩:=hes.2.resolve_left (by omega);have hc0:(0:Int)≤(kc:Int):=by omega
           have z1c:decide (0<kc)=true:=decide_eq_true (by omega);rw [hpa] at x0
           by_cases z3:tagE l (kc:Int)=7
           · obtain rfl:okC=true:=(unhide HOC).trans (decide_eq_true (.inr ⟨z1,by omega,z3⟩))
             unfold tagE at z3
             as_aux_lemma=>
              obtain ⟨PW,hPW⟩:∃PW:World→Prop,PW=fun W=>Wr wo w X B p b0 W (okk&&true) bsk (10+bn+8*k)∧CB W∧HH W:=⟨_,rfl⟩
              have HMP:Hid (∀W,(W=wl.drew∨PW W)→Calls Tryz.prog 29 #[.pointer (some ⟨X,0,none⟩),.bool true] W fun e w'=>e=.returned (.tuple #[])∧PW w'):=hide fun W hWW=>by
               rw [hPW] at hWW ⊢
               rcases hWW with rfl | ⟨T9,C9,L9⟩
               · exact unhide HMk _ (Below.refl _ _).drew _
               · refine (T9.must _).mono ?_
                 rintro e w' ⟨rfl,T8,k8,f8⟩;exact ⟨rfl,T8.imp (by simp) (fun _=>rfl) (Nat.le_refl _),unhide KC _ _ C9 k8,unhide KH _ _ L9 k8⟩
              have HFX:Hid (∀W,(W=wl.drew∨PW W)→W.cell? ⟨wr.heap.size,3,none⟩=some (.int .i64 (kc:Int))∧W.cell? ⟨X,0,none⟩=some (.slice (some ⟨b9,o9,none⟩) p.n p.c)∧W.cell? ⟨b9,o9+kc*5,none⟩=some (.int .i64 7)):=hide fun W hWW=>by
               rw [hPW] at hWW;have key:(∃b bd,Gw X B p b bd W)∧HH W∧Below wo.heap.size wo W:=by
                rcases hWW with rfl | ⟨T9,C9,L9⟩
                · exact unhide HGL
                · obtain ⟨b9,g9,_⟩:=T9.gw
                  exact ⟨⟨_,_,g9⟩,L9,T9.came⟩
               obtain ⟨⟨b8,bd8,g8⟩,L8,came8⟩:=key;obtain ⟨_,_,x8,_⟩:=g8.blk;have x9:W.cell? ⟨X,0,none⟩=some (.slice p.a p.n p.c):=bx_cell x8 0 _ rfl;rw [hpa] at x9;obtain ⟨bb9,oo9,hpa9,hE9⟩:=((unhide HG).es came8).2.resolve_left (by omega);rw [hpa] at hpa9;injection hpa9 with hpa9
               injection hpa9 with e1 e2
               subst e1 e2;obtain ⟨q9,_,_,_,_⟩:=ents_at hE9 (k:=kc) (by omega);rw [z3] at q9;exact ⟨(unhide KHI W L8).2.2.2,x9,q9⟩
              have HPW:=hide hPW;clear hPW
              refine wp_region_tells (fun u v=>v=u∨PW v) [
               (fun v W=>v=(.pointer (some ⟨X,0,none⟩):Value)),
               (fun v W=>v=(.pointer (some ⟨wr.heap.size,3,none⟩):Value)),
               (fun v W=>v=(.int .i64 (kc:Int):Value)),
               (fun v W=>v=(.bool false:Value)),
               (fun v W=>v=(.bool false:Value)),
               (fun v W=>v=(.pointer (some ⟨wr.heap.size,3,none⟩):Value)),
               (fun v W=>v=(.int .i64 (kc:Int):Value)),
               (fun v W=>v=(.bool true:Value)),
               (fun v W=>v=(.bool true:Value)),
               (fun v W=>v=(.pointer (some ⟨wr.heap.size,3,none⟩):Value)),
               (fun v W=>v=(.int .i64 (kc:Int):Value)),
               (fun v W=>v=(.pointer (some ⟨X,0,none⟩):Value)),
               (fun v W=>v=(.pointer (some ⟨X,0,none⟩):Value)),
               (fun v W=>v=(.pointer (some ⟨X,0,none⟩):Value)),
               (fun v W=>v=(.slice (some ⟨b9,o9,none⟩) p.n p.c:Value)),
               (fun v W=>v=(.int .i64 (p.n:Int):Value)),
               (fun v W=>v=(.bool true:Value)),
               (fun v W=>v=(.bool true:Value)),
               (fun v W=>v=(.bool true:Value)),
               (fun v W=>v=(.pointer (some ⟨X,0,none⟩):Value)),
               (fun v W=>v=(.pointer (some ⟨X,0,none⟩):Value)),
               (fun v W=>v=(.pointer (some ⟨X,0,none⟩):Value)),
               (fun v W=>v=(.slice (some ⟨b9,o9,none⟩) p.n p.c:Value)),
               (fun v W=>v=(.pointer (some ⟨wr.heap.size,3,none⟩):Value)),
               (fun v W=>v=(.int .i64 (kc:Int):Value)),
               (fun v W=>v=(.pointer (some ⟨b9,o9+kc*5,none⟩):Value)),
               (fun v W=>v=(.pointer (some ⟨b9,o9+kc*5,none⟩):Value)),
               (fun v W=>v=(.int .i64 7:Value)),
               (fun v W=>v=(.bool true:Value)),
               (fun v W=>v=(.bool true:Value)),
               (fun v W=>v=(.bool true:Value)),
               (fun v W=>PW W)] 235
               [[],[],[(1,some 96)],[(2,some 97)],[(3,some 98)],[(4,some 99)],[(4,some 99),(5,some 100)],[(4,some 99),(6,some 101)],[(4,some 99),(7,some 102)],[(8,some 103)],[(8,some 103),(9,some 104)],[(8,some 103)],[(8,some 103),(11,some 106)],[(8,some 103),(12,some 107)],[(8,some 103),(13,some 108)],[(8,some 103),(14,some 109)],[(8,some 103),(10,some 105),(15,some 110)],[(4,some 99),(8,some 103),(16,some 111)],[(4,some 99),(17,some 112)],[(18,some 113)],[(18,some 113),(19,some 114)],[(18,some 113),(20,some 115)],[(18,some 113),(21,some 116)],[(18,some 113)],[(18,some 113),(23,some 118)],[(18,some 113),(22,some 117),(24,some 119)],[(18,some 113),(25,some 120)],[(18,some 113),(26,some 121)],[(18,some 113),(27,some 122)],[(4,some 99),(18,some 113),(28,some 123)],[(4,some 99),(29,some 124)],[(0,some 95),(30,some 125)]]
               [(0,some 95),(1,some 96),(2,some 97),(3,some 98),(4,some 99),(5,some 100),(6,some 101),(7,some 102),(8,some 103),(9,some 104),(10,some 105),(11,some 106),(12,some 107),(13,some 108),(14,some 109),(15,some 110),(16,some 111),(17,some 112),(18,some 113),(19,some 114),(20,some 115),(21,some 116),(22,some 117),(23,some 118),(24,some 119),(25,some 120),(26,some 121),(27,some 122),(28,some 123),(29,some 124),(30,some 125),(31,some 126)]
               (by kernel_rfl) (by kernel_rfl) rfl (fun _=>.inl rfl) (fun u v z h1 h2=>h2.elim (fun e=>e▸h1) .inr) ?_ ?_ ?_
              · intro r hr
                simp only [List.mem_cons,List.not_mem_nil,or_false] at hr
                rcases hr with rfl | rfl | rfl | rfl | rfl | rfl | rfl | rfl | rfl | rfl | rfl | rfl | rfl | rfl | rfl | rfl | rfl | rfl | rfl | rfl | rfl | rfl | rfl | rfl | rfl | rfl | rfl | rfl | rfl | rfl | rfl | rfl
                all_goals first | exact fun v W W2 h _=>h | exact fun v W W2 h f=>f.elim (fun e=>e▸h) id
              · refine ⟨?_,?_,?_,?_,?_,?_,?_,?_,?_,?_,?_,?_,?_,?_,?_,?_,?_,?_,?_,?_,?_,?_,?_,?_,?_,?_,?_,?_,?_,?_,?_,?_,trivial⟩
                rotate_right
                · intro W hG
                  simp only [ForDeps,rAt];rintro _ rfl _ rfl;simp only [Act.put,List.setIfInBounds_toArray,List.set_cons_zero,List.set_cons_succ];refine Tells.does (by rfl) (fun K hK=>?_);go_simp
                  go_wp2_with (go_at_call 29;refine (unhide HMP W hG).mono ?_;rintro e w9 ⟨rfl,h9⟩)
                  exact hK.out _ _ (.inr h9) h9
                all_goals
                 intro W hG;simp only [ForDeps,rAt]
                 repeat rintro _ rfl
                 try simp only [Act.put,List.setIfInBounds_toArray,List.set_cons_zero,List.set_cons_succ]
                 first | exact Tells.skips (by rfl) rfl | skip
                 all_goals
                  obtain ⟨y1,y2,y3⟩:=unhide HFX W hG;refine Tells.yields (v:=?_) (by rfl) (.inl rfl) ?_ ?_
                  rotate_left
                  focus ((go_simp) <;> with_reducible rfl)
                  exact rfl
              · intro W hG
                simp only [ForDeps,rAt];intro x0 h0 x1 h1 x2 h2 x3 h3 x4 h4 x5 h5 x6 h6 x7 h7 x8 h8 x9 h9 x10 h10 x11 h11 x12 h12 x13 h13 x14 h14 x15 h15 x16 h16 x17 h17 x18 h18 x19 h19 x20 h20 x21 h21 x22 h22 x23 h23 x24 h24 x25 h25 x26 h26 x27 h27 x28 h28 x29 h29 x30 h30 x31 h31;simp only [Act.put,List.setIfInBounds_toArray,List.set_cons_zero,List.set_cons_succ];have HF:=hide h31;clear h0 h1 h2 h3 h4 h5 h6 h7 h8 h9 h10 h11 h12 h13 h14 h15 h16 h17 h18 h19 h20 h21 h22 h23 h24 h25 h26 h27 h28 h29 h30;go_wp2;go_meet;have h9:=unhide HF;rw [unhide HPW] at h9;exact h9
           · obtain rfl:okC=false:=(unhide HOC).trans (decide_eq_false (by rintro (h | ⟨_,_,h⟩);exact z0 h;exact z3 h))
             have z3b:((atE l (kc:Int)).tag==7)=false:=by unfold tagE at z3;simpa using z3
             as_aux_lemma=>
              obtain ⟨PW,hPW⟩:∃PW:World→Prop,PW=fun W=>Wr wo w X B p b0 W (okk&&false) bsk (10+bn+8*k)∧CB W∧HH W:=⟨_,rfl⟩
              have HMP:Hid (∀W,(W=wl.drew∨PW W)→Calls Tryz.prog 29 #[.pointer (some ⟨X,0,none⟩),.bool false] W fun e w'=>e=.returned (.tuple #[])∧PW w'):=hide fun W hWW=>by
               rw [hPW] at hWW ⊢
               rcases hWW with rfl | ⟨T9,C9,L9⟩
               · exact unhide HMk _ (Below.refl _ _).drew _
               · refine (T9.must _).mono ?_
                 rintro e w' ⟨rfl,T8,k8,f8⟩;exact ⟨rfl,T8.imp (by simp) (fun _=>rfl) (Nat.le_refl _),unhide KC _ _ C9 k8,unhide KH _ _ L9 k8⟩
              have HFX:Hid (∀W,(W=wl.drew∨PW W)→W.cell? ⟨wr.heap.size,3,none⟩=some (.int .i64 (kc:Int))∧W.cell? ⟨X,0,none⟩=some (.slice (some ⟨b9,o9,none⟩) p.n p.c)∧W.cell? ⟨b9,o9+kc*5,none⟩=some (.int .i64 (atE l (kc:Int)).tag)):=hide fun W hWW=>by
               rw [hPW] at hWW;have key:(∃b bd,Gw X B p b bd W)∧HH W∧Below wo.heap.size wo W:=by
                rcases hWW with rfl | ⟨T9,C9,L9⟩
                · exact unhide HGL
                · obtain ⟨b9,g9,_⟩:=T9.gw
                  exact ⟨⟨_,_,g9⟩,L9,T9.came⟩
               obtain ⟨⟨b8,bd8,g8⟩,L8,came8⟩:=key;obtain ⟨_,_,x8,_⟩:=g8.blk;have x9:W.cell? ⟨X,0,none⟩=some (.slice p.a p.n p.c):=bx_cell x8 0 _ rfl;rw [hpa] at x9;obtain ⟨bb9,oo9,hpa9,hE9⟩:=((unhide HG).es came8).2.resolve_left (by omega);rw [hpa] at hpa9;injection hpa9 with hpa9
               injection hpa9 with e1 e2
               subst e1 e2;obtain ⟨q9,_,_,_,_⟩:=ents_at hE9 (k:=kc) (by omega);exact ⟨(unhide KHI W L8).2.2.2,x9,q9⟩
              have HPW:=hide hPW;clear hPW
              refine wp_region_tells (fun u v=>v=u∨PW v) [
               (fun v W=>v=(.pointer (some ⟨X,0,none⟩):Value)),
               (fun v W=>v=(.pointer (some ⟨wr.heap.size,3,none⟩):Value)),
               (fun v W=>v=(.int .i64 (kc:Int):Value)),
               (fun v W=>v=(.bool false:Value)),
               (fun v W=>v=(.bool false:Value)),
               (fun v W=>v=(.pointer (some ⟨wr.heap.size,3,none⟩):Value)),
               (fun v W=>v=(.int .i64 (kc:Int):Value)),
               (fun v W=>v=(.bool true:Value)),
               (fun v W=>v=(.bool true:Value)),
               (fun v W=>v=(.pointer (some ⟨wr.heap.size,3,none⟩):Value)),
               (fun v W=>v=(.int .i64 (kc:Int):Value)),
               (fun v W=>v=(.pointer (some ⟨X,0,none⟩):Value)),
               (fun v W=>v=(.pointer (some ⟨X,0,none⟩):Value)),
               (fun v W=>v=(.pointer (some ⟨X,0,none⟩):Value)),
               (fun v W=>v=(.slice (some ⟨b9,o9,none⟩) p.n p.c:Value)),
               (fun v W=>v=(.int .i64 (p.n:Int):Value)),
               (fun v W=>v=(.bool true:Value)),
               (fun v W=>v=(.bool true:Value)),
               (fun v W=>v=(.bool true:Value)),
               (fun v W=>v=(.pointer (some ⟨X,0,none⟩):Value)),
               (fun v W=>v=(.pointer (some ⟨X,0,none⟩):Value)),
               (fun v W=>v=(.pointer (some ⟨X,0,none⟩):Value)),
               (fun v W=>v=(.slice (some ⟨b9,o9,none⟩) p.n p.c:Value)),
               (fun v W=>v=(.pointer (some ⟨wr.heap.size,3,none⟩):Value)),
               (fun v W=>v=(.int .i64 (kc:Int):Value)),
               (fun v W=>v=(.pointer (some ⟨b9,o9+kc*5,none⟩):Value)),
               (fun v W=>v=(.pointer (some ⟨b9,o9+kc*5,none⟩):Value)),
               (fun v W=>v=(.int .i64 (atE l (kc:Int)).tag:Value)),
               (fun v W=>v=(.bool false:Value)),
               (fun v W=>v=(.bool false:Value)),
               (fun v W=>v=(.bool false:Value)),
               (fun v W=>PW W)] 235
               [[],[],[(1,some 96)],[(2,some 97)],[(3,some 98)],[(4,some 99)],[(4,some 99),(5,some 100)],[(4,some 99),(6,some 101)],[(4,some 99),(7,some 102)],[(8,some 103)],[(8,some 103),(9,some 104)],[(8,some 103)],[(8,some 103),(11,some 106)],[(8,some 103),(12,some 107)],[(8,some 103),(13,some 108)],[(8,some 103),(14,some 109)],[(8,some 103),(10,some 105),(15,some 110)],[(4,some 99),(8,some 103),(16,some 111)],[(4,some 99),(17,some 112)],[(18,some 113)],[(18,some 113),(19,some 114)],[(18,some 113),(20,some 115)],[(18,some 113),(21,some 116)],[(18,some 113)],[(18,some 113),(23,some 118)],[(18,some 113),(22,some 117),(24,some 119)],[(18,some 113),(25,some 120)],[(18,some 113),(26,some 121)],[(18,some 113),(27,some 122)],[(4,some 99),(18,some 113),(28,some 123)],[(4,some 99),(29,some 124)],[(0,some 95),(30,some 125)]]
               [(0,some 95),(1,some 96),(2,some 97),(3,some 98),(4,some 99),(5,some 100),(6,some 101),(7,some 102),(8,some 103),(9,some 104),(10,some 105),(11,some 106),(12,some 107),(13,some 108),(14,some 109),(15,some 110),(16,some 111),(17,some 112),(18,some 113),(19,some 114),(20,some 115),(21,some 116),(22,some 117),(23,some 118),(24,some 119),(25,some 120),(26,some 121),(27,some 122),(28,some 123),(29,some 124),(30,some 125),(31,some 126)]
               (by kernel_rfl) (by kernel_rfl) rfl (fun _=>.inl rfl) (fun u v z h1 h2=>h2.elim (fun e=>e▸h1) .inr) ?_ ?_ ?_
              · intro r hr
                simp only [List.mem_cons,List.not_mem_nil,or_false] at hr
                rcases hr with rfl | rfl | rfl | rfl | rfl | rfl | rfl | rfl | rfl | rfl | rfl | rfl | rfl | rfl | rfl | rfl | rfl | rfl | rfl | rfl | rfl | rfl | rfl | rfl | rfl | rfl | rfl | rfl | rfl | rfl | rfl | rfl
                all_goals first | exact fun v W W2 h _=>h | exact fun v W W2 h f=>f.elim (fun e=>e▸h) id
              · refine ⟨?_,?_,?_,?_,?_,?_,?_,?_,?_,?_,?_,?_,?_,?_,?_,?_,?_,?_,?_,?_,?_,?_,?_,?_,?_,?_,?_,?_,?_,?_,?_,?_,trivial⟩
                rotate_right
                · intro W hG
                  simp only [ForDeps,rAt];rintro _ rfl _ rfl;simp only [Act.put,List.setIfInBounds_toArray,List.set_cons_zero,List.set_cons_succ];refine Tells.does (by rfl) (fun K hK=>?_);go_simp
                  go_wp2_with (go_at_call 29;refine (unhide HMP W hG).mono ?_;rintro e w9 ⟨rfl,h9⟩)
                  exact hK.out _ _ (.inr h9) h9
                all_goals
                 intro W hG;simp only [ForDeps,rAt]
                 repeat rintro _ rfl
                 try simp only [Act.put,List.setIfInBounds_toArray,List.set_cons_zero,List.set_cons_succ]
                 first | exact Tells.skips (by rfl) rfl | skip
                 all_goals
                  obtain ⟨y1,y2,y3⟩:=unhide HFX W hG;refine Tells.yields (v:=?_) (by rfl) (.inl rfl) ?_ ?_
                  rotate_left
                  focus ((go_simp) <;> with_reducible rfl)
                  exact rfl
              · intro W hG
                simp only [ForDeps,rAt];intro x0 h0 x1 h1 x2 h2 x3 h3 x4 h4 x5 h5 x6 h6 x7 h7 x8 h8 x9 h9 x10 h10 x11 h11 x12 h12 x13 h13 x14 h14 x15 h15 x16 h16 x17 h17 x18 h18 x19 h19 x20 h20 x21 h21 x22 h22 x23 h23 x24 h24 x25 h25 x26 h26 x27 h27 x28 h28 x29 h29 x30 h30 x31 h31;simp only [Act.put,List.setIfInBounds_toArray,List.set_cons_zero,List.set_cons_succ];have HF:=hide h31;clear h0 h1 h2 h3 h4 h5 h6 h7 h8 h9 h10 h11 h12 h13 h14 h15 h16 h17 h18 h19 h20 h21 h22 h23 h24 h25 h26 h27 h28 h29 h30;go_wp2;go_meet;have h9:=unhide HF;rw [unhide HPW] at h9;exact h9
         · have z2b:decide (cls<(p.n:Int))=false:=decide_eq_false z2
           obtain rfl:okC=false:=(unhide HOC).trans (decide_eq_false (by rintro (h | ⟨_,h,_⟩);exact z0 h;exact z2 (by omega)))
           as_aux_lemma=>
            obtain ⟨PW,hPW⟩:∃PW:World→Prop,PW=fun W=>Wr wo w X B p b0 W (okk&&false) bsk (10+bn+8*k)∧CB W∧HH W:=⟨_,rfl⟩
            have HMP:Hid (∀W,(W=wl.drew∨PW W)→Calls Tryz.prog 29 #[.pointer (some ⟨X,0,none⟩),.bool false] W fun e w'=>e=.returned (.tuple #[])∧PW w'):=hide fun W hWW=>by
             rw [hPW] at hWW ⊢
             rcases hWW with rfl | ⟨T9,C9,L9⟩
             · exact unhide HMk _ (Below.refl _ _).drew _
             · refine (T9.must _).mono ?_
               rintro e w' ⟨rfl,T8,k8,f8⟩;exact ⟨rfl,T8.imp (by simp) (fun _=>rfl) (Nat.le_refl _),unhide KC _ _ C9 k8,unhide KH _ _ L9 k8⟩
            have HFX:Hid (∀W,(W=wl.drew∨PW W)→W.cell? ⟨wr.heap.size,3,none⟩=some (.int .i64 cls)∧W.cell? ⟨X,0,none⟩=some (.slice p.a p.n p.c)):=hide fun W hWW=>by
             rw [hPW] at hWW;have key:(∃b bd,Gw X B p b bd W)∧HH W∧Below wo.heap.size wo W:=by
              rcases hWW with rfl | ⟨T9,C9,L9⟩
              · exact unhide HGL
              · obtain ⟨b9,g9,_⟩:=T9.gw
                exact ⟨⟨_,_,g9⟩,L9,T9.came⟩
             obtain ⟨⟨b8,bd8,g8⟩,L8,came8⟩:=key;obtain ⟨_,_,x8,_⟩:=g8.blk;have x9:W.cell? ⟨X,0,none⟩=some (.slice p.a p.n p.c):=bx_cell x8 0 _ rfl;exact ⟨(unhide KHI W L8).2.2.2,x9⟩
            have HPW:=hide hPW;clear hPW
            refine wp_region_tells (fun u v=>v=u∨PW v) [
             (fun v W=>v=(.pointer (some ⟨X,0,none⟩):Value)),
             (fun v W=>v=(.pointer (some ⟨wr.heap.size,3,none⟩):Value)),
             (fun v W=>v=(.int .i64 cls:Value)),
             (fun v W=>v=(.bool false:Value)),
             (fun v W=>v=(.bool false:Value)),
             (fun v W=>v=(.pointer (some ⟨wr.heap.size,3,none⟩):Value)),
             (fun v W=>v=(.int .i64 cls:Value)),
             (fun v W=>v=(.bool true:Value)),
             (fun v W=>v=(.bool true:Value)),
             (fun v W=>v=(.pointer (some ⟨wr.heap.size,3,none⟩):Value)),
             (fun v W=>v=(.int .i64 cls:Value)),
             (fun v W=>v=(.pointer (some ⟨X,0,none⟩):Value)),
             (fun v W=>v=(.pointer (some ⟨X,0,none⟩):Value)),
             (fun v W=>v=(.pointer (some ⟨X,0,none⟩):Value)),
             (fun v W=>v=(.slice p.a p.n p.c:Value)),
             (fun v W=>v=(.int .i64 (p.n:Int):Value)),
             (fun v W=>v=(.bool false:Value)),
             (fun v W=>v=(.bool false:Value)),
             (fun v W=>v=(.bool false:Value)),
             (fun v W=>v=(undef:Value)),
             (fun v W=>v=(undef:Value)),
             (fun v W=>v=(undef:Value)),
             (fun v W=>v=(undef:Value)),
             (fun v W=>v=(undef:Value)),
             (fun v W=>v=(undef:Value)),
             (fun v W=>v=(undef:Value)),
             (fun v W=>v=(undef:Value)),
             (fun v W=>v=(undef:Value)),
             (fun v W=>v=(undef:Value)),
             (fun v W=>v=(.bool false:Value)),
             (fun v W=>v=(.bool false:Value)),
             (fun v W=>PW W)] 235
             [[],[],[(1,some 96)],[(2,some 97)],[(3,some 98)],[(4,some 99)],[(4,some 99),(5,some 100)],[(4,some 99),(6,some 101)],[(4,some 99),(7,some 102)],[(8,some 103)],[(8,some 103),(9,some 104)],[(8,some 103)],[(8,some 103),(11,some 106)],[(8,some 103),(12,some 107)],[(8,some 103),(13,some 108)],[(8,some 103),(14,some 109)],[(8,some 103),(10,some 105),(15,some 110)],[(4,some 99),(8,some 103),(16,some 111)],[(4,some 99),(17,some 112)],[(18,some 113)],[(18,some 113),(19,some 114)],[(18,some 113),(20,some 115)],[(18,some 113),(21,some 116)],[(18,some 113)],[(18,some 113),(23,some 118)],[(18,some 113),(22,some 117),(24,some 119)],[(18,some 113),(25,some 120)],[(18,some 113),(26,some 121)],[(18,some 113),(27,some 122)],[(4,some 99),(18,some 113),(28,some 123)],[(4,some 99),(29,some 124)],[(0,some 95),(30,some 125)]]
             [(0,some 95),(1,some 96),(2,some 97),(3,some 98),(4,some 99),(5,some 100),(6,some 101),(7,some 102),(8,some 103),(9,some 104),(10,some 105),(11,some 106),(12,some 107),(13,some 108),(14,some 109),(15,some 110),(16,some 111),(17,some 112),(18,some 113),(19,some 114),(20,some 115),(21,some 116),(22,some 117),(23,some 118),(24,some 119),(25,some 120),(26,some 121),(27,some 122),(28,some 123),(29,some 124),(30,some 125),(31,some 126)]
             (by kernel_rfl) (by kernel_rfl) rfl (fun _=>.inl rfl) (fun u v z h1 h2=>h2.elim (fun e=>e▸h1) .inr) ?_ ?_ ?_
            · intro r hr
              simp only [List.mem_cons,List.not_mem_nil,or_false] at hr
              rcases hr with rfl | rfl | rfl | rfl | rfl | rfl | rfl | rfl | rfl | rfl | rfl | rfl | rfl | rfl | rfl | rfl | rfl | rfl | rfl | rfl | rfl | rfl | rfl | rfl | rfl | rfl | rfl | rfl | rfl | rfl | rfl | rfl
              all_goals first | exact fun v W W2 h _=>h | exact fun v W W2 h f=>f.elim (fun e=>e▸h) id
            · refine ⟨?_,?_,?_,?_,?_,?_,?_,?_,?_,?_,?_,?_,?_,?_,?_,?_,?_,?_,?_,?_,?_,?_,?_,?_,?_,?_,?_,?_,?_,?_,?_,?_,trivial⟩
              rotate_right
              · intro W hG
                simp only [ForDeps,rAt];rintro _ rfl _ rfl;simp only [Act.put,List.setIfInBounds_toArray,List.set_cons_zero,List.set_cons_succ];refine Tells.does (by rfl) (fun K hK=>?_);go_simp
                go_wp2_with (go_at_call 29;refine (unhide HMP W hG).mono ?_;rintro e w9 ⟨rfl,h9⟩)
                exact hK.out _ _ (.inr h9) h9
              all_goals
               intro W hG;simp only [ForDeps,rAt]
               repeat rintro _ rfl
               try simp only [Act.put,List.setIfInBounds_toArray,List.set_cons_zero,List.set_cons_succ]
               first | exact Tells.skips (by rfl) rfl | skip
               all_goals
                obtain ⟨y1,y2⟩:=unhide HFX W hG;refine Tells.yields (v:=?_) (by rfl) (.inl rfl) ?_ ?_
                rotate_left
                focus ((go_simp) <;> with_reducible rfl)
                exact rfl
            · intro W hG
              simp only [ForDeps,rAt];intro x0 h0 x1 h1 x2 h2 x3 h3 x4 h4 x5 h5 x6 h6 x7 h7 x8 h8 x9 h9 x10 h10 x11 h11 x12 h12 x13 h13 x14 h14 x15 h15 x16 h16 x17 h17 x18 h18 x19 h19 x20 h20 x21 h21 x22 h22 x23 h23 x24 h24 x25 h25 x26 h26 x27 h27 x28 h28 x29 h29 x30 h30 x31 h31;simp only [Act.put,List.setIfInBounds_toArray,List.set_cons_zero,List.set_cons_succ];have HF:=hide h31;clear h0 h1 h2 h3 h4 h5 h6 h7 h8 h9 h10 h11 h12 h13 h14 h15 h16 h17 h18 h19 h20 h21 h22 h23 h24 h25 h26 h27 h28 h29 h30;go_wp2;go_meet;have h9:=unhide HF;rw [unhide HPW] at h9;exact h9
       · have z1b:decide (0<cls)=false:=decide_eq_false z1
         obtain rfl:okC=false:=(unhide HOC).trans (decide_eq_false (by rintro (h | ⟨h,_,_⟩);exact z0 h;exact z1 h))
         as_aux_lemma=>
          obtain ⟨PW,hPW⟩:∃PW:World→Prop,PW=fun W=>Wr wo w X B p b0 W (okk&&false) bsk (10+bn+8*k)∧CB W∧HH W:=⟨_,rfl⟩
          have HMP:Hid (∀W,(W=wl.drew∨PW W)→Calls Tryz.prog 29 #[.pointer (some ⟨X,0,none⟩),.bool false] W fun e w'=>e=.returned (.tuple #[])∧PW w'):=hide fun W hWW=>by
           rw [hPW] at hWW ⊢
           rcases hWW with rfl | ⟨T9,C9,L9⟩
           · exact unhide HMk _ (Below.refl _ _).drew _
           · refine (T9.must _).mono ?_
             rintro e w' ⟨rfl,T8,k8,f8⟩;exact ⟨rfl,T8.imp (by simp) (fun _=>rfl) (Nat.le_refl _),unhide KC _ _ C9 k8,unhide KH _ _ L9 k8⟩
          have HFX:Hid (∀W,(W=wl.drew∨PW W)→W.cell? ⟨wr.heap.size,3,none⟩=some (.int .i64 cls)∧W.cell? ⟨X,0,none⟩=some (.slice p.a p.n p.c)):=hide fun W hWW=>by
           rw [hPW] at hWW;have key:(∃b bd,Gw X B p b bd W)∧HH W∧Below wo.heap.size wo W:=by
            rcases hWW with rfl | ⟨T9,C9,L9⟩
            · exact unhide HGL
            · obtain ⟨b9,g9,_⟩:=T9.gw
              exact ⟨⟨_,_,g9⟩,L9,T9.came⟩
           obtain ⟨⟨b8,bd8,g8⟩,L8,came8⟩:=key;obtain ⟨_,_,x8,_⟩:=g8.blk;have x9:W.cell? ⟨X,0,none⟩=some (.slice p.a p.n p.c):=bx_cell x8 0 _ rfl;exact ⟨(unhide KHI W L8).2.2.2,x9⟩
          have HPW:=hide hPW;clear hPW
          refine wp_region_tells (fun u v=>v=u∨PW v) [
           (fun v W=>v=(.pointer (some ⟨X,0,none⟩):Value)),
           (fun v W=>v=(.pointer (some ⟨wr.heap.size,3,none⟩):Value)),
           (fun v W=>v=(.int .i64 cls:Value)),
           (fun v W=>v=(.bool false:Value)),
           (fun v W=>v=(.bool false:Value)),
           (fun v W=>v=(.pointer (some ⟨wr.heap.size,3,none⟩):Value)),
           (fun v W=>v=(.int .i64 cls:Value)),
           (fun v W=>v=(.bool false:Value)),
           (fun v W=>v=(.bool false:Value)),
           (fun v W=>v=(undef:Value)),
           (fun v W=>v=(undef:Value)),
           (fun v W=>v=(undef:Value)),
           (fun v W=>v=(undef:Value)),
           (fun v W=>v=(undef:Value)),
           (fun v W=>v=(undef:Value)),
           (fun v W=>v=(undef:Value)),
           (fun v W=>v=(undef:Value)),
           (fun v W=>v=(.bool false:Value)),
           (fun v W=>v=(.bool false:Value)),
           (fun v W=>v=(undef:Value)),
           (fun v W=>v=(undef:Value)),
           (fun v W=>v=(undef:Value)),
           (fun v W=>v=(undef:Value)),
           (fun v W=>v=(undef:Value)),
           (fun v W=>v=(undef:Value)),
           (fun v W=>v=(undef:Value)),
           (fun v W=>v=(undef:Value)),
           (fun v W=>v=(undef:Value)),
           (fun v W=>v=(undef:Value)),
           (fun v W=>v=(.bool false:Value)),
           (fun v W=>v=(.bool false:Value)),
           (fun v W=>PW W)] 235
           [[],[],[(1,some 96)],[(2,some 97)],[(3,some 98)],[(4,some 99)],[(4,some 99),(5,some 100)],[(4,some 99),(6,some 101)],[(4,some 99),(7,some 102)],[(8,some 103)],[(8,some 103),(9,some 104)],[(8,some 103)],[(8,some 103),(11,some 106)],[(8,some 103),(12,some 107)],[(8,some 103),(13,some 108)],[(8,some 103),(14,some 109)],[(8,some 103),(10,some 105),(15,some 110)],[(4,some 99),(8,some 103),(16,some 111)],[(4,some 99),(17,some 112)],[(18,some 113)],[(18,some 113),(19,some 114)],[(18,some 113),(20,some 115)],[(18,some 113),(21,some 116)],[(18,some 113)],[(18,some 113),(23,some 118)],[(18,some 113),(22,some 117),(24,some 119)],[(18,some 113),(25,some 120)],[(18,some 113),(26,some 121)],[(18,some 113),(27,some 122)],[(4,some 99),(18,some 113),(28,some 123)],[(4,some 99),(29,some 124)],[(0,some 95),(30,some 125)]]
           [(0,some 95),(1,some 96),(2,some 97),(3,some 98),(4,some 99),(5,some 100),(6,some 101),(7,some 102),(8,some 103),(9,some 104),(10,some 105),(11,some 106),(12,some 107),(13,some 108),(14,some 109),(15,some 110),(16,some 111),(17,some 112),(18,some 113),(19,some 114),(20,some 115),(21,some 116),(22,some 117),(23,some 118),(24,some 119),(25,some 120),(26,some 121),(27,some 122),(28,some 123),(29,some 124),(30,some 125),(31,some 126)]
           (by kernel_rfl) (by kernel_rfl) rfl (fun _=>.inl rfl) (fun u v z h1 h2=>h2.elim (fun e=>e▸h1) .inr) ?_ ?_ ?_
          · intro r hr
            simp only [List.mem_cons,List.not_mem_nil,or_false] at hr
            rcases hr with rfl | rfl | rfl | rfl | rfl | rfl | rfl | rfl | rfl | rfl | rfl | rfl | rfl | rfl | rfl | rfl | rfl | rfl | rfl | rfl | rfl | rfl | rfl | rfl | rfl | rfl | rfl | rfl | rfl | rfl | rfl | rfl
            all_goals first | exact fun v W W2 h _=>h | exact fun v W W2 h f=>f.elim (fun e=>e▸h) id
          · refine ⟨?_,?_,?_,?_,?_,?_,?_,?_,?_,?_,?_,?_,?_,?_,?_,?_,?_,?_,?_,?_,?_,?_,?_,?_,?_,?_,?_,?_,?_,?_,?_,?_,trivial⟩
            rotate_right
            · intro W hG
              simp only [ForDeps,rAt];rintro _ rfl _ rfl;simp only [Act.put,List.setIfInBounds_toArray,List.set_cons_zero,List.set_cons_succ];refine Tells.does (by rfl) (fun K hK=>?_);go_simp
              go_wp2_with (go_at_call 29;refine (unhide HMP W hG).mono ?_;rintro e w9 ⟨rfl,h9⟩)
              exact hK.out _ _ (.inr h9) h9
            all_goals
             intro W hG;simp only [ForDeps,rAt]
             repeat rintro _ rfl
             try simp only [Act.put,List.setIfInBounds_toArray,List.set_cons_zero,List.set_cons_succ]
             first | exact Tells.skips (by rfl) rfl | skip
             all_goals
              obtain ⟨y1,y2⟩:=unhide HFX W hG;refine Tells.yields (v:=?_) (by rfl) (.inl rfl) ?_ ?_
              rotate_left
              focus ((go_simp) <;> with_reducible rfl)
              exact rfl
          · intro W hG
            simp only [ForDeps,rAt];intro x0 h0 x1 h1 x2 h2 x3 h3 x4 h4 x5 h5 x6 h6 x7 h7 x8 h8 x9 h9 x10 h10 x11 h11 x12 h12 x13 h13 x14 h14 x15 h15 x16 h16 x17 h17 x18 h18 x19 h19 x20 h20 x21 h21 x22 h22 x23 h23 x24 h24 x25 h25 x26 h26 x27 h27 x28 h28 x29 h29 x30 h30 x31 h31;simp only [Act.put,List.setIfInBounds_toArray,List.set_cons_zero,List.set_cons_succ];have HF:=hide h31;clear h0 h1 h2 h3 h4 h5 h6 h7 h8 h9 h10 h11 h12 h13 h14 h15 h16 h17 h18 h19 h20 h21 h22 h23 h24 h25 h26 h27 h28 h29 h30;go_wp2;go_meet;have h9:=unhide HF;rw [unhide HPW] at h9;exact h9
    case rest=>
    obtain ⟨T10,C10,L10⟩:=hcut;obtain ⟨i0,i1,i2,i3,i4⟩:=unhide KI wc C10;obtain ⟨j0,j1,j2,j3⟩:=unhide KHI wc L10
    have HC:=hide (T10.u (w1:=wc.alloc (.cells #[.int .i64 frm,.int .i64 to_,.int .i64 at_,.int .i64 cls] 3)) ((Below.refl _ _).alloc (Nat.le_refl _) _) 2 (by omega) [frm,to_,at_,cls] 4 rfl (fun j z hz=>ints_at wc [frm,to_,at_,cls] _ rfl j z hz) (fun z hz=>by
     obtain ⟨q1,q2,q3,q4⟩:=hfit;simp at hz
     rcases hz with rfl | rfl | rfl | rfl <;> assumption) (by omega))
    have HP:=hide (unhide KB _ _ C10 ((Below.refl _ _).alloc (Nat.le_refl _) (.cells #[.int .i64 frm,.int .i64 to_,.int .i64 at_,.int .i64 cls] 3)));clear T10 C10 L10 HMk HGL hes x0 d3 i0 i1 i2 i3 i4 c0 c1 c2 c3;go_wp2_with fail;refine (unhide HC).mono ?_;rintro e w12 ⟨rfl,T12,k12,f12⟩;have C12:=unhide KC _ _ (unhide HP) k12;have htk:hh.take (k+1)=hh.take k++[⟨frm,to_,at_,cls⟩]:=by rw [List.take_add_one,unhide HTK];rfl
    have hfew1:=hfew.1;have T13:Wr wo w X B p b0 w12 (okA&&(hh.take (k+1)).all (rightH l)) (BS9++(hh.take (k+1)).flatMap hdB) (10+bn+8*(k+1)):=T12.imp (by
     rw [htk,List.all_append,←Bool.and_assoc,(unhide HKK).1,Bool.and_assoc]
     congr 1
     rw [unhide HOC];simp only [fitsB,List.all_cons,List.all_nil,Bool.and_true,rightH,in16];rw [Bool.eq_iff_iff];simp only [Bool.and_eq_true,decide_eq_true_eq];have e16:((256^(2:Int).toNat:Nat):Int)=65536:=by decide
     rw [e16];constructor
     · rintro ⟨h1,h2,h3,h4,h5⟩
       exact ⟨⟨⟨h1,by omega⟩,by omega⟩,by omega⟩
     · rintro ⟨⟨⟨h1,h2⟩,h3⟩,h4⟩
       refine ⟨h1,by omega,by omega,by omega,?_⟩
       rcases h1 with h1 | h1 <;> omega) (fun _=>by
     rw [htk,List.flatMap_append,←List.append_assoc,(unhide HKK).2];simp [hdB]) (by show 10+bn+8*k+4*2≤_;omega)
    have HZ:=hide (And.intro T13 C12);clear T12 T13 C12 k12 f12 htk HC HP j0 j1 j2 j3;go_wp2;go_roundw
    case rel=>exact ⟨k+1,by go_num,by omega,(unhide HZ).1,(unhide HZ).2⟩
    case measure=>simp [intOf];omega
  · have hlt1:¬(k:Int)<(hn_:Int):=by omega
    have hkn:k=hn_:=by omega
    rw [hkn,List.take_of_length_le (by omega)] at hT;obtain ⟨okH,hokH⟩:∃okH,(okA&&hh.all (rightH l))=okH:=⟨_,rfl⟩;obtain ⟨BSH,hBSH⟩:∃BSH,BS9++hh.flatMap hdB=BSH:=⟨_,rfl⟩;rw [hokH,hBSH] at hT;have HCB:Hid (codeB l ⟨st,lo,by_,hh,mm⟩=BSH++tableB l mm):=hide (by
     rw [←hBSH,←unhide HB9,←(unhide HOB).2];simp only [codeB,List.flatMap_cons,List.flatMap_nil,List.append_nil,List.nil_append,List.append_assoc,hbn,hhn])
    have HRD:Hid (rightD l ⟨st,lo,by_,hh,mm⟩=(okM&&hh.all (rightH l)&&decide (mm=[]∨utfN l sMaps≠0)&&rightM l (-1) mm)):=hide (by
     unfold rightD;simp only;rw [hbn,hhn,hml,←unhide HOK])
    have HKH:=hide hokH;have HCN:Hid (codeN ⟨st,lo,by_,hh,mm⟩=24+bn+8*hn_+(mm.map fun m=>13+3*(m.loc.length+m.stk.length)).sum):=hide (by
     unfold codeN;simp only;rw [hbn,hhn])
    clear hokH hBSH HFit HLs
    by_cases hm0:mn=0
    · have hm1:((mn:Int)==0)=true:=by simp [hm0]
      have HC:=hide (hT.u (w1:=wr.alloc (.cells #[.int .i64 0] 3)) ((Below.refl _ _).alloc (Nat.le_refl _) _) 2 (by omega) [0] 1 rfl (fun j z hz=>ints_at wr [0] _ rfl j z hz) (fun z hz=>by simp at hz;subst hz;unfold fitI;omega) (by omega));have HP:=hide (unhide KB _ _ hC ((Below.refl _ _).alloc (Nat.le_refl _) (.cells #[.int .i64 0] 3)));clear hT hC;go_wp2_with fail;refine (unhide HC).mono ?_;rintro e w12 ⟨rfl,hT,kk,ff⟩;have hC:=unhide KC _ _ (unhide HP) kk;clear kk ff HC HP i0 i1 i2 i3 i4;obtain ⟨i0,i1,i2,i3,i4⟩:=unhide KI w12 hC;have HZ:=hide hT;clear hT hC i0 i1 i2 i3 i4;go_wp2;go_end0;have hT:=unhide HZ;have hmm:mm=[]:=List.eq_nil_of_length_eq_zero (by omega);refine ⟨rfl,hT.imp ?_ (fun _=>?_) ?_,hT.ks,hT.bel⟩
      · rw [unhide HRD,←unhide HKH,←unhide HOA,hmm]
        simp [fitsB,rightM,Bool.and_assoc]
      · rw [unhide HCB,hmm]
        simp [tableB]
      · rw [unhide HCN]
        show 10+bn+8*hn_+1*2≤_;omega
    · have hm1:((mn:Int)==0)=false:=by simp [hm0]
      have HC:=hide (hT.u (w1:=wr.alloc (.cells #[.int .i64 1] 3)) ((Below.refl _ _).alloc (Nat.le_refl _) _) 2 (by omega) [1] 1 rfl (fun j z hz=>ints_at wr [1] _ rfl j z hz) (fun z hz=>by simp at hz;subst hz;unfold fitI;omega) (by omega));have HP:=hide (unhide KB _ _ hC ((Below.refl _ _).alloc (Nat.le_refl _) (.cells #[.int .i64 1] 3)));clear hT hC;go_wp2_with fail;refine (unhide HC).mono ?_;rintro e w12 ⟨rfl,hT,kk,ff⟩;have hC:=unhide KC _ _ (unhide HP) kk;clear kk ff HC HP i0 i1 i2 i3 i4;obtain ⟨i0,i1,i2,i3,i4⟩:=unhide KI w12 hC;have HC:Hid (Calls Tryz.prog 30 #[.pointer (some ⟨X,0,none⟩),.string ⟨#[83,116,97,99,107,77,97,112,84,97,98,108,101]⟩] w12 (wr_post wo w X B p b0 w12 ((okH&&fitsB 2 [1])&&decide (utfN l sMaps≠0)) ((BSH++[1].flatMap (bytesW 2))++bytesW 2 (utfN l sMaps:Int)) (10+bn+8*hn_+1*(2:Int).toNat+2))):=hide (hT.utf (unhide HG) sMaps (by show b0.length+(10+bn+8*hn_+1*2)≤_;omega));have HP:=hide hC;clear hT hC;go_wp2_with fail;refine (unhide HC).mono ?_;rintro e w13 ⟨rfl,T13,k13,f13⟩;have C13:=unhide KC _ _ (unhide HP) k13;clear k13 f13 HC HP i0 i1 i2 i3 i4;obtain ⟨i0,i1,i2,i3,i4⟩:=unhide KI w13 C13;obtain ⟨bx,g13,hb13,hl13⟩:=T13.gw;obtain ⟨_,_,x13,_⟩:=g13.blk;have x0:w13.cell? ⟨X,0,none⟩=some (.slice p.a p.n p.c):=bx_cell x13 0 _ rfl;obtain ⟨w14,e14,f14,y14⟩:∃w14,w13.alloc (.cells #[.slice p.a p.n p.c,.slice none 0 0,.bool false] 65)=w14∧Below w13.heap.size w13 w14∧w14.heap[w13.heap.size]?=some (.cells #[.slice p.a p.n p.c,.slice none 0 0,.bool false] 65 (0,0)):=⟨_,rfl,(Below.refl _ _).alloc (Nat.le_refl _) _,heap_alloc_new w13 _⟩;have hoY:wo.heap.size≤w13.heap.size:=T13.came.size;have hXY:X<w13.heap.size:=lt_of_heap x13;have hCY:w.heap.size<w13.heap.size:=by
       have h9:=C13;rw [unhide HCBW] at h9;exact lt_of_heap h9
      have I14:Wr wo w14 w13.heap.size w13.heap.size p [] w14 (!false) [] 0:=Wr.start ⟨Nat.le_refl _,none,0,y14,Orw.nil _ _ _ _ _⟩ ((T13.came).trans (f14.mono hoY)) hoY;have C14:=unhide KB _ _ C13 f14;obtain ⟨OK13,hOK13⟩:∃OK13,((okH&&fitsB 2 [1])&&decide (utfN l sMaps≠0))=OK13:=⟨_,rfl⟩;obtain ⟨BS13,hBS13⟩:∃BS13,((BSH++[1].flatMap (bytesW 2))++bytesW 2 (utfN l sMaps:Int))=BS13:=⟨_,rfl⟩;have T13':Wr wo w X B p b0 w13 OK13 BS13 (14+bn+8*hn_):=T13.imp hOK13 (fun _=>hBS13) (by show 10+bn+8*hn_+1*2+2≤_;omega);have HOB13:=hide (And.intro hOK13 hBS13);have HT13:=hide (And.intro T13' f14);clear hOK13 hBS13 T13';clear T13 f14 y14 g13 x13 hb13 hl13 C13;go_upto_region 17 with fail
      generalize hY:w13.heap.size=Y at *;have HY:=hide hY;clear hY;clear x0 e14;have KCY:Hid (∀W W',CB W→Ks Y W W'→CB W'):=hide fun W W' h1 h2=>by
       rw [unhide HCBW] at h1 ⊢;exact h2 _ _ _ (by omega) (by decide) h1
      obtain ⟨i0,i1,i2,i3,i4⟩:=unhide KI w14 C14;have HC:=hide (I14.u (w1:=w14.alloc (.cells #[.int .i64 (mn:Int)] 3)) ((Below.refl _ _).alloc (Nat.le_refl _) _) 2 (by omega) [(mn:Int)] 1 rfl (fun j z hz=>ints_at w14 [(mn:Int)] _ rfl j z hz) (fun z hz=>by simp at hz;subst hz;unfold fitI;omega) (by show 0+0+8*1≤_;omega));have HP:=hide (unhide KB _ _ C14 ((Below.refl _ _).alloc (Nat.le_refl _) (.cells #[.int .i64 (mn:Int)] 3)));clear I14 C14;go_wp2_with fail;refine (unhide HC).mono ?_;rintro e w15 ⟨rfl,I14,kk,ff⟩;have C14:=unhide KCY _ _ (unhide HP) kk;clear kk ff HC HP i0 i1 i2 i3 i4;obtain ⟨i0,i1,i2,i3,i4⟩:=unhide KI w15 C14;obtain ⟨okm,hokm⟩:∃okm,okm=fitsB 2 [(mn:Int)]:=⟨_,rfl⟩;obtain ⟨BM,hBM⟩:∃BM,BM=[(mn:Int)].flatMap (bytesW 2):=⟨_,rfl⟩;have I15:Wr wo w14 Y Y p [] w15 okm BM 2:=I14.imp (by rw [hokm];simp) (fun _=>by rw [hBM];simp) (by show 0+1*2≤_;omega);have HMK:=hide (And.intro hokm hBM);have HI15:=hide (And.intro I15 C14);have HLm:=hide (unhide HR).2.2.1.ls;have HMi:=hide (unhide HR).2.2.1.each;have HMR:=hide (unhide HR).2.2.2.1;have HM6:=hide (unhide HR).2.2.2.2.2.1;have hSt:∀k,((mm.take k).map fun m=>13+3*(m.loc.length+m.stk.length)).sum≤200000:=fun k=>by
       have h8:=(unhide HR).2.2.2.2.2.2;have h9:(mm.map fun m=>13+3*(m.loc.length+m.stk.length)).sum=((mm.take k).map fun m=>13+3*(m.loc.length+m.stk.length)).sum+((mm.drop k).map fun m=>13+3*(m.loc.length+m.stk.length)).sum:=by
        rw [←List.sum_append,←List.map_append,List.take_append_drop]
       omega
      have HST:=hide hSt;clear hokm hBM I14 I15 C14 i0 i1 i2 i3 i4 hSt;go_wp2
      go_loopw [7,8] (fun vl vi wr=>∃(k:Nat) (last:Int),vl=.int .i64 last∧vi=.int .i64 k∧k≤mn∧fitI last∧last=((mm.take k).map Mp.at_).getLast?.getD (-1)∧Wr wo w14 Y Y p [] wr (okm&&rightM l (-1) (mm.take k)) (BM++mpsB l (-1) (mm.take k)) (2+((mm.take k).map fun m=>13+3*(m.loc.length+m.stk.length)).sum)∧CB wr) (fun _ vi _=>mn-(intOf vi).toNat)
      case atStart=>exact ⟨0,-1,rfl,rfl,by omega,by unfold fitI;omega,rfl,by simpa [rightM,mpsB] using (unhide HI15).1,(unhide HI15).2⟩
      case round=>
       obtain ⟨k,last,rfl,rfl,hk,hfl,hla,hT,hC⟩:=hrel;have HLA:=hide hla;clear hla;obtain ⟨i0,i1,i2,i3,i4⟩:=unhide KI wr hC
       by_cases hlt:k<mn
       · have hlt1:(k:Int)<(mn:Int):=by omega
         have hk0:(0:Int)≤(k:Int):=by omega
         obtain ⟨b1,o1,h1a,hr1⟩:=Ls.row (unhide HLm) (w':=wo) (by show mn≠0;omega);subst h1a;have hmrl:mr.length=mn:=(unhide HLm).1;obtain ⟨x,hx⟩:∃x,mr[k]?=some x:=⟨_,List.getElem?_eq_getElem (by omega)⟩;obtain ⟨q,hq⟩:∃q:RowAt wr b1 (o1+k*3) (mpc x),True:=⟨hr1 hT.came k x hx,trivial⟩;have c0:=q.zero;have c1:=q 1 _ rfl;have c2:=q 2 _ rfl;have hxi:=unhide HMi x (List.mem_of_getElem? hx);have hxm:mm[k]?=some x.m:=by rw [unhide HMR,List.getElem?_map,hx];rfl
         have h6:=unhide HM6 x.m (List.mem_of_getElem? hxm);obtain ⟨⟨at_,loc,stk⟩,⟨la,ln,lc⟩,⟨sa,sn,sc⟩⟩:=x;obtain ⟨hfa,hloc,hstk⟩:=hxi;unfold Sl.v at c1 c2;simp only at c0 c1 c2 hxm h6 hfa hloc hstk;have hln:loc.length=ln:=hloc.ls.1;have hsn:stk.length=sn:=hstk.ls.1;have HXM:=hide hxm;obtain ⟨wl,el,fl,ll⟩:∃wl,wr.alloc (.cells #[.int .i64 at_,.slice la ln lc,.slice sa sn sc] 52)=wl∧Below wr.heap.size wr wl∧wl.heap[wr.heap.size]?=some (.cells #[.int .i64 at_,.slice la ln lc,.slice sa sn sc] 52 (0,0)):=⟨_,rfl,(Below.refl _ _).alloc (Nat.le_refl _) _,heap_alloc_new wr _⟩;have Tl:=hT.on fl;have Cl:=unhide KB _ _ hC fl;have hYr:Y<wr.heap.size:=by
          obtain ⟨_,g,_⟩:=hT.gw;exact g.X_lt
         obtain ⟨okC,hokC⟩:∃okC,okC=decide (last<at_∧at_≤65535):=⟨_,rfl⟩;have HOC:=hide hokC;obtain ⟨okk,hokk⟩:∃okk,(okm&&rightM l (-1) (mm.take k))=okk:=⟨_,rfl⟩;obtain ⟨bsk,hbsk⟩:∃bsk,BM++mpsB l (-1) (mm.take k)=bsk:=⟨_,rfl⟩;obtain ⟨nk,hnk⟩:∃nk,2+((mm.take k).map fun m=>13+3*(m.loc.length+m.stk.length)).sum=nk:=⟨_,rfl⟩;have hnk2:nk≤200002:=by have:=unhide HST k;omega
         rw [hokk,hbsk,hnk] at Tl;have HKK:=hide (And.intro hokk (And.intro hbsk hnk));obtain ⟨BB,hBB⟩:∃BB:World→Prop,BB=fun W=>CB W∧W.heap[wr.heap.size]?=some (.cells #[.int .i64 at_,.slice la ln lc,.slice sa sn sc] 52 (0,0)):=⟨_,rfl⟩
         have B0:BB wl:=by rw [hBB];exact ⟨Cl,ll⟩
         have KBC:Hid (∀W,BB W→CB W):=hide fun W h1=>by rw [hBB] at h1;exact h1.1
         have KBB:Hid (∀W W',BB W→Ks Y W W'→BB W'):=hide fun W W' h1 h2=>by
          rw [hBB] at h1 ⊢;exact ⟨unhide KCY _ _ h1.1 h2,h2 _ _ _ (by omega) (by decide) h1.2⟩
         have KBB2:Hid (∀W W',BB W→Below W.heap.size W W'→BB W'):=hide fun W W' h1 h2=>by
          rw [hBB] at h1 ⊢;exact ⟨unhide KB _ _ h1.1 h2,(h2.block _ (lt_of_heap h1.2)).trans h1.2⟩
         have KBI:Hid (∀W,BB W→W.cell? ⟨wr.heap.size,0,none⟩=some (.int .i64 at_)∧W.cell? ⟨wr.heap.size,1,none⟩=some (.slice la ln lc)∧W.cell? ⟨wr.heap.size,2,none⟩=some (.slice sa sn sc)):=hide fun W h1=>by
          rw [hBB] at h1;exact ⟨bx_cell h1.2 0 _ rfl,bx_cell h1.2 1 _ rfl,bx_cell h1.2 2 _ rfl⟩
         have HMk:Hid (∀v,Calls Tryz.prog 29 #[.pointer (some ⟨Y,0,none⟩),.bool v] wl (wr_post wo w14 Y Y p [] wl (okk&&v) bsk nk)):=hide fun v=>Tl.must v
         obtain ⟨m0,m1,m2⟩:=unhide KBI wl B0;have HB0:=hide B0;clear hT hC q hq hokC hokk hbsk hnk hBB ll fl Tl Cl hr1 hx hxm B0;go_upto_region 23 with fail
         go_cut [] from 162 to 207 (fun wx=>Wr wo w14 Y Y p [] wx (okk&&okC) bsk nk∧BB wx)
         case first=>
          by_cases z1:last<at_
          · have z1b:decide (last<at_)=true:=decide_eq_true z1
            by_cases z2:at_≤65535
            · have z2b:decide (at_≤65535)=true:=decide_eq_true z2
              obtain rfl:okC=true:=(unhide HOC).trans (decide_eq_true ⟨z1,z2⟩);go_wp2_with fail;refine (unhide HMk _).mono ?_;rintro e w9 ⟨rfl,T9,k9,f9⟩;have HF:=hide (And.intro T9 (unhide KBB _ _ (unhide HB0) k9));clear T9 k9 f9;go_wp2;go_meet;exact unhide HF
            · have z2b:decide (at_≤65535)=false:=decide_eq_false z2
              obtain rfl:okC=false:=(unhide HOC).trans (decide_eq_false (fun h=>z2 h.2));go_wp2_with fail;refine (unhide HMk _).mono ?_;rintro e w9 ⟨rfl,T9,k9,f9⟩;have HF:=hide (And.intro T9 (unhide KBB _ _ (unhide HB0) k9));clear T9 k9 f9;go_wp2;go_meet;exact unhide HF
          · have z1b:decide (last<at_)=false:=decide_eq_false z1
            obtain rfl:okC=false:=(unhide HOC).trans (decide_eq_false (fun h=>z1 h.1));go_wp2_with fail;refine (unhide HMk _).mono ?_;rintro e w9 ⟨rfl,T9,k9,f9⟩;have HF:=hide (And.intro T9 (unhide KBB _ _ (unhide HB0) k9));clear T9 k9 f9;go_wp2;go_meet;exact unhide HF
         case rest=>
         obtain ⟨T10,B10⟩:=hcut;obtain ⟨m0,m1,m2⟩:=unhide KBI wc B10;clear HMk HB0 c0 c1 c2 i0 i1 i2 i3 i4;have HC:=hide (T10.u (w1:=wc.alloc (.cells #[.int .i64 255] 3)) ((Below.refl _ _).alloc (Nat.le_refl _) _) 1 (by omega) [255] 1 rfl (fun j z hz=>ints_at wc [255] _ rfl j z hz) (fun z hz=>by simp at hz;subst hz;unfold fitI;omega) (by show 0+nk+8*1≤_;omega));have HP:=hide (unhide KBB2 _ _ B10 ((Below.refl _ _).alloc (Nat.le_refl _) (.cells #[.int .i64 255] 3)));clear T10 B10;go_wp2_with fail;refine (unhide HC).mono ?_;rintro e w16 ⟨rfl,T10,kk,ff⟩;have B10:=unhide KBB _ _ (unhide HP) kk;clear kk ff HC HP m0 m1 m2;obtain ⟨m0,m1,m2⟩:=unhide KBI w16 B10;have HLG:Hid (okk=true→-1≤last):=hide fun e=>by
          rw [←(unhide HKK).1] at e;have h9:=rightM_last l _ _ (by revert e;cases okm <;> simp:rightM l (-1) (mm.take k)=true);rw [unhide HLA];exact h9
         have H25:Hid (∀z,z=max 0 (min (wrap64 (wrap64 (at_-last)-1)) 65535)→Calls Tryz.prog 27 #[.pointer (some ⟨Y,0,none⟩),.int .i64 2,.slice (some ⟨w16.heap.size,0,none⟩) 1 1] (w16.alloc (.cells #[.int .i64 z] 3)) fun e w'=>e=.returned (.tuple #[])∧Wr wo w14 Y Y p [] w' (okk&&okC) ((bsk++bytesW 1 255)++bytesW 2 (at_-last-1)) (nk+1+2)∧BB w'):=hide fun z hz=>by
          obtain ⟨z1,z2⟩:=clamp9 at_ last z hz;refine (T10.u (w1:=w16.alloc (.cells #[.int .i64 z] 3)) ((Below.refl _ _).alloc (Nat.le_refl _) _) 2 (by omega) [z] 1 rfl (fun j y hj=>ints_at w16 [z] _ rfl j y hj) (fun y hy=>by simp at hy;subst hy;unfold fitI;omega) (by show 0+(nk+1*1)+8*1≤_;omega)).mono ?_;rintro e w' ⟨rfl,T11,k11,f11⟩;refine ⟨rfl,T11.imp ?_ (fun e=>?_) (by show nk+1*1+1*2≤_;omega),unhide KBB _ _ (unhide KBB2 _ _ B10 ((Below.refl _ _).alloc (Nat.le_refl _) _)) k11⟩
          · have e1:fitsB 1 [255]=true:=by decide
            have e2:fitsB 2 [z]=true:=by simp [fitsB];omega
            rw [e1,e2,Bool.and_true,Bool.and_true]
          · rw [Bool.and_eq_true] at e
            rw [z2 (of_decide_eq_true ((unhide HOC).symm.trans e.2)) (unhide HLG e.1)];simp
         clear T10 B10;go_upto_region 25 with fail
         go_cut [] from 162 to 207 (fun wx=>Wr wo w14 Y Y p [] wx (okk&&okC) ((bsk++bytesW 1 255)++bytesW 2 (at_-last-1)) (nk+1+2)∧BB wx)
         case first=>
          as_aux_lemma=>
           unfold fitI at hfl hfa;go_wp2_with fail
           all_goals
            rename_i hA;refine (unhide H25 _ ?_).mono ?_
            · split at hA <;> omega
            rintro e w17 ⟨rfl,hx⟩;have HF:=hide hx;clear hx;go_wp2;go_meet;exact unhide HF
         case rest=>
         clear m0 m1 m2;obtain ⟨T10,B10⟩:=hcut;obtain ⟨m0,m1,m2⟩:=unhide KBI wc B10;have hGY:Gx wo Y p l:=⟨(unhide HG).ein,by have:=(unhide HG).hB;omega,(unhide HG).ck⟩;have HC:=hide (T10.types hGY ⟨la,ln,lc⟩ loc true hloc (by show ln≤14000;omega) (by show 0+(nk+1+2)≤_;omega));have HB10:=hide B10;clear T10 B10 H25;go_wp2_with fail;refine (unhide HC).mono ?_;rintro e w18 ⟨rfl,T10,kk,ff⟩;have B10:=unhide KBB _ _ (unhide HB10) kk;clear kk ff HC HB10 m0 m1 m2;obtain ⟨m0,m1,m2⟩:=unhide KBI w18 B10;have HC:=hide (T10.types hGY ⟨sa,sn,sc⟩ stk false hstk (by show sn≤14000;omega) (by show 0+(nk+1+2+(5+3*loc.length))≤_;omega));have HB10:=hide B10;clear T10 B10;go_wp2_with fail;refine (unhide HC).mono ?_;rintro e w19 ⟨rfl,T10,kk,ff⟩;have B10:=unhide KBB _ _ (unhide HB10) kk;clear kk ff HC HB10 m0 m1 m2;obtain ⟨m0,m1,m2⟩:=unhide KBI w19 B10;have htk:mm.take (k+1)=mm.take k++[⟨at_,loc,stk⟩]:=by rw [List.take_add_one,unhide HXM];rfl
         have T20:Wr wo w14 Y Y p [] w19 (okm&&rightM l (-1) (mm.take (k+1))) (BM++mpsB l (-1) (mm.take (k+1))) (2+((mm.take (k+1)).map fun m=>13+3*(m.loc.length+m.stk.length)).sum):=T10.imp (by
          rw [htk,rightM_snoc,←unhide HLA,←Bool.and_assoc,(unhide HKK).1,unhide HOC];simp only [Bool.and_assoc]) (fun _=>by
          rw [mpsB_step9 l mm (-1) k _ (unhide HXM),←unhide HLA,←List.append_assoc,(unhide HKK).2.1];unfold mapB;simp only [List.append_assoc];rfl) (by
          rw [htk,List.map_append,List.sum_append];have:=(unhide HKK).2.2;simp only [List.map_cons,List.map_nil,List.sum_cons,List.sum_nil];omega)
         have hla2:at_=((mm.take (k+1)).map Mp.at_).getLast?.getD (-1):=by rw [htk];simp
         have HZ:=hide (And.intro hfa (And.intro hla2 (And.intro T20 (unhide KBC _ B10))));clear T10 T20 B10 htk hla2 hfa hfl;go_wp2;go_roundw
         case rel=>exact ⟨k+1,at_,rfl,by go_num,by omega,(unhide HZ).1,(unhide HZ).2.1,(unhide HZ).2.2.1,(unhide HZ).2.2.2⟩
         case measure=>simp [intOf];omega
       · have hlt1:¬(k:Int)<(mn:Int):=by omega
         have hkn:k=mn:=by omega
         rw [hkn,List.take_of_length_le (by omega)] at hT;obtain ⟨T13,f14⟩:=unhide HT13;have T21:=T13.on (W':=wr) (by rw [unhide HY];exact f14.trans hT.bel);obtain ⟨bi,gi,hbi,hli⟩:=hT.gw;obtain ⟨ibad,hib⟩:∃ibad,(!(okm&&rightM l (-1) mm))=ibad:=⟨_,rfl⟩;rw [hib] at gi;have hli2:bi.length≤2+(mm.map fun m=>13+3*(m.loc.length+m.stk.length)).sum:=by
          have:bi.length≤0+(2+(mm.map fun m=>13+3*(m.loc.length+m.stk.length)).sum):=hli;omega
         have hsm:(mm.map fun m=>13+3*(m.loc.length+m.stk.length)).sum≤200000:=by
          have:=unhide HST mn;rw [List.take_of_length_le (by omega)] at this;exact this
         have HBI:=hide (And.intro hbi (And.intro hib hli2));have hbl3:bi.length≤200002:=by omega
         have g2:wr.cell? ⟨Y,2,none⟩=some (.bool ibad):=by
          obtain ⟨_,_,y9,_⟩:=gi.blk;exact bx_cell y9 2 _ rfl
         have HC:=hide (T21.mustK (!ibad));have HGI:=hide gi;clear hbi hib hli hli2 hT gi T13 f14 T21 hsm;go_wp2_with fail;refine (unhide HC).mono ?_;rintro e w20 ⟨⟨rfl,T22,kk,ff⟩,kx⟩;have gi:Gw Y Y p bi ibad w20:=(unhide HGI).keep fun q Z T hq hZ _=>kx q (lt_of_heap hZ) (by omega)
         clear HC HGI g2 kk ff kx;have g1:∃ia ic,w20.cell? ⟨Y,1,none⟩=some (.slice ia bi.length ic):=by
          obtain ⟨ia,ic,y9,_⟩:=gi.blk;exact ⟨ia,ic,bx_cell y9 1 _ rfl⟩
         obtain ⟨ia,ic,g1⟩:=g1;have HC:=hide (T22.uK (w1:=w20.alloc (.cells #[.int .i64 (bi.length:Int)] 3)) ((Below.refl _ _).alloc (Nat.le_refl _) _) 4 (by omega) [(bi.length:Int)] 1 rfl (fun j z hz=>ints_at w20 [(bi.length:Int)] _ rfl j z hz) (fun z hz=>by simp at hz;subst hz;unfold fitI;omega) (by omega));have HGI:Hid (Gw Y Y p bi ibad (w20.alloc (.cells #[.int .i64 (bi.length:Int)] 3))):=hide (gi.below ((Below.refl _ _).alloc (Nat.le_refl _) _));clear gi T22;go_wp2_with fail;refine (unhide HC).mono ?_;rintro e w21 ⟨⟨rfl,T23,kk,ff⟩,kx⟩;have gi:Gw Y Y p bi ibad w21:=(unhide HGI).keep fun q Z T hq hZ _=>kx q (lt_of_heap hZ) (by omega)
         clear HC HGI g1 kk ff kx;obtain ⟨OK22,hOK22⟩:∃OK22,((OK13&&!ibad)&&fitsB 4 [(bi.length:Int)])=OK22:=⟨_,rfl⟩;rw [hOK22] at T23;have HO22:=hide hOK22;clear hOK22;obtain ⟨b5,g5,hb5,hl5⟩:=T23.gw;have hl5':b5.length≤b0.length+(18+bn+8*hn_):=by
          have:b5.length≤b0.length+(14+bn+8*hn_+1*4):=hl5;omega
         obtain ⟨a5,c5,x5,r5⟩:=g5.blk;obtain ⟨ia,ic,y5,ri⟩:=gi.blk;have c1:w21.cell? ⟨X,1,none⟩=some (.slice a5 b5.length c5):=bx_cell x5 1 _ rfl;have z1:=bx_thaw x5 1;have k1:w21.cell? ⟨Y,1,none⟩=some (.slice ia bi.length ic):=bx_cell y5 1 _ rfl;have HLn:Hid ((b5.length+bi.length)*1≤140737488355328):=hide (by omega);have HLn2:Hid (b5.length+bi.length≤140737488355328):=hide (by omega);have own5:Hid (∀q,Orw byc 5 1 (w21.drewN q) B (.slice a5 b5.length c5) b5):=hide fun q=>r5.below fun k hk=>(below_drewN (Below.refl _ _) q).block k (r5.lt k hk).2
         have src5:Hid (∀q,Ls 1 byc (w21.drewN q) ia bi.length bi):=hide fun q=>(ri.ls rkB10).below (below_drewN (Below.refl _ _) q)
         have NIL:Hid (ia=none→bi.length=0∧ic=0):=hide fun e=>by
          obtain ⟨a',c',e1,h9,_⟩:=ri.form;injection e1 with ea en ec
          exact h9 (ea▸e) |>.imp id (fun h=>by rw [ec];exact h)
         have hB5:Hid (∀q,B≤(w21.drewN q).heap.size):=hide fun q=>Nat.le_trans T23.hB (below_drewN (Below.refl w21.heap.size w21) q).size
         have HGR:Hid (∀q v' w7,Orw byc 5 1 w7 B v' (b5++bi)→(w21.drewN q).grownBy w7 (Value.slice a5 b5.length c5).ownBlock→∃a7 c7,v'=.slice a7 (b5.length+bi.length) c7∧w7.heap[X]?=some (.cells #[.slice p.a p.n p.c,.slice a5 b5.length c5,.bool (!OK22)] 65 (0,0))∧Gw X B p (b5++bi) (!OK22) (w7.setCell ⟨X,1,none⟩ v')∧Ks X w21 (w7.setCell ⟨X,1,none⟩ v')∧Below B w21 (w7.setCell ⟨X,1,none⟩ v')):=hide fun q v' w7 o7 g7=>gw_grown x5 g5.hX r5 q v' w7 bi o7 g7
         have HT4:=hide (And.intro T23 (And.intro hb5 hl5'));clear T23 g5 gi hb5 hl5 x5 r5 y5 ri i0 i1 i2 i3 i4;go_upto_region 31 with fail
         go_region_law (first
          | (refine stepB_append8 rfl (.tmp 227) (.tmp 231) rfl B (.slice a5 b5.length c5) b5 (by rfl) (by first | exact unhide own5 0 | exact unhide own5 1) ia bi.length ic bi (by rfl) (by first | exact unhide src5 0 | exact unhide src5 1) (unhide NIL) (unhide HLn) (unhide HLn2) (by first | exact unhide hB5 0 | exact unhide hB5 1) ?_;intro v7 w7 o7 g7;have K7:=hide (unhide HGR 1 _ w7 o7 g7);clear o7 g7;obtain ⟨a7,c7,rfl,x7,y7⟩:=unhide K7;have cx7:w7.cell? ⟨X,1,none⟩=some (.slice a5 b5.length c5):=bx_cell x7 1 _ rfl;have zx7:=bx_thaw x7 1;have Y7:=hide y7;clear x7 y7 K7))
         all_goals
          go_wp2;go_end0;obtain ⟨g8,k8,f8⟩:=unhide Y7;obtain ⟨T4,hb5,hl5'⟩:=unhide HT4;have hm9:¬mm=[]:=fun e=>by rw [e] at hml;simp at hml;omega
          have T9:Wr wo w X B p b0 _ OK22 ((BS13++[(bi.length:Int)].flatMap (bytesW 4))++bi) (18+bn+8*hn_+bi.length):=T4.step (b:=b5) g8 f8 k8 (fun e=>by rw [hb5 e,List.append_assoc]) (by rw [List.length_append];omega);have hok:OK22=(!bad&&rightD l ⟨st,lo,by_,hh,mm⟩):=by
           rw [unhide HRD,←unhide HO22,←(unhide HOB13).1,←(unhide HBI).2.1,←unhide HKH,←unhide HOA,(unhide HMK).1];have e1:fitsB 2 [1]=true:=by decide
           have e2:fitsB 4 [(bi.length:Int)]=true:=by simp [fitsB];omega
           have e4:decide (mm=[]∨utfN l sMaps≠0)=decide (utfN l sMaps≠0):=decide_eq_decide.2 ⟨fun h=>h.resolve_left hm9,.inr⟩;rw [e1,e2,e4];cases hk:okM with
           | false=>simp
           | true=>
            have h9:=of_decide_eq_true ((unhide HOK).symm.trans hk);have e3:fitsB 2 [(mn:Int)]=true:=by simp [fitsB];omega
            rw [e3];simp only [Bool.and_true,Bool.true_and,Bool.not_not,Bool.and_assoc]
          refine ⟨rfl,T9.imp hok (fun e=>?_) ?_,T9.ks,T9.bel⟩
          · rw [←hok,←unhide HO22,Bool.and_eq_true,Bool.and_eq_true] at e
            have e5:(okm&&rightM l (-1) mm)=true:=by
             have:=e.1.2;rw [←(unhide HBI).2.1] at this
             simpa using this
            have hb:=(unhide HBI).1 e5;have e6:bi=mapsB l mm:=by
             rw [hb,(unhide HMK).2];unfold mapsB;rw [hml];simp
            rw [unhide HCB,←(unhide HOB13).2,e6];unfold tableB;rw [if_neg hm9];simp
          · rw [unhide HCN]
            have:=(unhide HBI).2.2;omega
end Go.Proofs.YtlabllgifkklhaaGreatDoor
