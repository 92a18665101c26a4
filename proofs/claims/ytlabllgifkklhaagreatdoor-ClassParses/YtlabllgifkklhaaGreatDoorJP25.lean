/- Joined: CkJ CkK CkL CkM. -/
import Derived.Test.YtlabllgifkklhaaGreatDoorJP24
set_option linter.unusedVariables false
set_option maxRecDepth 100000
set_option maxHeartbeats 12800000
namespace Go.Proofs.YtlabllgifkklhaaGreatDoor
open Go.RowKit
theorem WtG.comp {C:Cx} {F F1 G G1:Nat→Prop} {w0 W W':World} {bs bs':List UInt8} (h:WtG C F G w0 bs W) (h2:∀j,F1 j→F j∨w0.heap.size≤j) (hT:WtG C F1 G1 W bs' W') (hG:∀k,G1 k→G k∨w0.heap.size≤k):WtG C F G w0 bs' W':=by
 obtain ⟨F2,h3,h4⟩:=hT.ex;exact ⟨⟨F2,h3,fun j hj=>(h4 j hj).elim (h2 j) (fun e=>.inr (Nat.le_trans h.fr.below.size e))⟩,kfr_trans h.fr hT.fr hG⟩
theorem WtG.wide {C:Cx} {F G G':Nat→Prop} {w0 W:World} {bs:List UInt8} (h:WtG C F G w0 bs W) (hG:∀k,G k→G' k):WtG C F G' w0 bs W:=⟨h.ex,⟨h.fr.below,fun k hk hn=>h.fr.other k hk (fun e=>hn (hG k e))⟩⟩
theorem WR.keep {F:Nat→Prop} {w w':World} {B x:Nat} {bs:List UInt8} (h:WR F w B x bs) (hk:∀k,F k→w'.heap[k]?=w.heap[k]?):WR F w' B x bs:=by
 obtain ⟨y,c,rfl,h⟩:=h;exact ⟨y,c,rfl,h.keep (hk x (.inl rfl)) (hk y (.inr rfl))⟩
theorem WtG.store {C:Cx} {F G:Nat→Prop} {w0 W:World} {bs:List UInt8} {ba:Nat} (h:WtG C F G w0 bs W) (hG:G ba) (hB:C.B≤ba) (hlt:ba<w0.heap.size) (hF:¬F ba) (hg:ba≠C.g) (ht:ba≠C.mt) (hc:ba≠C.mc) (v:Value):WtG C F G w0 bs (W.setCell ⟨ba,0,none⟩ v):=by
 obtain ⟨F',h1,h2⟩:=h.ex;have hk:∀k,k≠ba→(W.setCell ⟨ba,0,none⟩ v).heap[k]?=W.heap[k]?:=fun k hne=>Below.heap_setCell _ _ _ _ hne
 have hF':¬F' ba:=fun e=>(h2 ba e).elim hF (fun e=>by omega)
 have hbel:Below C.wc.heap.size C.wc (W.setCell ⟨ba,0,none⟩ v):=h1.bel.setCell (by have:=h1.hB;show C.wc.heap.size≤ba;omega) _;refine ⟨⟨F',⟨h1.wr.keep (fun k hk1=>hk k (fun e=>hF' (e▸hk1))),hbel,h1.hB,h1.nm.other (hk _ (fun e=>hg e.symm)) (hk _ (fun e=>ht e.symm)) (hk _ (fun e=>hc e.symm)) (h1.pool.below hbel),h1.ng,h1.nt,h1.nc,h1.pool,h1.tab⟩,h2⟩,⟨h.fr.below.setCell hB _,fun k hk1 hn=>?_⟩⟩
 by_cases e:k=ba
 · subst e;exact absurd hG hn
 · exact (hk k e).trans (h.fr.other k hk1 hn)
theorem mpsB_step (l:List Ent):∀(ms:List Mp) (last:Int) (k:Nat) (m:Mp),ms[k]?=some m→mpsB l last (ms.take (k+1))=mpsB l last (ms.take k)++mapB l (((ms.take k).map Mp.at_).getLast?.getD last) m
 | [],_,_,_,h=>by simp at h
 | x::r,last,0,m,h=>by
  simp at h;subst h;simp [mpsB]
 | x::r,last,k+1,m,h=>by
  have ih:=mpsB_step l r x.at_ k m (by simpa using h);simp only [List.take_succ_cons,mpsB];rw [ih,List.append_assoc]
  congr 2
  simp only [List.map_cons,List.getLast?_cons,Option.getD_some]
theorem tyB_len (l:List Ent) (t:Ty):(tyB l t).length≤3:=by
 unfold tyB;split <;> (try split) <;> (try split) <;> (try split) <;> simp [bytesW_len]
theorem flatM_len {α:Type} (f:α→List UInt8) (M:Nat):∀(xs:List α),(∀x∈xs,(f x).length≤M)→(xs.flatMap f).length≤xs.length*M
 | [],_=>by simp
 | x::r,h=>by
  have h1:=h x (List.mem_cons_self ..);have h2:=flatM_len f M r (fun y hy=>h y (List.mem_cons_of_mem _ hy));rw [List.flatMap_cons,List.length_append,List.length_cons,Nat.succ_mul];omega
theorem typesB_len (l:List Ent) (loc:Bool) (ts:List Ty) (h:ts.length≤64):(typesB l loc ts).length≤194:=by
 unfold typesB;have h1:=toldT_le loc _ ts (Nat.le_refl _);have h2:=flatM_len (tyB l) 3 (toldT loc ts) (fun t _=>tyB_len l t);rw [List.length_append,bytesW_len];show 2+_≤_;omega
theorem mapB_len (l:List Ent) (last:Int) (m:Mp) (h:mapOk l m=true):(mapB l last m).length≤391:=by
 unfold mapOk areB at h;simp only [Bool.and_eq_true,decide_eq_true_eq] at h;have h1:=typesB_len l true m.loc h.2.1.1;have h2:=typesB_len l false m.stk h.2.2.2.1;unfold mapB;simp only [List.length_cons,List.length_append,bytesW_len];show 2+_+1≤_;omega
theorem mpsB_len (l:List Ent):∀(ms:List Mp) (last:Int),ms.all (mapOk l)=true→(mpsB l last ms).length≤ms.length*391
 | [],_,_=>by simp [mpsB]
 | m::r,last,h=>by
  rw [List.all_cons,Bool.and_eq_true] at h;have h1:=mapB_len l last m h.1;have h2:=mpsB_len l r m.at_ h.2;simp only [mpsB,List.length_append,List.length_cons];omega
theorem wMaps1_any (C:Cx) (F:Nat→Prop) (w:World) (bs:List UInt8) (h:Wt C F w bs) (bw ba:Nat) (last:Int) (hbw:w.cell? ⟨bw,0,none⟩=some (.pointer (some ⟨C.x,0,none⟩))∧w.cell? ⟨bw,1,none⟩=some (.pointer (some ⟨C.g,0,none⟩))) (hbF:¬F bw)
 (hba:w.heap[ba]?=some (.cells #[.int .i64 last] 3 (0,0))) (haF:¬F ba) (hB:C.B≤ba) (hg:ba≠C.g) (ht:ba≠C.mt) (hc:ba≠C.mc) (hab:bw≠ba) (r:MpR) (hr:MpIn C.wc r) (hok:mapOk C.l r.m=true) (hla:-1≤last∧last<r.m.at_) (hbs:bs.length≤60000000) :
 Calls Tryz.prog 141 #[.agg #[.int .i64 r.m.at_,r.loc.v,r.stk.v],.pointer (some ⟨bw,0,none⟩),.pointer (some ⟨ba,0,none⟩)] w fun e w'=>e=.returned (.tuple #[])∧WtG C F (fun k=>F k∨k=ba) w (bs++mapB C.l last r.m) w'∧w'.heap[ba]?=some (.cells #[.int .i64 r.m.at_] 3 (0,0)):=by
 obtain ⟨⟨at_,loc,stk⟩,⟨la,ln,lc⟩,⟨sa,sn,sc⟩⟩:=r;obtain ⟨hfa,hl,hs⟩:=hr;unfold mapOk upB areB at hok;simp only [Bool.and_eq_true,decide_eq_true_eq,List.all_cons,List.all_nil,and_true] at hok hfa hl hs hla ⊢;obtain ⟨⟨ha0,ha1⟩,⟨hl64,hlok⟩,hlw,hs64,hsok⟩:=hok;have hlln:=hl.ls.1;have hsln:=hs.ls.1;simp only at hlln hsln;obtain ⟨w1,e1,f1,K1⟩:=one_local w #[.int .i64 at_,.slice la ln lc,.slice sa sn sc] 52;have hW1:=h.below f1;have hxlt:w.heap.size<w1.heap.size:=World.block_lt_of_cell? _ _ (K1 w1 (Below.refl _ _) 0 _ rfl);have hblt:=World.block_lt_of_cell? _ _ hbw.1;have halt:=lt_of_heap hba;simp only at hblt;obtain ⟨SS,hSS⟩:∃SS:World→Prop,SS=fun W=>∃bs',WtTo C F w1 bs' W:=⟨_,rfl⟩
 have KS:Hid (∀W,SS W↔∃bs',WtTo C F w1 bs' W):=fun W=>by rw [hSS]
 have KI:Hid (∀W,SS W→(W.cell? ⟨bw,0,none⟩=some (.pointer (some ⟨C.x,0,none⟩))∧W.cell? ⟨bw,1,none⟩=some (.pointer (some ⟨C.g,0,none⟩)))∧(W.cell? ⟨w.heap.size,0,none⟩=some (.int .i64 at_)∧W.cell? ⟨w.heap.size,1,none⟩=some (.slice la ln lc)∧W.cell? ⟨w.heap.size,2,none⟩=some (.slice sa sn sc))∧W.cell? ⟨ba,0,none⟩=some (.int .i64 last)∧W.heap[ba]?=some (.cells #[.int .i64 last] 3 (0,0))):=fun W hW=>by
  rw [hSS] at hW;obtain ⟨bs',hW⟩:=hW;have hb:∀o v,w.cell? ⟨bw,o,none⟩=some v→W.cell? ⟨bw,o,none⟩=some v:=fun o v hv=>(hW.keep (by omega) hbF o).trans ((f1.cell hblt).trans hv)
  have hm:∀o v,(#[Value.int .i64 at_,.slice la ln lc,.slice sa sn sc])[o]?=some v→W.cell? ⟨w.heap.size,o,none⟩=some v:=fun o v hv=>h.box f1 hW (Nat.le_refl _) (K1 w1 (Below.refl _ _) o v hv)
  have hh:W.heap[ba]?=some (.cells #[.int .i64 last] 3 (0,0)):=(hW.fr.other ba (by omega) haF).trans ((f1.block ba halt).trans hba);exact ⟨⟨hb 0 _ hbw.1,hb 1 _ hbw.2⟩,⟨hm 0 _ rfl,hm 1 _ rfl,hm 2 _ rfl⟩,by rw [cell_of_row _ _ _ _ _ _ hh];rfl,hh⟩
 have S1:=WtG.start hW1 F;have HU1:Hid (∀W bs' z (k:Int),WtTo C F w1 bs' W→bs'.length≤100000000→(k=1∧0≤z∧z≤255∨k=2∧0≤z∧z≤65535)→Calls Tryz.prog 57 #[.pointer (some ⟨C.x,0,none⟩),.int .i64 k,.slice (some ⟨W.heap.size,0,none⟩) 1 1] (W.alloc (.cells #[.int .i64 z] 3)) fun e w'=>e=.returned (.int .i64 0)∧WtTo C F w1 (bs'++bytesW k z) w'):=fun W bs' z k hT hb hz=>by
  have:=hT.step (fun _ h=>h) (fun F1 hF1=>wt_u hF1 (W':=W.alloc (.cells #[.int .i64 z] 3)) ((Below.refl _ _).alloc (Nat.le_refl _) _) [z] 1 k rfl (fun j y hj=>ints_at W [z] _ rfl j y hj) (by rcases hz with ⟨rfl,_⟩ | ⟨rfl,_⟩ <;> decide) (fun y hy=>by
   simp at hy;subst hy
   rcases hz with ⟨rfl,hz⟩ | ⟨rfl,hz⟩
   · exact fz1 hz
   · exact fz2 hz) hb (by omega))
  simpa using this
 have HNar:Hid (∀W bs',WtTo C F w1 bs' W→Calls Tryz.prog 143 #[.slice la ln lc] W fun e w'=>∃a c,e=.returned (.slice a (toldT true loc).length c)∧WtTo C F w1 bs' w'∧∀(bs2:List UInt8),bs2.length≤80000000→bs'=bs2→Calls Tryz.prog 142 #[C.v,.slice a (toldT true loc).length c,.func (.func 144) #[C.v] #[]] w' fun e w2=>e=.returned (.tuple #[])∧WtTo C F w1 (bs2++typesB C.l true loc) w2):=fun W bs' hT=>by
  obtain ⟨F1,hF1,hF2⟩:=hT.ex;refine (narrow_any W ⟨la,ln,lc⟩ loc (hl.mono hF1.bel (fun _ h=>h))).mono ?_;rintro e w' ⟨v,rfl,hO,f⟩;rw [narA_told _ loc (Nat.le_refl _) hlw] at hO;obtain ⟨a,c,rfl,_,_,_⟩:=hO.form;refine ⟨a,c,rfl,hT.below f,fun bs2 hb2 e2=>?_⟩;subst e2;have htl:=toldT_le true _ loc (Nat.le_refl _);have hms:∀t∈toldT true loc,t∈loc:=by
   intro t ht;rw [←narA_told _ loc (Nat.le_refl _) hlw] at ht;have key:∀(b:Bool) (ts:List Ty),t∈narA b ts→t∈ts:=by
    intro b ts
    induction ts generalizing b with
    | nil=>intro h;simp [narA] at h
    | cons y r ih=>
     intro h;simp only [narA,List.mem_append] at h
     rcases h with h | h
     · cases b <;> simp at h
       exact List.mem_cons.2 (.inl h)
     · exact List.mem_cons_of_mem _ (ih _ h)
   exact key _ _ ht
  have hF1':=hF1.below f;have hcall:=wlT_any C F1 w' bs' hF1' ⟨a,(toldT true loc).length,c⟩ (toldT true loc) 3 (fun W2 hW2=>by
   obtain ⟨bs3,hW2⟩:=hW2;have hls:=hO.ls rkT;refine ⟨hls.1,?_⟩
   rcases hls.2 with h0 | ⟨b,o,eb,hb,hcl⟩
   · exact .inl h0
   · refine .inr ⟨b,o,eb,Nat.lt_of_lt_of_le hb hW2.fr.below.size,fun k x hx q u hu=>?_⟩
     have hbl:=(hO.lt b (by show Value.ownBlock (.slice a _ c)=some b;rw [eb];rfl)).1;exact (hW2.keep hb (fun e=>by have:=(hF1.lt b e).2;omega) _).trans (hcl k x hx q u hu)) (fun t ht=>⟨hl.each t (hms t ht),List.all_eq_true.1 hlok t (hms t ht)⟩) (fun t _=>tyB_len _ t) (by show (toldT true loc).length≤65535;omega) (by show bs'.length+2+(toldT true loc).length*3≤90000000;omega)
  refine hcall.mono ?_;rintro e w2 ⟨rfl,hT2⟩;exact ⟨rfl,(hT.below f).comp hF2 hT2 (fun k hk=>hF2 k hk)⟩
 have HStk:Hid (∀W bs',WtTo C F w1 bs' W→bs'.length≤80000000→Calls Tryz.prog 142 #[C.v,.slice sa sn sc,.func (.func 144) #[C.v] #[]] W fun e w2=>e=.returned (.tuple #[])∧WtTo C F w1 (bs'++typesB C.l false stk) w2):=fun W bs' hT hb=>by
  have htold:toldT false stk=stk:=by
   have:∀ts:List Ty,toldT false ts=ts:=by
    intro ts
    induction ts with
    | nil=>rfl
    | cons t r ih=>
     cases r with
     | nil=>rfl
     | cons z r=>
      show (if false=true∧t.kind=2 then t::toldT false r else t::toldT false (z::r))=_;rw [if_neg (by simp),ih]
   exact this stk
  have:=hT.step (P:=fun e=>e=.returned (.tuple #[])) (fun _ h=>h) (fun F1 hF1=>wlT_any C F1 W bs' hF1 ⟨sa,sn,sc⟩ stk 3 (fun W2 hW2=>by
   obtain ⟨bs3,hW2⟩:=hW2;exact hs.ls.below (hF1.bel.trans (hW2.fr.below.mono hF1.hB))) (fun t ht=>⟨hs.each t ht,List.all_eq_true.1 hsok t ht⟩) (fun t _=>tyB_len _ t) (by show sn≤65535;omega) (by show bs'.length+2+sn*3≤90000000;omega))
  unfold typesB;rw [htold,hsln];exact this
 have HFin:Hid (∀bs' W,WtTo C F w1 bs' W→WtG C F (fun k=>F k∨k=ba) w bs' (W.setCell ⟨ba,0,none⟩ (.int .i64 at_))∧(W.setCell ⟨ba,0,none⟩ (.int .i64 at_)).heap[ba]?=some (.cells #[.int .i64 at_] 3 (0,0))):=fun bs' W hT=>by
  have h0:=WtG.leave h f1 hT (fun j hj=>.inl hj);refine ⟨(h0.wide (G':=fun k=>F k∨k=ba) (fun k hk=>Or.inl hk)).store (Or.inr rfl) hB (by omega) haF hg ht hc _,?_⟩;have hh:=(unhide KI W ((unhide KS W).2 ⟨_,hT⟩)).2.2.2;have:=heap_setCell_same W ba 0 _ _ (.int .i64 at_) hh
  simpa using this
 have hfz:Hid (∀W,SS W→W.frozen? ⟨ba,0,none⟩=false):=fun W hW=>frozen_of_row _ _ _ _ _ (unhide KI W hW).2.2.2
 have HMB:Hid (mapB C.l last ⟨at_,loc,stk⟩=bytesW 1 255++(bytesW 2 (at_-last-1)++(typesB C.l true loc++typesB C.l false stk))):=rfl;have hz1:0≤at_-last-1∧at_-last-1≤65535:=by omega
 have hT1l:=typesB_len C.l true loc hl64;have E1:=hide e1;have SS1:=hide S1;have q:=unhide KI w1 ((unhide KS w1).2 ⟨_,S1⟩);obtain ⟨⟨q0,q1⟩,⟨q2,q3,q4⟩,q5,_⟩:=q;generalize typesB C.l true loc=tl at *;generalize typesB C.l false stk=tk at *;generalize (toldT true loc).length=tn at *;generalize mapB C.l last ⟨at_,loc,stk⟩=mb at *;clear h hSS K1 e1 hW1 S1 f1 hl hs hlok hsok hlw hbw hba hbF haF hxlt hlln hsln hl64 hs64;unfold Sl.v;simp only;unfold fitI at hfa;unfold Cx.v at HNar HStk;have e1:=unhide E1;go_enter Tryz.func141,Tryz.ntmps141;go_wp2_with fail;refine (unhide HU1 w1 bs 255 1 (unhide SS1) (by omega) (.inl ⟨rfl,by omega,by omega⟩)).mono ?_;rintro e w2 ⟨rfl,T2⟩;have TT2:=hide T2;obtain ⟨⟨r0,r1⟩,⟨r2,r3,r4⟩,r5,_⟩:=unhide KI w2 ((unhide KS w2).2 ⟨_,T2⟩);clear e1 T2 q0 q1 q2 q3 q4 q5;go_wp2_with fail;refine (unhide HU1 w2 _ (at_-last-1) 2 (unhide TT2) (by simp [bytesW_len];omega) (.inr ⟨rfl,hz1⟩)).mono ?_;rintro e w3 ⟨rfl,T3⟩;have TT3:=hide T3;clear T3 r0 r1 r2 r3 r4 r5;go_wp2;refine wp_region_txt SS [3,6] [0,1,2,4,5,3,6] (by kernel_rfl) (by kernel_rfl) ((unhide KS _).2 ⟨_,(unhide TT3).below (Below.refl _ _).drew⟩) ?_
 repeat (first
  | (refine Txt.skips (by rfl) (by rfl) ?_;simp only [Act.put,List.setIfInBounds_toArray,List.set_cons_zero,List.set_cons_succ])
  | (refine Txt.reads (v:=?_) (by rfl) (by rfl) (by rfl) ?_ ?_;rotate_left;(focus ((intro W hSW;obtain ⟨⟨p0,p1⟩,⟨p2,p3,p4⟩,p5,_⟩:=unhide KI W hSW;go_simp) <;> with_reducible rfl));simp only [Act.put,List.setIfInBounds_toArray,List.set_cons_zero,List.set_cons_succ]))
 refine Txt.acts (by rfl) (by rfl) (by rfl) (fun K hK=>?_);go_simp;refine (unhide HNar w3.drew _ ((unhide TT3).below (Below.refl _ _).drew)).mono ?_;rintro e w4 ⟨a4,c4,rfl,T4,HW4⟩;have HW:=hide (HW4 _ (by simp [bytesW_len];omega) rfl);refine hK.out _ _ ((unhide KS _).2 ⟨_,T4⟩) ?_;clear hK K T4 HW4 HNar;refine Txt.acts (by rfl) (by rfl) (by rfl) (fun K hK=>?_);go_simp;refine (unhide HW).mono ?_;rintro e w5 ⟨rfl,T5⟩;refine hK.out _ _ ((unhide KS _).2 ⟨_,T5⟩) ?_;clear hK K;refine Txt.done ?_;have TT5:=hide T5;obtain ⟨⟨r0,r1⟩,⟨r2,r3,r4⟩,r5,_⟩:=unhide KI w5 ((unhide KS w5).2 ⟨_,T5⟩);have HSt:=hide (unhide HStk w5 _ T5 (by simp [bytesW_len];omega));clear T5 HW;go_wp2_with fail;refine (unhide HSt).mono ?_;rintro e w6 ⟨rfl,T6⟩;obtain ⟨⟨s0,s1⟩,⟨s2,s3,s4⟩,s5,_⟩:=unhide KI w6 ((unhide KS w6).2 ⟨_,T6⟩);have s6:=unhide hfz w6 ((unhide KS w6).2 ⟨_,T6⟩);have RES:=hide (unhide HFin _ _ T6);clear T6 HSt r0 r1 r2 r3 r4 r5;go_wp2;go_end0;refine ⟨rfl,?_⟩;rw [unhide HMB];have:=unhide RES;simp only [List.append_assoc] at this ⊢;exact this
theorem wlP_any (C:Cx) (F:Nat→Prop) (w:World) (bs:List UInt8) (h:Wt C F w bs) (s:Sl) (xs:List MpR) (hL:Ls 3 mpc C.wc s.a s.n xs) (hE:∀x∈xs,MpIn C.wc x∧mapOk C.l x.m=true) (hri:riseB (-1) (xs.map MpR.m)=true) (hn:s.n≤256) (hbs:bs.length≤50000000)
 (bw ba:Nat) (hbw:w.cell? ⟨bw,0,none⟩=some (.pointer (some ⟨C.x,0,none⟩))∧w.cell? ⟨bw,1,none⟩=some (.pointer (some ⟨C.g,0,none⟩))) (hbF:¬F bw)
 (hba:w.heap[ba]?=some (.cells #[.int .i64 (-1)] 3 (0,0))) (haF:¬F ba) (hB:C.B≤ba) (hg:ba≠C.g) (ht:ba≠C.mt) (hc:ba≠C.mc) (hab:bw≠ba) :
 Calls Tryz.prog 140 #[C.v,s.v,.func (.func 141) #[] #[.pointer (some ⟨bw,0,none⟩),.pointer (some ⟨ba,0,none⟩)]] w fun e w'=>e=.returned (.tuple #[])∧WtG C F (fun k=>F k∨k=ba) w (bs++mapsB C.l (xs.map MpR.m)) w':=by
 obtain ⟨a,n,c⟩:=s;simp only at hL hn ⊢;have hln:=hL.1;obtain ⟨w1,e1,f1,K1⟩:=one_local w #[.pointer (some ⟨C.x,0,none⟩),.pointer (some ⟨C.g,0,none⟩)] 106;have hW1:=h.below f1;have S1:=WtG.start hW1 F;have c0:=K1 w1 (Below.refl _ _) 0 _ rfl;have hblt:=World.block_lt_of_cell? _ _ hbw.1;have halt:=lt_of_heap hba;simp only at hblt;have hb1:=f1.size;obtain ⟨ms,hms⟩:∃ms,ms=xs.map MpR.m:=⟨_,rfl⟩;have hmk:∀(k:Nat) (x:MpR),xs[k]?=some x→ms[k]?=some x.m:=fun k x hx=>by rw [hms,List.getElem?_map,hx];rfl
 have hmall:ms.all (mapOk C.l)=true:=by
  rw [hms,List.all_map,List.all_eq_true];exact fun x hx=>(hE x hx).2
 rw [←hms] at hri ⊢;have hmb:∀k,k≤n→(mpsB C.l (-1) (ms.take k)).length≤100096:=fun k hk=>by
  have h1:=mpsB_len C.l (ms.take k) (-1) (List.all_eq_true.2 (fun y hy=>List.all_eq_true.1 hmall y (List.mem_of_mem_take hy)));have h2:(ms.take k).length≤k:=by rw [List.length_take];omega
  omega
 have hrise:∀(k:Nat) (x:MpR),xs[k]?=some x→-1≤((ms.take k).map Mp.at_).getLast?.getD (-1)∧((ms.take k).map Mp.at_).getLast?.getD (-1)<x.m.at_:=fun k x hx=>by
  have h1:riseB (-1) (ms.take (k+1))=true:=by
   cases h2:riseB (-1) (ms.take (k+1)) with
   | true=>rfl
   | false=>rw [riseB_false ms (-1) (k+1) h2] at hri;cases hri
  have h0:riseB (-1) (ms.take k)=true:=by
   cases h2:riseB (-1) (ms.take k) with
   | true=>rfl
   | false=>rw [riseB_false ms (-1) k h2] at hri;cases hri
  have h3:=riseB_take ms (-1) k x.m (hmk k x hx) h0;rw [h1] at h3;refine ⟨?_,by simpa using h3.symm⟩;cases hg:((ms.take k).map Mp.at_).getLast? with
  | none=>simp
  | some y=>
   have hy:=List.mem_of_getLast? hg;obtain ⟨m,hm,rfl⟩:=List.mem_map.1 hy;have h4:=List.all_eq_true.1 hmall m (List.mem_of_mem_take hm);unfold mapOk upB at h4;simp only [Bool.and_eq_true,decide_eq_true_eq,List.all_cons,List.all_nil,and_true] at h4;simp only [Option.getD_some];omega
 have HU:Hid (Calls Tryz.prog 57 #[.pointer (some ⟨C.x,0,none⟩),.int .i64 2,.slice (some ⟨w1.heap.size,0,none⟩) 1 1] (w1.alloc (.cells #[.int .i64 (n:Int)] 3)) fun e w'=>e=.returned (.int .i64 0)∧WtTo C F w1 (bs++bytesW 2 (n:Int)) w'):=by
  have:=wt_u hW1 (W':=w1.alloc (.cells #[.int .i64 (n:Int)] 3)) ((Below.refl _ _).alloc (Nat.le_refl _) _) [(n:Int)] 1 2 rfl (fun j y hj=>ints_at w1 [(n:Int)] _ rfl j y hj) (by decide) (fun y hy=>by simp at hy;subst hy;exact fz2 (by omega)) (by omega) (by omega);exact hide (by simpa using this)
 have ha1:w1.heap[ba]?=some (.cells #[.int .i64 (-1)] 3 (0,0)):=(f1.block ba halt).trans hba;have H2:Hid (∀W,WtTo C F w1 (bs++bytesW 2 (n:Int)) W→WtG C F (fun k=>F k∨k=ba) w1 (bs++bytesW 2 (n:Int)) W∧W.heap[ba]?=some (.cells #[.int .i64 (-1)] 3 (0,0))):=fun W hT=>⟨hT.wide (fun k hk=>Or.inl hk),(hT.fr.other ba (by omega) haF).trans ha1⟩
 have HL1:Hid (∀bs' W,WtG C F (fun k=>F k∨k=ba) w1 bs' W→WtG C F (fun k=>F k∨k=ba) w bs' W):=fun bs' W hT=>by
  obtain ⟨F',h1,h2⟩:=hT.ex;exact ⟨⟨F',h1,fun j hj=>(h2 j hj).elim .inl (fun e=>.inr (Nat.le_trans f1.size e))⟩,kfr_trans (Fr6.of_below f1 h.base) hT.fr (fun k hk=>.inl hk)⟩
 have HLL:Hid (∀bs' W,WtG C F (fun k=>F k∨k=ba) w1 bs' W→Ls 3 mpc W a n xs):=fun bs' W hT=>by
  obtain ⟨F',h1,_⟩:=hT.ex;exact hL.below h1.bel
 have HO:Hid (∀bs' W x last,WtG C F (fun k=>F k∨k=ba) w1 bs' W→W.heap[ba]?=some (.cells #[.int .i64 last] 3 (0,0))→x∈xs→bs'.length≤60000000→(-1≤last∧last<x.m.at_)→Calls Tryz.prog 141 #[.agg #[.int .i64 x.m.at_,x.loc.v,x.stk.v],.pointer (some ⟨bw,0,none⟩),.pointer (some ⟨ba,0,none⟩)] W fun e w'=>e=.returned (.tuple #[])∧WtG C F (fun k=>F k∨k=ba) w1 (bs'++mapB C.l last x.m) w'∧w'.heap[ba]?=some (.cells #[.int .i64 x.m.at_] 3 (0,0))):=fun bs' W x last hT hbk hxm hb hla=>by
  obtain ⟨F1,hF1,hF2⟩:=hT.ex;have hbox:∀o v,w.cell? ⟨bw,o,none⟩=some v→W.cell? ⟨bw,o,none⟩=some v:=fun o v hv=>(hT.keep (by omega) (fun e=>by rcases e with e | e;exact hbF e;exact hab e) o).trans ((f1.cell hblt).trans hv)
  refine (wMaps1_any C F1 W bs' hF1 bw ba last ⟨hbox 0 _ hbw.1,hbox 1 _ hbw.2⟩ (fun e=>(hF2 bw e).elim hbF (fun e=>by omega)) hbk (fun e=>(hF2 ba e).elim haF (fun e=>by omega)) hB hg ht hc hab x (hE x hxm).1 (hE x hxm).2 hla hb).mono ?_;rintro e w' ⟨rfl,hT2,hb2⟩;exact ⟨rfl,hT.comp hF2 hT2 (fun k hk=>by
   rcases hk with hk | hk
   · exact (hF2 k hk).elim (fun e=>.inl (.inl e)) .inr
   · exact .inl (.inr hk)),hb2⟩
 have HMK:=hide hmk;have HMB:=hide hmb;have HRI:=hide hrise;have hml:ms.length=n:=by rw [hms,List.length_map];exact hln
 have E1:=hide e1;have SS1:=hide S1;clear h e1 hW1 S1 hL hE f1 K1 hbw hbF hba haF hblt halt hb1 hms hmk hmall hri hmb hrise ha1 hg ht hc hab hB;unfold Cx.v Sl.v mapsB;simp only;have e1:=unhide E1;go_enter Tryz.func140,Tryz.ntmps140;go_wp2_with fail;refine (unhide HU).mono ?_;rintro e w2 ⟨rfl,T2⟩;have TT2:=hide (unhide H2 _ T2);clear e1 T2 HU c0 H2;go_wp2
 go_loopw [16] (fun i wr=>∃k:Nat,k≤n∧i=.int .i64 k∧WtG C F (fun k=>F k∨k=ba) w1 (bs++(bytesW 2 (n:Int)++mpsB C.l (-1) (ms.take k))) wr∧wr.heap[ba]?=some (.cells #[.int .i64 (((ms.take k).map Mp.at_).getLast?.getD (-1))] 3 (0,0))) (fun i _=>n-(intOf i).toNat)
 case atStart=>exact ⟨0,by omega,rfl,by simpa [mpsB] using (unhide TT2).1,(unhide TT2).2⟩
 case round=>
  obtain ⟨k,hk,rfl,hT,hbk⟩:=hrel
  by_cases hlt:k<n
  · have hlt1:(k:Int)<(n:Int):=by omega
    have hk0:(0:Int)≤(k:Int):=by omega
    have hLs:=unhide HLL _ _ hT;obtain ⟨b1,o1,h1a,h1⟩:=Ls.row hLs (w':=wr) (by omega);subst h1a;obtain ⟨x,hx1⟩:∃x,xs[k]?=some x:=⟨_,List.getElem?_eq_getElem (by omega)⟩;have q:=h1 (Below.refl _ _) k x hx1;have hstep:Hid (bs++(bytesW 2 (n:Int)++mpsB C.l (-1) (ms.take (k+1)))=(bs++(bytesW 2 (n:Int)++mpsB C.l (-1) (ms.take k)))++mapB C.l (((ms.take k).map Mp.at_).getLast?.getD (-1)) x.m):=by
     show bs++(bytesW 2 (n:Int)++mpsB C.l (-1) (ms.take (k+1)))=_;rw [mpsB_step C.l ms (-1) k x.m (unhide HMK k x hx1)];simp
    have hlast:Hid (((ms.take (k+1)).map Mp.at_).getLast?.getD (-1)=x.m.at_):=by
     show ((ms.take (k+1)).map Mp.at_).getLast?.getD (-1)=_;rw [List.take_add_one,unhide HMK k x hx1];simp
    have hbl:(bs++(bytesW 2 (n:Int)++mpsB C.l (-1) (ms.take k))).length≤60000000:=by
     have:=unhide HMB k (by omega);have h2:(bytesW 2 (n:Int)).length=2:=bytesW_len _ _;rw [List.length_append,List.length_append,h2];omega
    have hxm:=List.mem_of_getElem? hx1;have hla:=unhide HRI k x hx1;have hf:=(Below.refl wr.heap.size wr).alloc (Nat.le_refl _) (.cells (mpc x).toArray 52);have HP:=hide (unhide HO _ (wr.alloc (.cells (mpc x).toArray 52)) x _ (hT.below hf) ((hf.block ba (lt_of_heap hbk)).trans hbk) hxm hbl hla);unfold mpc at HP;obtain ⟨xm,⟨la,ln,lc⟩,⟨sa,sn,sc⟩⟩:=x;have c0:=q.zero;have c1:=q 1 _ rfl;have c2:=q 2 _ rfl;simp only [Sl.v] at c0 c1 c2 HP hstep hlast;generalize mapB C.l (((ms.take k).map Mp.at_).getLast?.getD (-1)) xm=mb at *;clear q h1 hx1 hT hLs hbl hxm hla hbk hf;go_wp2_with fail;refine (unhide HP).mono ?_;rintro e w4 ⟨rfl,T4,B4⟩;have TT4:=hide (And.intro T4 B4);clear HP T4 B4;go_wp2;go_roundw
    case rel=>exact ⟨k+1,by omega,by go_num,by rw [unhide hstep];exact (unhide TT4).1,by rw [unhide hlast];exact (unhide TT4).2⟩
    case measure=>simp [intOf];omega
  · obtain rfl:k=n:=by omega
    rw [List.take_of_length_le (by omega)] at hT;have TT:=hide (unhide HL1 _ _ hT);clear hT hbk;go_wp2;go_end0;refine ⟨rfl,?_⟩;rw [hml];exact unhide TT
theorem wMaps_any (C:Cx) (F:Nat→Prop) (w:World) (bs:List UInt8) (h:Wt C F w bs) (s:Sl) (xs:List MpR) (hL:Ls 3 mpc C.wc s.a s.n xs) (hE:∀x∈xs,MpIn C.wc x∧mapOk C.l x.m=true) (hri:riseB (-1) (xs.map MpR.m)=true) (hn:s.n≤256) (hbs:bs.length≤50000000) :
 Calls Tryz.prog 127 #[C.v,s.v] w fun e w'=>e=.returned (.tuple #[])∧WtTo C F w (bs++mapsB C.l (xs.map MpR.m)) w':=by
 obtain ⟨w1,e1,f1,z1,K1,K2⟩:=boxes2 w #[.pointer (some ⟨C.x,0,none⟩),.pointer (some ⟨C.g,0,none⟩)] 106 #[.int .i64 (-1)] 3;have hW1:=h.below f1;have hB:=h.base;have hnF:∀k,w.heap.size≤k→¬F k:=fun k hk e=>by have:=(h.lt k e).2;omega
 have hgl:=h.nm.glt;have htl:=h.nm.texts.lt;have hcl:=h.nm.classes.lt;have hba:w1.heap[w.heap.size+1]?=some (.cells #[.int .i64 (-1)] 3 (0,0)):=by
  rw [←e1];have:=heap_alloc_last (w.alloc (.cells #[.pointer (some ⟨C.x,0,none⟩),.pointer (some ⟨C.g,0,none⟩)] 106)) (.cells #[.int .i64 (-1)] 3)
  simpa using this
 have q0:=K1 0 _ rfl;have q1:=K1 1 _ rfl;have HW:=wlP_any C F w1 bs hW1 s xs hL hE hri hn hbs w.heap.size (w.heap.size+1) ⟨q0,q1⟩ (hnF _ (Nat.le_refl _)) hba (hnF _ (by omega)) (by omega) (by omega) (by omega) (by omega) (by omega);have HL1:Hid (∀bs' W,WtG C F (fun k=>F k∨k=w.heap.size+1) w1 bs' W→WtTo C F w bs' W):=fun bs' W hT=>WtG.leave h f1 hT (fun j hj=>by
  rcases hj with hj | hj
  · exact .inl hj
  · exact .inr (by omega))
 unfold Cx.v at HW ⊢;obtain ⟨sa,sn,sc⟩:=s;unfold Sl.v at HW ⊢;simp only at HW ⊢;have HW1:=hide HW;have E1:=hide e1;generalize mapsB C.l (xs.map MpR.m)=mb at *;clear h hW1 hL hE hri HW e1 f1 K1 K2 hba hnF hB z1 hgl htl hcl;have e1:=unhide E1;go_enter Tryz.func127,Tryz.ntmps127;go_wp2_with fail;refine (unhide HW1).mono ?_;rintro e w2 ⟨rfl,T2⟩;have TT:=hide (unhide HL1 _ _ T2);clear T2 HW1 e1;go_wp2;go_end0;exact ⟨rfl,unhide TT⟩
theorem hdB_eq (x:Hd):[x.frm,x.to_,x.at_,x.cls].flatMap (bytesW 2)=hdB x:=by simp [hdB]
theorem rightH_fits {l:List Ent} {x:Hd} (h:rightH l x=true) (hl:l.length≤1024):∀z∈[x.frm,x.to_,x.at_,x.cls],0≤z∧z≤65535:=by
 unfold rightH in16 at h;simp only [Bool.and_eq_true,decide_eq_true_eq] at h;intro z hz;simp at hz
 rcases hz with rfl | rfl | rfl | rfl <;> omega
theorem wCode1_any (C:Cx) (F:Nat→Prop) (w:World) (bs:List UInt8) (h:Wt C F w bs) (x:Hd) (hok:rightH C.l x=true) (hbs:bs.length≤90000000) (bx:Nat) (hbx:w.cell? ⟨bx,0,none⟩=some (.pointer (some ⟨C.x,0,none⟩))∧w.cell? ⟨bx,1,none⟩=some (.pointer (some ⟨C.g,0,none⟩))) :
 Calls Tryz.prog 125 #[.agg #[.int .i64 x.frm,.int .i64 x.to_,.int .i64 x.at_,.int .i64 x.cls],.pointer (some ⟨bx,0,none⟩)] w fun e w'=>e=.returned (.tuple #[])∧WtTo C F w (bs++hdB x) w':=by
 obtain ⟨w1,e1,f1,K1⟩:=one_local w #[.int .i64 x.frm,.int .i64 x.to_,.int .i64 x.at_,.int .i64 x.cls] 93;have hW1:=h.below f1;have c0:=K1 w1 (Below.refl _ _) 0 _ rfl;have c1:=K1 w1 (Below.refl _ _) 1 _ rfl;have c2:=K1 w1 (Below.refl _ _) 2 _ rfl;have c3:=K1 w1 (Below.refl _ _) 3 _ rfl;have hfit:=rightH_fits hok h.nm.len.2;have HU:=wt_u hW1 (W':=w1.alloc (.cells #[.int .i64 x.frm,.int .i64 x.to_,.int .i64 x.at_,.int .i64 x.cls] 3)) ((Below.refl _ _).alloc (Nat.le_refl _) _) [x.frm,x.to_,x.at_,x.cls] 4 2 rfl (fun j y hj=>ints_at w1 [x.frm,x.to_,x.at_,x.cls] _ rfl j y hj) (by decide) (fun y hy=>fz2 (hfit y hy)) (by omega) (by omega);rw [hdB_eq] at HU;have b0:w1.cell? ⟨bx,0,none⟩=some (.pointer (some ⟨C.x,0,none⟩)):=(f1.cell (World.block_lt_of_cell? _ _ hbx.1)).trans hbx.1;have HL1:Hid (∀bs' W,WtTo C F w1 bs' W→WtTo C F w bs' W):=fun bs' W hT=>WtG.leave h f1 hT (fun j hj=>.inl hj)
 have HU1:=hide HU;have E1:=hide e1;obtain ⟨x1,x2,x3,x4⟩:=x;simp only at *;generalize hdB ⟨x1,x2,x3,x4⟩=hb at *;clear h e1 hW1 HU K1 f1 hfit hok hbx;have e1:=unhide E1;go_enter Tryz.func125,Tryz.ntmps125;go_wp2_with fail;refine (unhide HU1).mono ?_;rintro e w2 ⟨rfl,T2⟩;have TT:=hide (unhide HL1 _ _ T2);clear T2 HU1 e1;go_wp2;go_end0;exact ⟨rfl,unhide TT⟩
theorem wlH_any (C:Cx) (F:Nat→Prop) (w:World) (bs:List UInt8) (h:Wt C F w bs) (s:Sl) (xs:List Hd) (M:Nat) (hL:∀W,(∃bs',WtTo C F w bs' W)→Ls 4 hdc W s.a s.n xs) (hE:∀x∈xs,rightH C.l x=true) (hM:∀x∈xs,(hdB x).length≤M) (hn:s.n≤65535) (hbs:bs.length+2+s.n*M≤90000000) (bx:Nat) (hbox:∀W,(∃bs',WtTo C F w bs' W)→W.cell? ⟨bx,0,none⟩=some (.pointer (some ⟨C.x,0,none⟩))∧W.cell? ⟨bx,1,none⟩=some (.pointer (some ⟨C.g,0,none⟩))) :
 Calls Tryz.prog 124 #[C.v,s.v,.func (.func 125) #[] #[.pointer (some ⟨bx,0,none⟩)]] w fun e w'=>e=.returned (.tuple #[])∧WtTo C F w (bs++(bytesW 2 (s.n:Int)++xs.flatMap (hdB))) w':=by
 obtain ⟨a,n,c⟩:=s;simp only at hL hn hbs ⊢;have hln:=(hL w ⟨_,WtG.start h F⟩).1;obtain ⟨w1,e1,f1,K1⟩:=one_local w #[.pointer (some ⟨C.x,0,none⟩),.pointer (some ⟨C.g,0,none⟩)] 106;have hW1:=h.below f1;have S1:=WtG.start hW1 F;have c0:=K1 w1 (Below.refl _ _) 0 _ rfl;have hlen:∀k,k≤n→((xs.take k).flatMap (hdB)).length≤k*M:=fun k=>by
  induction k with
  | zero=>intro _;simp
  | succ k ih=>
   intro hk;obtain ⟨x,hx⟩:∃x,xs[k]?=some x:=⟨_,List.getElem?_eq_getElem (by omega)⟩;rw [List.take_add_one,hx,List.flatMap_append,List.length_append];have:=ih (by omega);have:=hM x (List.mem_of_getElem? hx);simp only [Option.toList,List.flatMap_cons,List.flatMap_nil,List.append_nil];rw [Nat.succ_mul];omega
 have HU:Hid (Calls Tryz.prog 57 #[.pointer (some ⟨C.x,0,none⟩),.int .i64 2,.slice (some ⟨w1.heap.size,0,none⟩) 1 1] (w1.alloc (.cells #[.int .i64 (n:Int)] 3)) fun e w'=>e=.returned (.int .i64 0)∧WtTo C F w1 (bs++bytesW 2 (n:Int)) w'):=by
  have:=wt_u hW1 (W':=w1.alloc (.cells #[.int .i64 (n:Int)] 3)) ((Below.refl _ _).alloc (Nat.le_refl _) _) [(n:Int)] 1 2 rfl (fun j y hj=>ints_at w1 [(n:Int)] _ rfl j y hj) (by decide) (fun y hy=>by simp at hy;subst hy;exact fz2 (by omega)) (by omega) (by omega);exact hide (by simpa using this)
 have HL1:Hid (∀bs' W,WtTo C F w1 bs' W→WtTo C F w bs' W):=fun bs' W hT=>WtG.leave h f1 hT (fun j hj=>.inl hj)
 have HLL:Hid (∀bs' W,WtTo C F w1 bs' W→Ls 4 hdc W a n xs):=fun bs' W hT=>hL W ⟨_,unhide HL1 _ _ hT⟩
 have HO:Hid (∀bs' W x,WtTo C F w1 bs' W→x∈xs→bs'.length≤90000000→Calls Tryz.prog 125 #[.agg #[.int .i64 x.frm,.int .i64 x.to_,.int .i64 x.at_,.int .i64 x.cls],.pointer (some ⟨bx,0,none⟩)] W fun e w'=>e=.returned (.tuple #[])∧WtTo C F w1 (bs'++hdB x) w'):=fun bs' W x hT hxm hb=>by
  have hx:=hE x hxm;have hk5:=unhide HL1 _ _ hT;exact hT.step (P:=fun e=>e=.returned (.tuple #[])) (fun _ h=>h) (fun F1 hF1=>wCode1_any C F1 _ _ hF1 x hx hb bx (hbox _ ⟨_,hk5⟩))
 have HLEN:=hide hlen;have E1:=hide e1;have SS1:=hide S1;clear h e1 hW1 S1 hlen hL hE hM f1 K1 hbox;unfold Cx.v Sl.v;simp only;have e1:=unhide E1;go_enter Tryz.func124,Tryz.ntmps124;go_wp2_with fail;refine (unhide HU).mono ?_;rintro e w2 ⟨rfl,T2⟩;have TT2:=hide T2;clear e1 T2 HU c0;go_wp2
 go_loopw [16] (fun i wr=>∃k:Nat,k≤n∧i=.int .i64 k∧WtTo C F w1 (bs++(bytesW 2 (n:Int)++(xs.take k).flatMap (hdB))) wr) (fun i _=>n-(intOf i).toNat)
 case atStart=>exact ⟨0,by omega,rfl,by simpa using unhide TT2⟩
 case round=>
  obtain ⟨k,hk,rfl,hT⟩:=hrel
  by_cases hlt:k<n
  · have hlt1:(k:Int)<(n:Int):=by omega
    have hk0:(0:Int)≤(k:Int):=by omega
    have hLs:=unhide HLL _ _ hT;obtain ⟨b1,o1,h1a,h1⟩:=Ls.row hLs (w':=wr) (by omega);subst h1a;obtain ⟨x,hx1⟩:∃x,xs[k]?=some x:=⟨_,List.getElem?_eq_getElem (by omega)⟩;have q:=h1 (Below.refl _ _) k x hx1;have hstep:Hid (bs++(bytesW 2 (n:Int)++(xs.take (k+1)).flatMap (hdB))=(bs++(bytesW 2 (n:Int)++(xs.take k).flatMap (hdB)))++hdB x):=by
     show bs++(bytesW 2 (n:Int)++(xs.take (k+1)).flatMap (hdB))=_;rw [List.take_add_one,hx1];simp
    have hbl:(bs++(bytesW 2 (n:Int)++(xs.take k).flatMap (hdB))).length≤90000000:=by
     have:=unhide HLEN k (by omega);have h2:(bytesW 2 (n:Int)).length=2:=bytesW_len _ _;have h3:k*M≤n*M:=Nat.mul_le_mul_right _ (by omega);rw [List.length_append,List.length_append,h2];omega
    have hxm:=List.mem_of_getElem? hx1;have c0:=q.zero;have c1:=q 1 _ rfl;have c2:=q 2 _ rfl;have c3:=q 3 _ rfl;have HP:=hide (unhide HO _ (wr.alloc (.cells #[.int .i64 x.frm,.int .i64 x.to_,.int .i64 x.at_,.int .i64 x.cls] 93)) _ (hT.below ((Below.refl _ _).alloc (Nat.le_refl _) _)) hxm hbl);clear q h1 hx1 hT hLs hbl hxm;unfold Cx.v at HP
    try simp only [Sl.v] at HP hstep
    go_wp2_with fail;refine (unhide HP).mono ?_;rintro e w4 ⟨rfl,T4⟩;have TT4:=hide T4;clear HP T4;go_wp2;go_roundw
    case rel=>exact ⟨k+1,by omega,by go_num,by rw [unhide hstep];exact unhide TT4⟩
    case measure=>simp [intOf];omega
  · obtain rfl:k=n:=by omega
    rw [List.take_of_length_le (by omega)] at hT;have TT:=hide (unhide HL1 _ _ hT);clear hT;go_wp2;go_end0;exact ⟨rfl,unhide TT⟩
theorem wSized_c (C:Cx) (F:Nat→Prop) (w:World) (bs:List UInt8) (h:Wt C F w bs) (b1 b2:Nat) (Y:List UInt8) (hY:Y.length≤200000) (hbs:bs.length≤40000000) (hpart:∀W F1 bs1,WtTo C F w bs1 W→Wt C F1 W bs1→bs1.length≤bs.length+4→Calls Tryz.prog 126 #[.pointer (some ⟨b1,0,none⟩),.pointer (some ⟨b2,0,none⟩)] W fun e w'=>e=.returned (.tuple #[])∧WtTo C F1 W (bs1++Y) w') :
 Calls Tryz.prog 90 #[C.v,.func (.func 126) #[] #[.pointer (some ⟨b1,0,none⟩),.pointer (some ⟨b2,0,none⟩)]] w fun e w'=>e=.returned (.tuple #[])∧WtTo C F w (bs++(bytesW 4 (Y.length:Int)++Y)) w':=by
 obtain ⟨w1,e1,f1,K1⟩:=one_local w #[.pointer (some ⟨C.x,0,none⟩),.pointer (some ⟨C.g,0,none⟩)] 106;have hW1:=h.below f1;have S1:=WtG.start hW1 F;obtain ⟨SS,hSS⟩:∃SS:World→Prop,SS=fun W=>∃bs',WtTo C F w1 bs' W:=⟨_,rfl⟩
 have KS:Hid (∀W,SS W↔∃bs',WtTo C F w1 bs' W):=fun W=>by rw [hSS]
 have KI:Hid (∀W,SS W→W.cell? ⟨w.heap.size,0,none⟩=some (.pointer (some ⟨C.x,0,none⟩))):=fun W hW=>by
  rw [hSS] at hW;obtain ⟨bs',hW⟩:=hW;exact h.box f1 hW (Nat.le_refl _) (K1 w1 (Below.refl _ _) 0 _ rfl)
 have HU:Hid (Calls Tryz.prog 57 #[.pointer (some ⟨C.x,0,none⟩),.int .i64 4,.slice (some ⟨w1.heap.size,0,none⟩) 1 1] (w1.alloc (.cells #[.int .i64 0] 3)) fun e w'=>e=.returned (.int .i64 0)∧WtTo C F w1 (bs++bytesW 4 0) w'):=by
  have:=wt_u hW1 (W':=w1.alloc (.cells #[.int .i64 0] 3)) ((Below.refl _ _).alloc (Nat.le_refl _) _) [0] 1 4 rfl (fun j y hj=>ints_at w1 [0] _ rfl j y hj) (by decide) (fun y hy=>by simp at hy;subst hy;exact fz4 (by omega)) (by omega) (by omega);exact hide (by simpa using this)
 have HLe:Hid (∀W bs',WtTo C F w1 bs' W→Calls Tryz.prog 122 #[.pointer (some ⟨C.x,0,none⟩)] W fun e w'=>e=.returned (.int .i64 (bs'.length:Int))∧WtTo C F w1 bs' w'):=fun W bs' hT=>by
  obtain ⟨F1,hF1,_⟩:=hT.ex;refine (eLen_any F1 W C.B C.x bs' hF1.wr).mono ?_;rintro e w' ⟨rfl,f⟩;exact ⟨rfl,hT.below f⟩
 have h4:(bytesW 4 0).length=4:=bytesW_len _ _;have hl4:(bs++bytesW 4 0).length=bs.length+4:=by rw [List.length_append,h4]
 have HP:Hid (∀W,WtTo C F w1 (bs++bytesW 4 0) W→Calls Tryz.prog 126 #[.pointer (some ⟨b1,0,none⟩),.pointer (some ⟨b2,0,none⟩)] W fun e w'=>e=.returned (.tuple #[])∧WtTo C F w1 (bs++bytesW 4 0++Y) w'):=fun W hT=>by
  have h0:=WtG.leave h f1 hT (fun j hj=>.inl hj);exact hT.step (P:=fun e=>e=.returned (.tuple #[])) (fun _ h=>h) (fun F1 hF1=>hpart W F1 _ h0 hF1 (by omega))
 have hpw:patchW (bs++bytesW 4 0++Y) (bs.length:Int) 4 (Y.length:Int)=(bs++bytesW 4 (Y.length:Int)++Y,0):=by
  unfold patchW;rw [if_pos ⟨(fz4 (by omega)).1,by omega,by simp only [List.length_append,h4];omega⟩];have e1:(bs++bytesW 4 0++Y).take bs.length=bs:=by rw [List.append_assoc,List.take_left]
  have e2:(bs++bytesW 4 0++Y).drop (bs.length+4)=Y:=by rw [←hl4,List.drop_left]
  simp only [Int.toNat_natCast];rw [e1,show (4:Int).toNat=4 from rfl,e2]
 have HPa:Hid (∀W,WtTo C F w1 (bs++bytesW 4 0++Y) W→Calls Tryz.prog 123 #[.pointer (some ⟨C.x,0,none⟩),.int .i64 (bs.length:Int),.int .i64 4,.int .i64 (Y.length:Int)] W fun e w'=>e=.returned (.int .i64 0)∧WtTo C F w1 (bs++bytesW 4 (Y.length:Int)++Y) w'):=fun W hT=>by
  refine hT.step (P:=fun e=>e=.returned (.int .i64 0)) (fun _ h=>h) (fun F1 hF1=>?_);have h1:=ePatch_any F1 W C.B C.x _ (bs.length:Int) 4 (Y.length:Int) hF1.wr (by simp only [List.length_append,h4];omega) (by omega) (by omega) (by omega);rw [hpw] at h1;refine h1.mono ?_;rintro e w' ⟨rfl,⟨F',r1,r2⟩,r3⟩;exact ⟨rfl,hF1.next r1 r2 r3⟩
 have HL1:Hid (∀bs' W,WtTo C F w1 bs' W→WtTo C F w bs' W):=fun bs' W hT=>WtG.leave h f1 hT (fun j hj=>.inl hj)
 have hlY:((bs++bytesW 4 0++Y).length:Int)=(bs.length:Int)+4+(Y.length:Int):=by simp only [List.length_append,h4];omega
 have q0:=unhide KI w1 ((unhide KS w1).2 ⟨_,S1⟩);have E1:=hide e1;have HLe1:Hid (∀W,WtTo C F w1 (bs++bytesW 4 0) W→Calls Tryz.prog 122 #[.pointer (some ⟨C.x,0,none⟩)] W fun e w'=>e=.returned (.int .i64 ((bs.length:Int)+4))∧WtTo C F w1 (bs++bytesW 4 0) w'):=fun W hT=>by
  have:=unhide HLe W _ hT;rw [hl4] at this;exact this
 have HLe2:Hid (∀W,WtTo C F w1 (bs++bytesW 4 0++Y) W→Calls Tryz.prog 122 #[.pointer (some ⟨C.x,0,none⟩)] W fun e w'=>e=.returned (.int .i64 ((bs.length:Int)+4+(Y.length:Int)))∧WtTo C F w1 (bs++bytesW 4 0++Y) w'):=fun W hT=>by
  have:=unhide HLe W _ hT;rw [hlY] at this;exact this
 clear h hSS K1 e1 hW1 S1 f1 HLe hpw hlY hl4 h4 hpart;generalize bytesW 4 0=z4 at *;generalize hyl:(Y.length:Int)=yl at *;generalize hbl:(bs.length:Int)=bl at *;have hyb:0≤yl∧yl≤200000:=by omega
 have hbb:0≤bl∧bl≤40000000:=by omega
 have s1:bl+4-4=bl:=by omega
 have s2:bl+4+yl-(bl+4)=yl:=by omega
 have t1:IntKind.i64.wrap bl=bl:=by rw [IntKind.wrap_i64];omega
 have t2:IntKind.i64.wrap yl=yl:=by rw [IntKind.wrap_i64];omega
 clear hyl hbl;unfold Cx.v;have e1:=unhide E1;go_enter Tryz.func90,Tryz.ntmps90;go_wp2_with fail;refine (unhide HU).mono ?_;rintro e w2 ⟨rfl,T2⟩;have q2:=unhide KI w2 ((unhide KS w2).2 ⟨_,T2⟩);have HLc:=hide (unhide HLe1 _ T2);clear e1 T2 HU q0;go_wp2_with fail;refine (unhide HLc).mono ?_;rintro e w3 ⟨rfl,T3⟩;have HPc:=hide (unhide HP _ T3);clear HLc T3;go_wp2_with fail;refine (unhide HPc).mono ?_;rintro e w4 ⟨rfl,T4⟩;have TT4:=hide T4;clear HPc T4 q2;go_wp2;refine wp_region_txt SS [6,9] [0,1,2,3,4,5,7,6,8,9] (by kernel_rfl) (by kernel_rfl) ((unhide KS _).2 ⟨_,(unhide TT4).below (Below.refl _ _).drew⟩) ?_
 repeat (first
  | (refine Txt.reads (v:=?_) (by rfl) (by rfl) (by rfl) ?_ ?_;rotate_left;(focus ((intro W hSW;have p0:=unhide KI W hSW;go_simp) <;> with_reducible rfl));simp only [Act.put,List.setIfInBounds_toArray,List.set_cons_zero,List.set_cons_succ]))
 refine Txt.acts (by rfl) (by rfl) (by rfl) (fun K hK=>?_);go_simp;refine (unhide HLe2 _ ((unhide TT4).below (Below.refl _ _).drew)).mono ?_;rintro e w5 ⟨rfl,T5⟩;refine hK.out _ _ ((unhide KS _).2 ⟨_,T5⟩) ?_;have TT5:=hide T5;clear hK K T5
 repeat (first
  | (refine Txt.reads (v:=?_) (by rfl) (by rfl) (by rfl) ?_ ?_;rotate_left;(focus ((intro W hSW;have p0:=unhide KI W hSW;go_simp) <;> with_reducible rfl));simp only [Act.put,List.setIfInBounds_toArray,List.set_cons_zero,List.set_cons_succ]))
 refine Txt.acts (by rfl) (by rfl) (by rfl) (fun K hK=>?_);go_simp
 try rw [t1,t2]
 refine (unhide HPa _ (unhide TT5)).mono ?_;rintro e w6 ⟨rfl,T6⟩;refine hK.out _ _ ((unhide KS _).2 ⟨_,T6⟩) ?_;clear hK K;refine Txt.done ?_;have TT:=hide (unhide HL1 _ _ T6);clear T6;go_wp2;go_end0;refine ⟨rfl,?_⟩;have:=unhide TT;rw [List.append_assoc] at this;exact this
theorem wSized_m (C:Cx) (F:Nat→Prop) (w:World) (bs:List UInt8) (h:Wt C F w bs) (b1 b2:Nat) (Y:List UInt8) (hY:Y.length≤200000) (hbs:bs.length≤40000000) (hpart:∀W F1 bs1,WtTo C F w bs1 W→Wt C F1 W bs1→bs1.length≤bs.length+4→Calls Tryz.prog 91 #[.pointer (some ⟨b1,0,none⟩),.pointer (some ⟨b2,0,none⟩)] W fun e w'=>e=.returned (.tuple #[])∧WtTo C F1 W (bs1++Y) w') :
 Calls Tryz.prog 90 #[C.v,.func (.func 91) #[] #[.pointer (some ⟨b1,0,none⟩),.pointer (some ⟨b2,0,none⟩)]] w fun e w'=>e=.returned (.tuple #[])∧WtTo C F w (bs++(bytesW 4 (Y.length:Int)++Y)) w':=by
 obtain ⟨w1,e1,f1,K1⟩:=one_local w #[.pointer (some ⟨C.x,0,none⟩),.pointer (some ⟨C.g,0,none⟩)] 106;have hW1:=h.below f1;have S1:=WtG.start hW1 F;obtain ⟨SS,hSS⟩:∃SS:World→Prop,SS=fun W=>∃bs',WtTo C F w1 bs' W:=⟨_,rfl⟩
 have KS:Hid (∀W,SS W↔∃bs',WtTo C F w1 bs' W):=fun W=>by rw [hSS]
 have KI:Hid (∀W,SS W→W.cell? ⟨w.heap.size,0,none⟩=some (.pointer (some ⟨C.x,0,none⟩))):=fun W hW=>by
  rw [hSS] at hW;obtain ⟨bs',hW⟩:=hW;exact h.box f1 hW (Nat.le_refl _) (K1 w1 (Below.refl _ _) 0 _ rfl)
 have HU:Hid (Calls Tryz.prog 57 #[.pointer (some ⟨C.x,0,none⟩),.int .i64 4,.slice (some ⟨w1.heap.size,0,none⟩) 1 1] (w1.alloc (.cells #[.int .i64 0] 3)) fun e w'=>e=.returned (.int .i64 0)∧WtTo C F w1 (bs++bytesW 4 0) w'):=by
  have:=wt_u hW1 (W':=w1.alloc (.cells #[.int .i64 0] 3)) ((Below.refl _ _).alloc (Nat.le_refl _) _) [0] 1 4 rfl (fun j y hj=>ints_at w1 [0] _ rfl j y hj) (by decide) (fun y hy=>by simp at hy;subst hy;exact fz4 (by omega)) (by omega) (by omega);exact hide (by simpa using this)
 have HLe:Hid (∀W bs',WtTo C F w1 bs' W→Calls Tryz.prog 122 #[.pointer (some ⟨C.x,0,none⟩)] W fun e w'=>e=.returned (.int .i64 (bs'.length:Int))∧WtTo C F w1 bs' w'):=fun W bs' hT=>by
  obtain ⟨F1,hF1,_⟩:=hT.ex;refine (eLen_any F1 W C.B C.x bs' hF1.wr).mono ?_;rintro e w' ⟨rfl,f⟩;exact ⟨rfl,hT.below f⟩
 have h4:(bytesW 4 0).length=4:=bytesW_len _ _;have hl4:(bs++bytesW 4 0).length=bs.length+4:=by rw [List.length_append,h4]
 have HP:Hid (∀W,WtTo C F w1 (bs++bytesW 4 0) W→Calls Tryz.prog 91 #[.pointer (some ⟨b1,0,none⟩),.pointer (some ⟨b2,0,none⟩)] W fun e w'=>e=.returned (.tuple #[])∧WtTo C F w1 (bs++bytesW 4 0++Y) w'):=fun W hT=>by
  have h0:=WtG.leave h f1 hT (fun j hj=>.inl hj);exact hT.step (P:=fun e=>e=.returned (.tuple #[])) (fun _ h=>h) (fun F1 hF1=>hpart W F1 _ h0 hF1 (by omega))
 have hpw:patchW (bs++bytesW 4 0++Y) (bs.length:Int) 4 (Y.length:Int)=(bs++bytesW 4 (Y.length:Int)++Y,0):=by
  unfold patchW;rw [if_pos ⟨(fz4 (by omega)).1,by omega,by simp only [List.length_append,h4];omega⟩];have e1:(bs++bytesW 4 0++Y).take bs.length=bs:=by rw [List.append_assoc,List.take_left]
  have e2:(bs++bytesW 4 0++Y).drop (bs.length+4)=Y:=by rw [←hl4,List.drop_left]
  simp only [Int.toNat_natCast];rw [e1,show (4:Int).toNat=4 from rfl,e2]
 have HPa:Hid (∀W,WtTo C F w1 (bs++bytesW 4 0++Y) W→Calls Tryz.prog 123 #[.pointer (some ⟨C.x,0,none⟩),.int .i64 (bs.length:Int),.int .i64 4,.int .i64 (Y.length:Int)] W fun e w'=>e=.returned (.int .i64 0)∧WtTo C F w1 (bs++bytesW 4 (Y.length:Int)++Y) w'):=fun W hT=>by
  refine hT.step (P:=fun e=>e=.returned (.int .i64 0)) (fun _ h=>h) (fun F1 hF1=>?_);have h1:=ePatch_any F1 W C.B C.x _ (bs.length:Int) 4 (Y.length:Int) hF1.wr (by simp only [List.length_append,h4];omega) (by omega) (by omega) (by omega);rw [hpw] at h1;refine h1.mono ?_;rintro e w' ⟨rfl,⟨F',r1,r2⟩,r3⟩;exact ⟨rfl,hF1.next r1 r2 r3⟩
 have HL1:Hid (∀bs' W,WtTo C F w1 bs' W→WtTo C F w bs' W):=fun bs' W hT=>WtG.leave h f1 hT (fun j hj=>.inl hj)
 have hlY:((bs++bytesW 4 0++Y).length:Int)=(bs.length:Int)+4+(Y.length:Int):=by simp only [List.length_append,h4];omega
 have q0:=unhide KI w1 ((unhide KS w1).2 ⟨_,S1⟩);have E1:=hide e1;have HLe1:Hid (∀W,WtTo C F w1 (bs++bytesW 4 0) W→Calls Tryz.prog 122 #[.pointer (some ⟨C.x,0,none⟩)] W fun e w'=>e=.returned (.int .i64 ((bs.length:Int)+4))∧WtTo C F w1 (bs++bytesW 4 0) w'):=fun W hT=>by
  have:=unhide HLe W _ hT;rw [hl4] at this;exact this
 have HLe2:Hid (∀W,WtTo C F w1 (bs++bytesW 4 0++Y) W→Calls Tryz.prog 122 #[.pointer (some ⟨C.x,0,none⟩)] W fun e w'=>e=.returned (.int .i64 ((bs.length:Int)+4+(Y.length:Int)))∧WtTo C F w1 (bs++bytesW 4 0++Y) w'):=fun W hT=>by
  have:=unhide HLe W _ hT;rw [hlY] at this;exact this
 clear h hSS K1 e1 hW1 S1 f1 HLe hpw hlY hl4 h4 hpart;generalize bytesW 4 0=z4 at *;generalize hyl:(Y.length:Int)=yl at *;generalize hbl:(bs.length:Int)=bl at *;have hyb:0≤yl∧yl≤200000:=by omega
 have hbb:0≤bl∧bl≤40000000:=by omega
 have s1:bl+4-4=bl:=by omega
 have s2:bl+4+yl-(bl+4)=yl:=by omega
 have t1:IntKind.i64.wrap bl=bl:=by rw [IntKind.wrap_i64];omega
 have t2:IntKind.i64.wrap yl=yl:=by rw [IntKind.wrap_i64];omega
 clear hyl hbl;unfold Cx.v;have e1:=unhide E1;go_enter Tryz.func90,Tryz.ntmps90;go_wp2_with fail;refine (unhide HU).mono ?_;rintro e w2 ⟨rfl,T2⟩;have q2:=unhide KI w2 ((unhide KS w2).2 ⟨_,T2⟩);have HLc:=hide (unhide HLe1 _ T2);clear e1 T2 HU q0;go_wp2_with fail;refine (unhide HLc).mono ?_;rintro e w3 ⟨rfl,T3⟩;have HPc:=hide (unhide HP _ T3);clear HLc T3;go_wp2_with fail;refine (unhide HPc).mono ?_;rintro e w4 ⟨rfl,T4⟩;have TT4:=hide T4;clear HPc T4 q2;go_wp2;refine wp_region_txt SS [6,9] [0,1,2,3,4,5,7,6,8,9] (by kernel_rfl) (by kernel_rfl) ((unhide KS _).2 ⟨_,(unhide TT4).below (Below.refl _ _).drew⟩) ?_
 repeat (first
  | (refine Txt.reads (v:=?_) (by rfl) (by rfl) (by rfl) ?_ ?_;rotate_left;(focus ((intro W hSW;have p0:=unhide KI W hSW;go_simp) <;> with_reducible rfl));simp only [Act.put,List.setIfInBounds_toArray,List.set_cons_zero,List.set_cons_succ]))
 refine Txt.acts (by rfl) (by rfl) (by rfl) (fun K hK=>?_);go_simp;refine (unhide HLe2 _ ((unhide TT4).below (Below.refl _ _).drew)).mono ?_;rintro e w5 ⟨rfl,T5⟩;refine hK.out _ _ ((unhide KS _).2 ⟨_,T5⟩) ?_;have TT5:=hide T5;clear hK K T5
 repeat (first
  | (refine Txt.reads (v:=?_) (by rfl) (by rfl) (by rfl) ?_ ?_;rotate_left;(focus ((intro W hSW;have p0:=unhide KI W hSW;go_simp) <;> with_reducible rfl));simp only [Act.put,List.setIfInBounds_toArray,List.set_cons_zero,List.set_cons_succ]))
 refine Txt.acts (by rfl) (by rfl) (by rfl) (fun K hK=>?_);go_simp
 try rw [t1,t2]
 refine (unhide HPa _ (unhide TT5)).mono ?_;rintro e w6 ⟨rfl,T6⟩;refine hK.out _ _ ((unhide KS _).2 ⟨_,T6⟩) ?_;clear hK K;refine Txt.done ?_;have TT:=hide (unhide HL1 _ _ T6);clear T6;go_wp2;go_end0;refine ⟨rfl,?_⟩;have:=unhide TT;rw [List.append_assoc] at this;exact this
theorem wCode2_any (C:Cx) (F:Nat→Prop) (w:World) (bs:List UInt8) (h:Wt C F w bs) (s:Sl) (xs:List MpR) (hL:Ls 3 mpc C.wc s.a s.n xs) (hE:∀x∈xs,MpIn C.wc x∧mapOk C.l x.m=true) (hri:riseB (-1) (xs.map MpR.m)=true) (hn:s.n≤256) (hbs:bs.length≤50000000) (b1 b2:Nat)
 (hb:w.cell? ⟨b1,0,none⟩=some (.pointer (some ⟨C.x,0,none⟩))∧w.cell? ⟨b1,1,none⟩=some (.pointer (some ⟨C.g,0,none⟩))∧w.cell? ⟨b2,4,none⟩=some s.v) :
 Calls Tryz.prog 126 #[.pointer (some ⟨b1,0,none⟩),.pointer (some ⟨b2,0,none⟩)] w fun e w'=>e=.returned (.tuple #[])∧WtTo C F w (bs++mapsB C.l (xs.map MpR.m)) w':=by
 have HW:=hide (wMaps_any C F w bs h s xs hL hE hri hn hbs);obtain ⟨c0,c1,c2⟩:=hb;obtain ⟨sa,sn,sc⟩:=s;unfold Cx.v at HW;unfold Sl.v at HW c2;simp only at HW c2;generalize mapsB C.l (xs.map MpR.m)=mb at *;clear h hL hE hri;go_enter Tryz.func126,Tryz.ntmps126;go_wp2_with fail;refine (unhide HW).mono ?_;rintro e w2 ⟨rfl,T2⟩;have TT:=hide T2;clear T2 HW;go_wp2;go_end0;exact ⟨rfl,unhide TT⟩
theorem codeB_len {l:List Ent} {c:Cd} (h:codeOk l c=true):(codeB l c).length≤107000∧(mapsB l c.maps).length≤100100:=by
 rw [←rightD_is] at h;unfold rightD at h;simp only [Bool.and_eq_true,decide_eq_true_eq] at h;obtain ⟨⟨⟨⟨_,_,_,_,_,hb,hh,hm⟩,h2⟩,h3⟩,h4⟩:=h;rw [rightM_all l _ _ (by omega),Bool.and_eq_true] at h4;have h5:=mpsB_len l c.maps (-1) h4.1;have h6:=flatM_len hdB 8 c.hs (fun x _=>by unfold hdB;simp [bytesW_len]);have h7:(mapsB l c.maps).length≤100100:=by
  unfold mapsB;rw [List.length_append,bytesW_len];show 2+_≤_;omega
 refine ⟨?_,h7⟩;have h8:(tableB l c.maps).length≤100110:=by
  unfold tableB;split
  · rw [bytesW_len];decide
  · simp only [List.length_append,bytesW_len]
    show 2+(2+(4+_))≤_;omega
 unfold codeB;simp only [List.length_append,bytesW_len];show 2+(2+(4+(_+(2+_))))≤_;omega
theorem wCode_any (C:Cx) (F:Nat→Prop) (w:World) (bs:List UInt8) (h:Wt C F w bs) (r:MdR) (hr:MdIn C.wc r) (hok:codeOk C.l r.m.code=true) (hbs:bs.length≤35000000) :
 Calls Tryz.prog 92 #[C.v,cdv r.m.code r.bs r.hs r.maps] w fun e w'=>e=.returned (.tuple #[])∧WtTo C F w (bs++codeB C.l r.m.code) w':=by
 obtain ⟨⟨acc,nm,ty,⟨st,lo,by_,hh,mm⟩⟩,⟨ba,bn,bc⟩,⟨ha,hn,hc⟩,⟨ma,mn,mcc⟩,mr⟩:=r;obtain ⟨r1,r2,r3,r4,r5,r6,r7,r8,r9,r10⟩:=hr;simp only at r4 r5 r6 r7 r8 r9 r10 hok ⊢;have hbn:=r6.bs.1;have hhn:=r8.ls.1;have hmn:=r9.ls.1;simp only at hbn hhn hmn;obtain ⟨_,hlenM⟩:=codeB_len hok;simp only at hlenM;have hokD:=hok;rw [←rightD_is] at hokD;unfold rightD at hokD;simp only [Bool.and_eq_true,decide_eq_true_eq] at hokD;obtain ⟨⟨⟨⟨d1,d2,d3,d4,d5,d6,d7,d8⟩,dh⟩,dm⟩,dr⟩:=hokD;rw [rightM_all C.l _ _ (by omega),Bool.and_eq_true] at dr;have hml:mm.length=mn:=by rw [r10,List.length_map];exact hmn
 unfold cdv Sl.v;simp only;obtain ⟨w1,e1,f1,z1,K1,K2⟩:=boxes2 w #[.pointer (some ⟨C.x,0,none⟩),.pointer (some ⟨C.g,0,none⟩)] 106 #[.int .i64 st,.int .i64 lo,.slice ba bn bc,.slice ha hn hc,.slice ma mn mcc] 47;have hW1:=h.below f1;have S1:=WtG.start hW1 F;obtain ⟨SS,hSS⟩:∃SS:World→Prop,SS=fun W=>∃bs',WtTo C F w1 bs' W:=⟨_,rfl⟩
 have KS:Hid (∀W,SS W↔∃bs',WtTo C F w1 bs' W):=fun W=>by rw [hSS]
 have KI:Hid (∀W,SS W→(W.cell? ⟨w.heap.size,0,none⟩=some (.pointer (some ⟨C.x,0,none⟩))∧W.cell? ⟨w.heap.size,1,none⟩=some (.pointer (some ⟨C.g,0,none⟩)))∧(W.cell? ⟨w.heap.size+1,0,none⟩=some (.int .i64 st)∧W.cell? ⟨w.heap.size+1,1,none⟩=some (.int .i64 lo)∧W.cell? ⟨w.heap.size+1,2,none⟩=some (.slice ba bn bc)∧W.cell? ⟨w.heap.size+1,3,none⟩=some (.slice ha hn hc)∧W.cell? ⟨w.heap.size+1,4,none⟩=some (.slice ma mn mcc))∧W.cell? ⟨C.g,1,none⟩=some (.map (some C.mt)) ∧
  (Instr.lookup 109 (.map (some C.mt)) (.string ⟨#[83,116,97,99,107,77,97,112,84,97,98,108,101]⟩) false).run Tryz.prog W=.ok (.int .i64 (utfN C.l sMaps:Int)) W):=fun W hW=>by
  rw [hSS] at hW;obtain ⟨bs',hW⟩:=hW;obtain ⟨F',hF,_⟩:=hW.ex;have hx:∀o v,(#[Value.pointer (some ⟨C.x,0,none⟩),.pointer (some ⟨C.g,0,none⟩)])[o]?=some v→W.cell? ⟨w.heap.size,o,none⟩=some v:=fun o v hv=>h.box f1 hW (Nat.le_refl _) (K1 o v hv)
  have hy:∀o v,(#[Value.int .i64 st,.int .i64 lo,.slice ba bn bc,.slice ha hn hc,.slice ma mn mcc])[o]?=some v→W.cell? ⟨w.heap.size+1,o,none⟩=some v:=fun o v hv=>h.box f1 hW (by omega) (K2 o v hv)
  exact ⟨⟨hx 0 _ rfl,hx 1 _ rfl⟩,⟨hy 0 _ rfl,hy 1 _ rfl,hy 2 _ rfl,hy 3 _ rfl,hy 4 _ rfl⟩,hF.nm.c1,hF.nm.texts.look (s:=sMaps) (by unfold fitS;decide)⟩
 have HU:Hid (∀W W' bs' (zs:List Int) (n:Nat) (k:Int),WtTo C F w1 bs' W→Below W.heap.size W W'→zs.length=n→(∀(j:Nat) (z:Int),zs[j]?=some z→W'.cell? ⟨W.heap.size,j,none⟩=some (.int .i64 z))→(k=2∧(∀z∈zs,0≤z∧z≤65535)∨k=4∧(∀z∈zs,0≤z∧z<4294967296))→bs'.length≤100000000→n≤1000→Calls Tryz.prog 57 #[.pointer (some ⟨C.x,0,none⟩),.int .i64 k,.slice (some ⟨W.heap.size,0,none⟩) n n] W' fun e w'=>e=.returned (.int .i64 0)∧WtTo C F w1 (bs'++zs.flatMap (bytesW k)) w'):=fun W W' bs' zs n k hT hf hn hz hk hb hnn=>
  hT.step (P:=fun e=>e=.returned (.int .i64 0)) (fun _ h=>h) (fun F1 hF1=>wt_u hF1 hf zs n k hn hz (by rcases hk with ⟨rfl,_⟩ | ⟨rfl,_⟩ <;> decide) (fun y hy=>by
   rcases hk with ⟨rfl,hk⟩ | ⟨rfl,hk⟩
   · exact fz2 (hk y hy)
   · exact fz4 (hk y hy)) hb hnn)
 have HBy:Hid (∀W bs',WtTo C F w1 bs' W→bs'.length≤100000000→Calls Tryz.prog 88 #[.pointer (some ⟨C.x,0,none⟩),.slice ba bn bc] W fun e w'=>e=.returned (.int .i64 0)∧WtTo C F w1 (bs'++by_) w'):=fun W bs' hT hb=>
  hT.step (P:=fun e=>e=.returned (.int .i64 0)) (fun _ h=>h) (fun F1 hF1=>wt_bytes hF1 ba bn bc by_ r6 hb (by omega))
 have HHs:Hid (∀W bs',WtTo C F w1 bs' W→bs'.length≤50000000→Calls Tryz.prog 124 #[C.v,.slice ha hn hc,.func (.func 125) #[] #[.pointer (some ⟨w.heap.size,0,none⟩)]] W fun e w'=>e=.returned (.tuple #[])∧WtTo C F w1 (bs'++(bytesW 2 (hn:Int)++hh.flatMap hdB)) w'):=fun W bs' hT hb=>by
  obtain ⟨F1,hF1,hF2⟩:=hT.ex;refine (wlH_any C F1 W bs' hF1 ⟨ha,hn,hc⟩ hh 8 (fun W2 hW2=>by
   obtain ⟨bs3,hW2⟩:=hW2;exact r8.ls.below (hF1.bel.trans (hW2.fr.below.mono hF1.hB))) (fun x hx=>List.all_eq_true.1 dh x hx) (fun x _=>by unfold hdB;simp [bytesW_len]) (by show hn≤65535;omega) (by show bs'.length+2+hn*8≤90000000;omega) w.heap.size (fun W2 hW2=>by
   obtain ⟨bs3,hW2⟩:=hW2;have:=(unhide KI W2 ((unhide KS W2).2 ⟨_,hT.comp hF2 hW2 (fun k hk=>hF2 k hk)⟩)).1;exact this)).mono ?_
  rintro e w2 ⟨rfl,hT2⟩;exact ⟨rfl,hT.comp hF2 hT2 (fun k hk=>hF2 k hk)⟩
 have HSz:Hid (∀W bs',WtTo C F w1 bs' W→bs'.length≤40000000→Calls Tryz.prog 90 #[C.v,.func (.func 126) #[] #[.pointer (some ⟨w.heap.size,0,none⟩),.pointer (some ⟨w.heap.size+1,0,none⟩)]] W fun e w'=>e=.returned (.tuple #[])∧WtTo C F w1 (bs'++(bytesW 4 ((mapsB C.l mm).length:Int)++mapsB C.l mm)) w'):=fun W bs' hT hb=>by
  obtain ⟨F1,hF1,hF2⟩:=hT.ex
  refine (wSized_c C F1 W bs' hF1 w.heap.size (w.heap.size+1) (mapsB C.l mm) (by omega) hb (fun W2 F2 bs2 hW2 hF3 hb2=>by
   have hk:=unhide KI W2 ((unhide KS W2).2 ⟨_,hT.comp hF2 hW2 (fun k hk=>hF2 k hk)⟩);have h9:=wCode2_any C F2 W2 bs2 hF3 ⟨ma,mn,mcc⟩ mr r9.ls (fun x hx=>⟨r9.each x hx,List.all_eq_true.1 dr.1 x.m (by rw [r10];exact List.mem_map_of_mem hx)⟩) (by rw [←r10];exact dr.2) (by show mn≤256;omega) (by omega) w.heap.size (w.heap.size+1) ⟨hk.1.1,hk.1.2,hk.2.1.2.2.2.2⟩;rw [←r10] at h9;exact h9)).mono ?_
  rintro e w2 ⟨rfl,hT2⟩;exact ⟨rfl,hT.comp hF2 hT2 (fun k hk=>hF2 k hk)⟩
 have HL1:Hid (∀bs' W,WtTo C F w1 bs' W→WtTo C F w bs' W):=fun bs' W hT=>WtG.leave h f1 hT (fun j hj=>.inl hj)
 have hut:=h.nm.utf sMaps;have HCB:Hid (codeB C.l ⟨st,lo,by_,hh,mm⟩=[st,lo].flatMap (bytesW 2)++([(bn:Int)].flatMap (bytesW 4)++(by_++((bytesW 2 (hn:Int)++hh.flatMap hdB)++tableB C.l mm)))):=by
  show codeB C.l ⟨st,lo,by_,hh,mm⟩=_;unfold codeB;simp only [List.flatMap_cons,List.flatMap_nil,List.append_nil,List.append_assoc,hbn,hhn]
 have HT0:Hid (mn=0→tableB C.l mm=[(0:Int)].flatMap (bytesW 2)):=fun e=>by
  have:mm=[]:=List.eq_nil_of_length_eq_zero (by omega);rw [this];simp [tableB]
 have HT1:Hid (mn≠0→tableB C.l mm=[(1:Int),(utfN C.l sMaps:Int)].flatMap (bytesW 2)++(bytesW 4 ((mapsB C.l mm).length:Int)++mapsB C.l mm)):=fun e=>by
  have:mm≠[]:=fun e2=>by rw [e2] at hml;simp at hml;omega
  unfold tableB;rw [if_neg this];simp
 have hst:∀z∈[st,lo],0≤z∧z≤65535:=fun z hz=>by
  simp at hz
  rcases hz with rfl | rfl <;> omega
 have HST:=hide hst;have hlh:(hh.flatMap hdB).length≤2048:=by
  have:=flatM_len hdB 8 hh (fun x _=>by unfold hdB;simp [bytesW_len]);omega
 have hlb:by_.length=bn:=hbn;have E1:=hide e1;have SS1:=hide S1;have q:=unhide KI w1 ((unhide KS w1).2 ⟨_,S1⟩);obtain ⟨⟨q0,q1⟩,⟨q2,q3,q4,q5,q6⟩,_⟩:=q;unfold fitI at r4 r5;generalize utfN C.l sMaps=us at *;generalize tableB C.l mm=tb at *;generalize codeB C.l ⟨st,lo,by_,hh,mm⟩=cb at *;generalize mapsB C.l mm=mb at *;generalize hfl:hh.flatMap hdB=hb2 at *;clear h hSS K1 K2 e1 hW1 S1 f1 r1 r2 r3 r6 r8 r9 r10 dh dm dr hok z1 hst hbn hfl hhn;unfold Cx.v at HHs HSz ⊢;have e1:=unhide E1;go_enter Tryz.func92,Tryz.ntmps92;go_wp2_with fail;refine (unhide HU w1 _ bs [st,lo] 2 2 (unhide SS1) ((Below.refl _ _).alloc (Nat.le_refl _) _) rfl (fun j y hj=>ints_at w1 [st,lo] _ rfl j y hj) (.inl ⟨rfl,unhide HST⟩) (by omega) (by omega)).mono ?_;rintro e w2 ⟨rfl,T2⟩;have TT2:=hide T2;obtain ⟨⟨c0,c1⟩,⟨c2,c3,c4,c5,c6⟩,_⟩:=unhide KI w2 ((unhide KS w2).2 ⟨_,T2⟩);clear e1 T2 q0 q1 q2 q3 q4 q5 q6;go_wp2_with fail;refine (unhide HU w2 _ _ [(bn:Int)] 1 4 (unhide TT2) ((Below.refl _ _).alloc (Nat.le_refl _) _) rfl (fun j y hj=>ints_at w2 [(bn:Int)] _ rfl j y hj) (.inr ⟨rfl,fun z hz=>by simp at hz;subst hz;omega⟩) (by simp [bytesW_len];omega) (by omega)).mono ?_;rintro e w3 ⟨rfl,T3⟩;have TT3:=hide T3;obtain ⟨⟨a0,a1⟩,⟨a2,a3,a4,a5,a6⟩,_⟩:=unhide KI w3 ((unhide KS w3).2 ⟨_,T3⟩);clear T3 c0 c1 c2 c3 c4 c5 c6 TT2;go_wp2_with fail;refine (unhide HBy w3 _ (unhide TT3) (by simp [bytesW_len];omega)).mono ?_;rintro e w4 ⟨rfl,T4⟩;have TT4:=hide T4;obtain ⟨⟨c0,c1⟩,⟨c2,c3,c4,c5,c6⟩,_⟩:=unhide KI w4 ((unhide KS w4).2 ⟨_,T4⟩);clear T4 a0 a1 a2 a3 a4 a5 a6 TT3;go_wp2_with fail;refine (unhide HHs w4 _ (unhide TT4) (by simp [bytesW_len];omega)).mono ?_;rintro e w5 ⟨rfl,T5⟩;have TT5:=hide T5;obtain ⟨⟨a0,a1⟩,⟨a2,a3,a4,a5,a6⟩,_⟩:=unhide KI w5 ((unhide KS w5).2 ⟨_,T5⟩);clear T5 c0 c1 c2 c3 c4 c5 c6 TT4;have hl5:(bs++[st,lo].flatMap (bytesW 2)++[(bn:Int)].flatMap (bytesW 4)++by_++(bytesW 2 (hn:Int)++hb2)).length≤36000000:=by simp [bytesW_len];omega
 generalize hB5:bs++[st,lo].flatMap (bytesW 2)++[(bn:Int)].flatMap (bytesW 4)++by_++(bytesW 2 (hn:Int)++hb2)=bs5 at *;have HB5:Hid (bs++cb=bs5++tb):=by
  show bs++cb=_;rw [unhide HCB,←hB5];simp only [List.append_assoc]
 clear HCB hB5
 by_cases hm0:mn=0
 · subst hm0
   have HTb:=hide (unhide HT0 rfl);clear HT0 HT1;go_wp2_with fail;refine (unhide HU w5 _ _ [(0:Int)] 1 2 (unhide TT5) ((Below.refl _ _).alloc (Nat.le_refl _) _) rfl (fun j y hj=>ints_at w5 [(0:Int)] _ rfl j y hj) (.inl ⟨rfl,fun z hz=>by simp at hz;subst hz;omega⟩) (by omega) (by omega)).mono ?_;rintro e w6 ⟨rfl,T6⟩;have TT:=hide (unhide HL1 _ _ T6);clear T6;go_wp2;refine bodyPost_ret (v:=.tuple #[]) (by simp [results,Tryz.results92,go_sem]) rfl ⟨rfl,?_⟩;rw [unhide HB5,unhide HTb];exact unhide TT
 · have hm1:((mn:Int)==0)=false:=by simpa using hm0
   have HTb:=hide (unhide HT1 hm0);clear HT0 HT1;go_wp2;refine wp_region_txt SS [8,9] (List.range 10) (by kernel_rfl) (by kernel_rfl) ((unhide KS _).2 ⟨_,(unhide TT5).below (Below.refl _ _).drew⟩) ?_
   repeat (first
    | (refine Txt.reads (v:=?_) (by rfl) (by rfl) (by rfl) ?_ ?_;rotate_left;(focus ((intro W hSW;obtain ⟨⟨p0,p1⟩,_,p4,p5⟩:=unhide KI W hSW;go_simp) <;> with_reducible rfl));simp only [Act.put,List.setIfInBounds_toArray,List.set_cons_zero,List.set_cons_succ]))
   refine Txt.acts (by rfl) (by rfl) (by rfl) (fun K hK=>?_);go_simp;refine hK.out _ _ ((unhide KS _).2 ⟨_,(unhide TT5).below ((Below.refl _ _).alloc (Nat.le_refl _) _).drew⟩) ?_;clear hK K;refine Txt.acts (by rfl) (by rfl) (by rfl) (fun K hK=>?_);go_simp;refine (unhide HU w5 _ _ [(1:Int),(us:Int)] 2 2 (unhide TT5) ((Below.refl _ _).alloc (Nat.le_refl _) _).drew rfl (fun j y hj=>ints_at w5 [(1:Int),(us:Int)] _ rfl j y hj) (.inl ⟨rfl,fun z hz=>by
    simp at hz
    rcases hz with rfl | rfl <;> omega⟩) (by omega) (by omega)).mono ?_
   rintro e w6 ⟨rfl,T6⟩;refine hK.out _ _ ((unhide KS _).2 ⟨_,T6⟩) ?_;clear hK K;refine Txt.done ?_;obtain ⟨⟨c0,c1⟩,⟨c2,c3,c4,c5,c6⟩,_⟩:=unhide KI w6 ((unhide KS w6).2 ⟨_,T6⟩);have HSc:=hide (unhide HSz w6 _ T6 (by simp [bytesW_len];omega));clear T6 a0 a1 a2 a3 a4 a5 a6;go_wp2_with fail;refine (unhide HSc).mono ?_;rintro e w7 ⟨rfl,T7⟩;have TT:=hide (unhide HL1 _ _ T7);clear T7 HSc;go_wp2;go_end0;refine ⟨rfl,?_⟩;rw [unhide HB5,unhide HTb,←List.append_assoc];exact unhide TT
theorem wMethod1_any (C:Cx) (F:Nat→Prop) (w:World) (bs:List UInt8) (h:Wt C F w bs) (r:MdR) (hr:MdIn C.wc r) (hok:codeOk C.l r.m.code=true) (hbs:bs.length≤35000000) (b1 b2:Nat)
 (hb:(w.cell? ⟨b1,0,none⟩=some (.pointer (some ⟨C.x,0,none⟩))∧w.cell? ⟨b1,1,none⟩=some (.pointer (some ⟨C.g,0,none⟩)))∧w.cell? ⟨b2,3,none⟩=some (.int .i64 r.m.code.stack)∧w.cell? ⟨b2,4,none⟩=some (.int .i64 r.m.code.locals)∧w.cell? ⟨b2,5,none⟩=some r.bs.v∧w.cell? ⟨b2,6,none⟩=some r.hs.v∧w.cell? ⟨b2,7,none⟩=some r.maps.v) :
 Calls Tryz.prog 91 #[.pointer (some ⟨b1,0,none⟩),.pointer (some ⟨b2,0,none⟩)] w fun e w'=>e=.returned (.tuple #[])∧WtTo C F w (bs++codeB C.l r.m.code) w':=by
 have HW:=hide (wCode_any C F w bs h r hr hok hbs);obtain ⟨⟨c0,c1⟩,c3,c4,c5,c6,c7⟩:=hb;obtain ⟨⟨acc,nm,ty,cd⟩,⟨ba,bn,bc⟩,⟨ha,hn,hc⟩,⟨ma,mn,mcc⟩,mr⟩:=r;unfold cdv Cx.v at HW;unfold Sl.v at HW c5 c6 c7;simp only at HW c3 c4 c5 c6 c7 ⊢;generalize codeB C.l cd=cb at *;generalize cd.stack=k1 at *;generalize cd.locals=k2 at *;clear h hr hok;go_enter Tryz.func91,Tryz.ntmps91;go_wp2_with fail;refine (unhide HW).mono ?_;rintro e w2 ⟨rfl,T2⟩;have TT:=hide T2;clear T2 HW;go_wp2;go_end0;exact ⟨rfl,unhide TT⟩
theorem wMethod_any (C:Cx) (F:Nat→Prop) (w:World) (bs:List UInt8) (h:Wt C F w bs) (r:MdR) (hr:MdIn C.wc r) (hok:rightMd C.l r.m=true) (hbs:bs.length≤30000000) :
 Calls Tryz.prog 63 #[C.v,.agg #[.int .i64 r.m.acc,.string ⟨r.m.name.toArray⟩,.string ⟨r.m.type.toArray⟩,.int .i64 r.m.code.stack,.int .i64 r.m.code.locals,r.bs.v,r.hs.v,r.maps.v]] w fun e w'=>e=.returned (.tuple #[])∧WtTo C F w (bs++methodB C.l r.m) w':=by
 rw [rightMd_is,Bool.and_eq_true,Bool.and_eq_true] at hok;obtain ⟨hacc,htx,hcode⟩:=hok;have h2:=hr.name;have h3:=hr.type;have hM1:=fun (W:World) (F1:Nat→Prop) (bs1:List UInt8) (hT:Wt C F1 W bs1) (hb:bs1.length≤35000000)=>wMethod1_any C F1 W bs1 hT r hr hcode hb
 obtain ⟨hlc,_⟩:=codeB_len hcode;obtain ⟨⟨acc,nm,ty,cd⟩,⟨ba,bn,bc⟩,⟨ha,hn,hc⟩,⟨ma,mn,mcc⟩,mr⟩:=r;simp only [Sl.v] at h2 h3 hM1 hacc htx hlc ⊢;obtain ⟨w1,e1,f1,z1,K1,K2⟩:=boxes2 w #[.pointer (some ⟨C.x,0,none⟩),.pointer (some ⟨C.g,0,none⟩)] 106 #[.int .i64 acc,.string ⟨nm.toArray⟩,.string ⟨ty.toArray⟩,.int .i64 cd.stack,.int .i64 cd.locals,.slice ba bn bc,.slice ha hn hc,.slice ma mn mcc] 49;have hW1:=h.below f1;have S1:=WtG.start hW1 F;obtain ⟨SS,hSS⟩:∃SS:World→Prop,SS=fun W=>∃bs',WtTo C F w1 bs' W:=⟨_,rfl⟩
 have KS:Hid (∀W,SS W↔∃bs',WtTo C F w1 bs' W):=fun W=>by rw [hSS]
 have KI:Hid (∀W,SS W→(W.cell? ⟨w.heap.size,0,none⟩=some (.pointer (some ⟨C.x,0,none⟩))∧W.cell? ⟨w.heap.size,1,none⟩=some (.pointer (some ⟨C.g,0,none⟩)))∧(W.cell? ⟨w.heap.size+1,0,none⟩=some (.int .i64 acc)∧W.cell? ⟨w.heap.size+1,1,none⟩=some (.string ⟨nm.toArray⟩)∧W.cell? ⟨w.heap.size+1,2,none⟩=some (.string ⟨ty.toArray⟩))∧(W.cell? ⟨w.heap.size+1,3,none⟩=some (.int .i64 cd.stack)∧W.cell? ⟨w.heap.size+1,4,none⟩=some (.int .i64 cd.locals)∧W.cell? ⟨w.heap.size+1,5,none⟩=some (.slice ba bn bc)∧W.cell? ⟨w.heap.size+1,6,none⟩=some (.slice ha hn hc)∧W.cell? ⟨w.heap.size+1,7,none⟩=some (.slice ma mn mcc))∧W.cell? ⟨C.g,1,none⟩=some (.map (some C.mt)) ∧
  (Instr.lookup 109 (.map (some C.mt)) (.string ⟨nm.toArray⟩) false).run Tryz.prog W=.ok (.int .i64 (utfN C.l nm:Int)) W∧(Instr.lookup 109 (.map (some C.mt)) (.string ⟨ty.toArray⟩) false).run Tryz.prog W=.ok (.int .i64 (utfN C.l ty:Int)) W∧(Instr.lookup 109 (.map (some C.mt)) (.string ⟨#[67,111,100,101]⟩) false).run Tryz.prog W=.ok (.int .i64 (utfN C.l sCode:Int)) W):=fun W hW=>by
  rw [hSS] at hW;obtain ⟨bs',hW⟩:=hW;obtain ⟨F',hF,_⟩:=hW.ex;have hx:∀o v,(#[Value.pointer (some ⟨C.x,0,none⟩),.pointer (some ⟨C.g,0,none⟩)])[o]?=some v→W.cell? ⟨w.heap.size,o,none⟩=some v:=fun o v hv=>h.box f1 hW (Nat.le_refl _) (K1 o v hv)
  have hy:∀o v,(#[Value.int .i64 acc,.string ⟨nm.toArray⟩,.string ⟨ty.toArray⟩,.int .i64 cd.stack,.int .i64 cd.locals,.slice ba bn bc,.slice ha hn hc,.slice ma mn mcc])[o]?=some v→W.cell? ⟨w.heap.size+1,o,none⟩=some v:=fun o v hv=>h.box f1 hW (by omega) (K2 o v hv)
  exact ⟨⟨hx 0 _ rfl,hx 1 _ rfl⟩,⟨hy 0 _ rfl,hy 1 _ rfl,hy 2 _ rfl⟩,⟨hy 3 _ rfl,hy 4 _ rfl,hy 5 _ rfl,hy 6 _ rfl,hy 7 _ rfl⟩,hF.nm.c1,hF.nm.texts.look h2,hF.nm.texts.look h3,hF.nm.texts.look (s:=sCode) (by unfold fitS;decide)⟩
 have hfit:∀z∈[acc,(utfN C.l nm:Int),(utfN C.l ty:Int),1,(utfN C.l sCode:Int)],0≤z∧z≤65535:=fun z hz=>by
  have u1:=h.nm.utf nm;have u2:=h.nm.utf ty;have u3:=h.nm.utf sCode;unfold accB at hacc;simp only [decide_eq_true_eq] at hacc;simp at hz
  rcases hz with rfl | rfl | rfl | rfl | rfl <;> omega
 have HU:Hid (Calls Tryz.prog 57 #[.pointer (some ⟨C.x,0,none⟩),.int .i64 2,.slice (some ⟨w1.heap.size,0,none⟩) 5 5] (w1.alloc (.cells #[.int .i64 acc,.int .i64 (utfN C.l nm:Int),.int .i64 (utfN C.l ty:Int),.int .i64 1,.int .i64 (utfN C.l sCode:Int)] 3)).drew fun e w'=>e=.returned (.int .i64 0)∧WtTo C F w1 (bs++[acc,(utfN C.l nm:Int),(utfN C.l ty:Int),1,(utfN C.l sCode:Int)].flatMap (bytesW 2)) w'):=
  wt_u hW1 ((Below.refl _ _).alloc (Nat.le_refl _) _).drew [acc,(utfN C.l nm:Int),(utfN C.l ty:Int),1,(utfN C.l sCode:Int)] 5 2 rfl (fun j y hj=>ints_at w1 [acc,(utfN C.l nm:Int),(utfN C.l ty:Int),1,(utfN C.l sCode:Int)] _ rfl j y hj) (by decide) (fun y hy=>fz2 (hfit y hy)) (by omega) (by omega)
 have HSz:Hid (∀W bs',WtTo C F w1 bs' W→bs'.length≤31000000→Calls Tryz.prog 90 #[C.v,.func (.func 91) #[] #[.pointer (some ⟨w.heap.size,0,none⟩),.pointer (some ⟨w.heap.size+1,0,none⟩)]] W fun e w'=>e=.returned (.tuple #[])∧WtTo C F w1 (bs'++(bytesW 4 ((codeB C.l cd).length:Int)++codeB C.l cd)) w'):=fun W bs' hT hb=>by
  obtain ⟨F1,hF1,hF2⟩:=hT.ex
  refine (wSized_m C F1 W bs' hF1 w.heap.size (w.heap.size+1) (codeB C.l cd) (by omega) (by omega) (fun W2 F2 bs2 hW2 hF3 hb2=>by
   have hk:=unhide KI W2 ((unhide KS W2).2 ⟨_,hT.comp hF2 hW2 (fun k hk=>hF2 k hk)⟩);exact hM1 W2 F2 bs2 hF3 (by omega) w.heap.size (w.heap.size+1) ⟨hk.1,hk.2.2.1⟩)).mono ?_
  rintro e w2 ⟨rfl,hT2⟩;exact ⟨rfl,hT.comp hF2 hT2 (fun k hk=>hF2 k hk)⟩
 have HL1:Hid (∀bs' W,WtTo C F w1 bs' W→WtTo C F w bs' W):=fun bs' W hT=>WtG.leave h f1 hT (fun j hj=>.inl hj)
 have HMB:Hid (methodB C.l ⟨acc,nm,ty,cd⟩=[acc,(utfN C.l nm:Int),(utfN C.l ty:Int),1,(utfN C.l sCode:Int)].flatMap (bytesW 2)++(bytesW 4 ((codeB C.l cd).length:Int)++codeB C.l cd)):=by
  show methodB C.l ⟨acc,nm,ty,cd⟩=_;unfold methodB;simp only [List.flatMap_cons,List.flatMap_nil,List.append_nil,List.append_assoc]
 have E1:=hide e1;have SS1:=hide S1;generalize (⟨nm.toArray⟩:ByteArray)=s1 at *;generalize (⟨ty.toArray⟩:ByteArray)=s2 at *;generalize utfN C.l nm=u1 at *;generalize utfN C.l ty=u2 at *;generalize utfN C.l sCode=u3 at *;generalize methodB C.l ⟨acc,nm,ty,cd⟩=mb at *;generalize codeB C.l cd=cb at *;generalize cd.stack=k1 at *;generalize cd.locals=k2 at *;clear h hSS K1 K2 e1 hW1 S1 f1 h2 h3 hM1 hacc htx hcode hfit z1 hr;unfold Cx.v at HSz ⊢;have e1:=unhide E1;go_enter Tryz.func63,Tryz.ntmps63;go_wp2;clear e1;refine wp_region_txt SS [26,27] (List.range 28) (by kernel_rfl) (by kernel_rfl) ((unhide KS _).2 ⟨_,(unhide SS1).below (Below.refl _ _).drew⟩) ?_
 repeat (first
  | (refine Txt.reads (v:=?_) (by rfl) (by rfl) (by rfl) ?_ ?_;rotate_left;(focus ((intro W hSW;obtain ⟨⟨p0,p1⟩,⟨p2,p3,p4⟩,_,p6,p7,p8,p9⟩:=unhide KI W hSW;go_simp) <;> with_reducible rfl));simp only [Act.put,List.setIfInBounds_toArray,List.set_cons_zero,List.set_cons_succ]))
 refine Txt.acts (by rfl) (by rfl) (by rfl) (fun K hK=>?_);go_simp;refine hK.out _ _ ((unhide KS _).2 ⟨_,(unhide SS1).below ((Below.refl _ _).alloc (Nat.le_refl _) _).drew⟩) ?_;clear hK K;refine Txt.acts (by rfl) (by rfl) (by rfl) (fun K hK=>?_);go_simp;refine (unhide HU).mono ?_;rintro e w2 ⟨rfl,T2⟩;refine hK.out _ _ ((unhide KS _).2 ⟨_,T2⟩) ?_;clear hK K;refine Txt.done ?_;obtain ⟨⟨c0,c1⟩,⟨c2,c3,c4⟩,⟨c5,c6,c7,c8,c9⟩,_⟩:=unhide KI w2 ((unhide KS w2).2 ⟨_,T2⟩);have HSc:=hide (unhide HSz w2 _ T2 (by simp [bytesW_len];omega));clear T2;go_wp2_with fail;refine (unhide HSc).mono ?_;rintro e w7 ⟨rfl,T7⟩;have TT:=hide (unhide HL1 _ _ T7);clear T7 HSc;go_wp2;go_end0;refine ⟨rfl,?_⟩;rw [unhide HMB,←List.append_assoc];exact unhide TT
theorem wlM_any (C:Cx) (F:Nat→Prop) (w:World) (bs:List UInt8) (h:Wt C F w bs) (s:Sl) (xs:List MdR) (M:Nat) (hL:∀W,(∃bs',WtTo C F w bs' W)→Ls 8 mdc W s.a s.n xs) (hE:∀x∈xs,MdIn C.wc x∧rightMd C.l x.m=true) (hM:∀x∈xs,((fun r=>methodB C.l (MdR.m r)) x).length≤M) (hn:s.n≤65535) (hbs:bs.length+2+s.n*M≤30000000) :
 Calls Tryz.prog 62 #[C.v,s.v,.func (.func 63) #[C.v] #[]] w fun e w'=>e=.returned (.tuple #[])∧WtTo C F w (bs++(bytesW 2 (s.n:Int)++xs.flatMap ((fun r=>methodB C.l (MdR.m r))))) w':=by
 obtain ⟨a,n,c⟩:=s;simp only at hL hn hbs ⊢;have hln:=(hL w ⟨_,WtG.start h F⟩).1;obtain ⟨w1,e1,f1,K1⟩:=one_local w #[.pointer (some ⟨C.x,0,none⟩),.pointer (some ⟨C.g,0,none⟩)] 106;have hW1:=h.below f1;have S1:=WtG.start hW1 F;have c0:=K1 w1 (Below.refl _ _) 0 _ rfl;have hlen:∀k,k≤n→((xs.take k).flatMap ((fun r=>methodB C.l (MdR.m r)))).length≤k*M:=fun k=>by
  induction k with
  | zero=>intro _;simp
  | succ k ih=>
   intro hk;obtain ⟨x,hx⟩:∃x,xs[k]?=some x:=⟨_,List.getElem?_eq_getElem (by omega)⟩;rw [List.take_add_one,hx,List.flatMap_append,List.length_append];have:=ih (by omega);have h9:=hM x (List.mem_of_getElem? hx)
   try simp only at h9
   simp only [Option.toList,List.flatMap_cons,List.flatMap_nil,List.append_nil];rw [Nat.succ_mul];omega
 have HU:Hid (Calls Tryz.prog 57 #[.pointer (some ⟨C.x,0,none⟩),.int .i64 2,.slice (some ⟨w1.heap.size,0,none⟩) 1 1] (w1.alloc (.cells #[.int .i64 (n:Int)] 3)) fun e w'=>e=.returned (.int .i64 0)∧WtTo C F w1 (bs++bytesW 2 (n:Int)) w'):=by
  have:=wt_u hW1 (W':=w1.alloc (.cells #[.int .i64 (n:Int)] 3)) ((Below.refl _ _).alloc (Nat.le_refl _) _) [(n:Int)] 1 2 rfl (fun j y hj=>ints_at w1 [(n:Int)] _ rfl j y hj) (by decide) (fun y hy=>by simp at hy;subst hy;exact fz2 (by omega)) (by omega) (by omega);exact hide (by simpa using this)
 have HL1:Hid (∀bs' W,WtTo C F w1 bs' W→WtTo C F w bs' W):=fun bs' W hT=>WtG.leave h f1 hT (fun j hj=>.inl hj)
 have HLL:Hid (∀bs' W,WtTo C F w1 bs' W→Ls 8 mdc W a n xs):=fun bs' W hT=>hL W ⟨_,unhide HL1 _ _ hT⟩
 have HO:Hid (∀bs' W x,WtTo C F w1 bs' W→x∈xs→bs'.length≤30000000→Calls Tryz.prog 63 #[C.v,.agg #[.int .i64 x.m.acc,.string ⟨x.m.name.toArray⟩,.string ⟨x.m.type.toArray⟩,.int .i64 x.m.code.stack,.int .i64 x.m.code.locals,x.bs.v,x.hs.v,x.maps.v]] W fun e w'=>e=.returned (.tuple #[])∧WtTo C F w1 (bs'++(fun r=>methodB C.l (MdR.m r)) x) w'):=fun bs' W x hT hxm hb=>by
  have hx:=hE x hxm;have hk5:=unhide HL1 _ _ hT;exact hT.step (P:=fun e=>e=.returned (.tuple #[])) (fun _ h=>h) (fun F1 hF1=>wMethod_any C F1 _ _ hF1 _ hx.1 hx.2 hb)
 have HLEN:=hide hlen;have E1:=hide e1;have SS1:=hide S1;clear h e1 hW1 S1 hlen hL hE hM f1 K1;unfold Cx.v Sl.v;simp only;have e1:=unhide E1;go_enter Tryz.func62,Tryz.ntmps62;go_wp2_with fail;refine (unhide HU).mono ?_;rintro e w2 ⟨rfl,T2⟩;have TT2:=hide T2;clear e1 T2 HU c0;go_wp2
 go_loopw [16] (fun i wr=>∃k:Nat,k≤n∧i=.int .i64 k∧WtTo C F w1 (bs++(bytesW 2 (n:Int)++(xs.take k).flatMap ((fun r=>methodB C.l (MdR.m r))))) wr) (fun i _=>n-(intOf i).toNat)
 case atStart=>exact ⟨0,by omega,rfl,by simpa using unhide TT2⟩
 case round=>
  obtain ⟨k,hk,rfl,hT⟩:=hrel
  by_cases hlt:k<n
  · have hlt1:(k:Int)<(n:Int):=by omega
    have hk0:(0:Int)≤(k:Int):=by omega
    have hLs:=unhide HLL _ _ hT;obtain ⟨b1,o1,h1a,h1⟩:=Ls.row hLs (w':=wr) (by omega);subst h1a;obtain ⟨x,hx1⟩:∃x,xs[k]?=some x:=⟨_,List.getElem?_eq_getElem (by omega)⟩;have q:=h1 (Below.refl _ _) k x hx1;have hstep:Hid (bs++(bytesW 2 (n:Int)++(xs.take (k+1)).flatMap ((fun r=>methodB C.l (MdR.m r))))=(bs++(bytesW 2 (n:Int)++(xs.take k).flatMap ((fun r=>methodB C.l (MdR.m r)))))++(fun r=>methodB C.l (MdR.m r)) x):=by
     show bs++(bytesW 2 (n:Int)++(xs.take (k+1)).flatMap ((fun r=>methodB C.l (MdR.m r))))=_;rw [List.take_add_one,hx1];simp
    have hbl:(bs++(bytesW 2 (n:Int)++(xs.take k).flatMap ((fun r=>methodB C.l (MdR.m r))))).length≤30000000:=by
     have:=unhide HLEN k (by omega);have h2:(bytesW 2 (n:Int)).length=2:=bytesW_len _ _;have h3:k*M≤n*M:=Nat.mul_le_mul_right _ (by omega);rw [List.length_append,List.length_append,h2];omega
    have hxm:=List.mem_of_getElem? hx1;obtain ⟨xm,⟨ba,bn,bc⟩,⟨ha,hn,hc⟩,⟨ma,mn,mcc⟩,xr⟩:=x;have c0:=q.zero;have c1:=q 1 _ rfl;have c2:=q 2 _ rfl;have c3:=q 3 _ rfl;have c4:=q 4 _ rfl;have c5:=q 5 _ rfl;have c6:=q 6 _ rfl;have c7:=q 7 _ rfl;simp only [Sl.v] at c0 c1 c2 c3 c4 c5 c6 c7;have HP:=hide (unhide HO _ (wr.alloc (.cells #[.int .i64 xm.acc,.string ⟨xm.name.toArray⟩,.string ⟨xm.type.toArray⟩,.int .i64 xm.code.stack,.int .i64 xm.code.locals,.slice ba bn bc,.slice ha hn hc,.slice ma mn mcc] 49)) _ (hT.below ((Below.refl _ _).alloc (Nat.le_refl _) _)) hxm hbl);clear q h1 hx1 hT hLs hbl hxm;unfold Cx.v at HP
    try simp only [Sl.v] at HP hstep
    generalize (⟨xm.name.toArray⟩:ByteArray)=s1 at *;generalize (⟨xm.type.toArray⟩:ByteArray)=s2 at *;go_wp2_with fail;refine (unhide HP).mono ?_;rintro e w4 ⟨rfl,T4⟩;have TT4:=hide T4;clear HP T4;go_wp2;go_roundw
    case rel=>exact ⟨k+1,by omega,by go_num,by rw [unhide hstep];exact unhide TT4⟩
    case measure=>simp [intOf];omega
  · obtain rfl:k=n:=by omega
    rw [List.take_of_length_le (by omega)] at hT;have TT:=hide (unhide HL1 _ _ hT);clear hT;go_wp2;go_end0;exact ⟨rfl,unhide TT⟩
theorem wField_any (C:Cx) (F:Nat→Prop) (w:World) (bs:List UInt8) (h:Wt C F w bs) (x:Fd) (hx:FdFit x) (hok:rightF C.l x=true) (hbs:bs.length≤90000000) :
 Calls Tryz.prog 61 #[C.v,.agg #[.int .i64 x.acc,.string ⟨x.name.toArray⟩,.string ⟨x.type.toArray⟩]] w fun e w'=>e=.returned (.tuple #[])∧WtTo C F w (bs++fieldB C.l x) w':=by
 obtain ⟨acc,nm,ty⟩:=x;obtain ⟨_,h2,h3⟩:=hx;unfold rightF at hok;simp only [Bool.and_eq_true,decide_eq_true_eq] at hok h2 h3 ⊢;obtain ⟨hacc,_⟩:=hok;obtain ⟨w1,e1,f1,z1,K1,K2⟩:=boxes2 w #[.pointer (some ⟨C.x,0,none⟩),.pointer (some ⟨C.g,0,none⟩)] 106 #[.int .i64 acc,.string ⟨nm.toArray⟩,.string ⟨ty.toArray⟩] 58;have hW1:=h.below f1;have S1:=WtG.start hW1 F;obtain ⟨SS,hSS⟩:∃SS:World→Prop,SS=fun W=>∃bs',WtTo C F w1 bs' W:=⟨_,rfl⟩
 have KS:Hid (∀W,SS W↔∃bs',WtTo C F w1 bs' W):=fun W=>by rw [hSS]
 have KI:Hid (∀W,SS W→(W.cell? ⟨w.heap.size,0,none⟩=some (.pointer (some ⟨C.x,0,none⟩))∧W.cell? ⟨w.heap.size,1,none⟩=some (.pointer (some ⟨C.g,0,none⟩)))∧(W.cell? ⟨w.heap.size+1,0,none⟩=some (.int .i64 acc)∧W.cell? ⟨w.heap.size+1,1,none⟩=some (.string ⟨nm.toArray⟩)∧W.cell? ⟨w.heap.size+1,2,none⟩=some (.string ⟨ty.toArray⟩))∧W.cell? ⟨C.g,1,none⟩=some (.map (some C.mt)) ∧
  (Instr.lookup 109 (.map (some C.mt)) (.string ⟨nm.toArray⟩) false).run Tryz.prog W=.ok (.int .i64 (utfN C.l nm:Int)) W∧(Instr.lookup 109 (.map (some C.mt)) (.string ⟨ty.toArray⟩) false).run Tryz.prog W=.ok (.int .i64 (utfN C.l ty:Int)) W):=fun W hW=>by
  rw [hSS] at hW;obtain ⟨bs',hW⟩:=hW;obtain ⟨F',hF,_⟩:=hW.ex;exact ⟨⟨h.box f1 hW (Nat.le_refl _) (K1 0 _ rfl),h.box f1 hW (Nat.le_refl _) (K1 1 _ rfl)⟩,⟨h.box f1 hW (by omega) (K2 0 _ rfl),h.box f1 hW (by omega) (K2 1 _ rfl),h.box f1 hW (by omega) (K2 2 _ rfl)⟩,hF.nm.c1,hF.nm.texts.look h2,hF.nm.texts.look h3⟩
 have hfit:∀z∈[acc,(utfN C.l nm:Int),(utfN C.l ty:Int),0],0≤z∧z≤65535:=fun z hz=>by
  have u1:=h.nm.utf nm;have u2:=h.nm.utf ty;simp at hz
  rcases hz with rfl | rfl | rfl | rfl <;> omega
 have HU:Hid (Calls Tryz.prog 57 #[.pointer (some ⟨C.x,0,none⟩),.int .i64 2,.slice (some ⟨w1.heap.size,0,none⟩) 4 4] (w1.alloc (.cells #[.int .i64 acc,.int .i64 (utfN C.l nm:Int),.int .i64 (utfN C.l ty:Int),.int .i64 0] 3)).drew fun e w'=>e=.returned (.int .i64 0)∧WtTo C F w1 (bs++[acc,(utfN C.l nm:Int),(utfN C.l ty:Int),0].flatMap (bytesW 2)) w'):=
  wt_u hW1 ((Below.refl _ _).alloc (Nat.le_refl _) _).drew [acc,(utfN C.l nm:Int),(utfN C.l ty:Int),0] 4 2 rfl (fun j y hj=>ints_at w1 [acc,(utfN C.l nm:Int),(utfN C.l ty:Int),0] _ rfl j y hj) (by decide) (fun y hy=>fz2 (hfit y hy)) (by omega) (by omega)
 have HL1:Hid (∀bs' W,WtTo C F w1 bs' W→WtTo C F w bs' W):=fun bs' W hT=>WtG.leave h f1 hT (fun j hj=>.inl hj)
 have HMB:Hid (fieldB C.l ⟨acc,nm,ty⟩=[acc,(utfN C.l nm:Int),(utfN C.l ty:Int),0].flatMap (bytesW 2)):=by
  show fieldB C.l ⟨acc,nm,ty⟩=_;unfold fieldB;simp only [List.flatMap_cons,List.flatMap_nil,List.append_nil]
 have E1:=hide e1;have SS1:=hide S1;generalize (⟨nm.toArray⟩:ByteArray)=s1 at *;generalize (⟨ty.toArray⟩:ByteArray)=s2 at *;generalize utfN C.l nm=u1 at *;generalize utfN C.l ty=u2 at *;generalize fieldB C.l ⟨acc,nm,ty⟩=mb at *;clear h hSS K1 K2 e1 hW1 S1 f1 h2 h3 hacc hfit z1;unfold Cx.v;have e1:=unhide E1;go_enter Tryz.func61,Tryz.ntmps61;go_wp2;clear e1;refine wp_region_txt SS [20,21] (List.range 22) (by kernel_rfl) (by kernel_rfl) ((unhide KS _).2 ⟨_,(unhide SS1).below (Below.refl _ _).drew⟩) ?_
 repeat (first
  | (refine Txt.reads (v:=?_) (by rfl) (by rfl) (by rfl) ?_ ?_;rotate_left;(focus ((intro W hSW;obtain ⟨⟨p0,p1⟩,⟨p2,p3,p4⟩,p6,p7,p8⟩:=unhide KI W hSW;go_simp) <;> with_reducible rfl));simp only [Act.put,List.setIfInBounds_toArray,List.set_cons_zero,List.set_cons_succ]))
 refine Txt.acts (by rfl) (by rfl) (by rfl) (fun K hK=>?_);go_simp;refine hK.out _ _ ((unhide KS _).2 ⟨_,(unhide SS1).below ((Below.refl _ _).alloc (Nat.le_refl _) _).drew⟩) ?_;clear hK K;refine Txt.acts (by rfl) (by rfl) (by rfl) (fun K hK=>?_);go_simp;refine (unhide HU).mono ?_;rintro e w2 ⟨rfl,T2⟩;refine hK.out _ _ ((unhide KS _).2 ⟨_,T2⟩) ?_;clear hK K;refine Txt.done ?_;have TT:=hide (unhide HL1 _ _ T2);clear T2;go_wp2;go_end0;refine ⟨rfl,?_⟩;rw [unhide HMB];exact unhide TT
theorem wlF_any (C:Cx) (F:Nat→Prop) (w:World) (bs:List UInt8) (h:Wt C F w bs) (s:Sl) (xs:List Fd) (M:Nat) (hL:∀W,(∃bs',WtTo C F w bs' W)→Ls 3 fdc W s.a s.n xs) (hE:∀x∈xs,FdFit x∧rightF C.l x=true) (hM:∀x∈xs,(fieldB C.l x).length≤M) (hn:s.n≤65535) (hbs:bs.length+2+s.n*M≤90000000) :
 Calls Tryz.prog 60 #[C.v,s.v,.func (.func 61) #[C.v] #[]] w fun e w'=>e=.returned (.tuple #[])∧WtTo C F w (bs++(bytesW 2 (s.n:Int)++xs.flatMap (fieldB C.l))) w':=by
 obtain ⟨a,n,c⟩:=s;simp only at hL hn hbs ⊢;have hln:=(hL w ⟨_,WtG.start h F⟩).1;obtain ⟨w1,e1,f1,K1⟩:=one_local w #[.pointer (some ⟨C.x,0,none⟩),.pointer (some ⟨C.g,0,none⟩)] 106;have hW1:=h.below f1;have S1:=WtG.start hW1 F;have c0:=K1 w1 (Below.refl _ _) 0 _ rfl;have hlen:∀k,k≤n→((xs.take k).flatMap (fieldB C.l)).length≤k*M:=fun k=>by
  induction k with
  | zero=>intro _;simp
  | succ k ih=>
   intro hk;obtain ⟨x,hx⟩:∃x,xs[k]?=some x:=⟨_,List.getElem?_eq_getElem (by omega)⟩;rw [List.take_add_one,hx,List.flatMap_append,List.length_append];have:=ih (by omega);have h9:=hM x (List.mem_of_getElem? hx)
   try simp only at h9
   simp only [Option.toList,List.flatMap_cons,List.flatMap_nil,List.append_nil];rw [Nat.succ_mul];omega
 have HU:Hid (Calls Tryz.prog 57 #[.pointer (some ⟨C.x,0,none⟩),.int .i64 2,.slice (some ⟨w1.heap.size,0,none⟩) 1 1] (w1.alloc (.cells #[.int .i64 (n:Int)] 3)) fun e w'=>e=.returned (.int .i64 0)∧WtTo C F w1 (bs++bytesW 2 (n:Int)) w'):=by
  have:=wt_u hW1 (W':=w1.alloc (.cells #[.int .i64 (n:Int)] 3)) ((Below.refl _ _).alloc (Nat.le_refl _) _) [(n:Int)] 1 2 rfl (fun j y hj=>ints_at w1 [(n:Int)] _ rfl j y hj) (by decide) (fun y hy=>by simp at hy;subst hy;exact fz2 (by omega)) (by omega) (by omega);exact hide (by simpa using this)
 have HL1:Hid (∀bs' W,WtTo C F w1 bs' W→WtTo C F w bs' W):=fun bs' W hT=>WtG.leave h f1 hT (fun j hj=>.inl hj)
 have HLL:Hid (∀bs' W,WtTo C F w1 bs' W→Ls 3 fdc W a n xs):=fun bs' W hT=>hL W ⟨_,unhide HL1 _ _ hT⟩
 have HO:Hid (∀bs' W x,WtTo C F w1 bs' W→x∈xs→bs'.length≤90000000→Calls Tryz.prog 61 #[C.v,.agg #[.int .i64 x.acc,.string ⟨x.name.toArray⟩,.string ⟨x.type.toArray⟩]] W fun e w'=>e=.returned (.tuple #[])∧WtTo C F w1 (bs'++fieldB C.l x) w'):=fun bs' W x hT hxm hb=>by
  have hx:=hE x hxm;have hk5:=unhide HL1 _ _ hT;exact hT.step (P:=fun e=>e=.returned (.tuple #[])) (fun _ h=>h) (fun F1 hF1=>wField_any C F1 _ _ hF1 x hx.1 hx.2 hb)
 have HLEN:=hide hlen;have E1:=hide e1;have SS1:=hide S1;clear h e1 hW1 S1 hlen hL hE hM f1 K1;unfold Cx.v Sl.v;simp only;have e1:=unhide E1;go_enter Tryz.func60,Tryz.ntmps60;go_wp2_with fail;refine (unhide HU).mono ?_;rintro e w2 ⟨rfl,T2⟩;have TT2:=hide T2;clear e1 T2 HU c0;go_wp2
 go_loopw [16] (fun i wr=>∃k:Nat,k≤n∧i=.int .i64 k∧WtTo C F w1 (bs++(bytesW 2 (n:Int)++(xs.take k).flatMap (fieldB C.l))) wr) (fun i _=>n-(intOf i).toNat)
 case atStart=>exact ⟨0,by omega,rfl,by simpa using unhide TT2⟩
 case round=>
  obtain ⟨k,hk,rfl,hT⟩:=hrel
  by_cases hlt:k<n
  · have hlt1:(k:Int)<(n:Int):=by omega
    have hk0:(0:Int)≤(k:Int):=by omega
    have hLs:=unhide HLL _ _ hT;obtain ⟨b1,o1,h1a,h1⟩:=Ls.row hLs (w':=wr) (by omega);subst h1a;obtain ⟨x,hx1⟩:∃x,xs[k]?=some x:=⟨_,List.getElem?_eq_getElem (by omega)⟩;have q:=h1 (Below.refl _ _) k x hx1;have hstep:Hid (bs++(bytesW 2 (n:Int)++(xs.take (k+1)).flatMap (fieldB C.l))=(bs++(bytesW 2 (n:Int)++(xs.take k).flatMap (fieldB C.l)))++fieldB C.l x):=by
     show bs++(bytesW 2 (n:Int)++(xs.take (k+1)).flatMap (fieldB C.l))=_;rw [List.take_add_one,hx1];simp
    have hbl:(bs++(bytesW 2 (n:Int)++(xs.take k).flatMap (fieldB C.l))).length≤90000000:=by
     have:=unhide HLEN k (by omega);have h2:(bytesW 2 (n:Int)).length=2:=bytesW_len _ _;have h3:k*M≤n*M:=Nat.mul_le_mul_right _ (by omega);rw [List.length_append,List.length_append,h2];omega
    have hxm:=List.mem_of_getElem? hx1;have c0:=q.zero;have c1:=q 1 _ rfl;have c2:=q 2 _ rfl;have HP:=hide (unhide HO _ (wr.alloc (.cells #[.int .i64 x.acc,.string ⟨x.name.toArray⟩,.string ⟨x.type.toArray⟩] 58)) _ (hT.below ((Below.refl _ _).alloc (Nat.le_refl _) _)) hxm hbl);clear q h1 hx1 hT hLs hbl hxm;unfold Cx.v at HP
    try simp only [Sl.v] at HP hstep
    generalize (⟨x.name.toArray⟩:ByteArray)=s1 at *;generalize (⟨x.type.toArray⟩:ByteArray)=s2 at *;go_wp2_with fail;refine (unhide HP).mono ?_;rintro e w4 ⟨rfl,T4⟩;have TT4:=hide T4;clear HP T4;go_wp2;go_roundw
    case rel=>exact ⟨k+1,by omega,by go_num,by rw [unhide hstep];exact unhide TT4⟩
    case measure=>simp [intOf];omega
  · obtain rfl:k=n:=by omega
    rw [List.take_of_length_le (by omega)] at hT;have TT:=hide (unhide HL1 _ _ hT);clear hT;go_wp2;go_end0;exact ⟨rfl,unhide TT⟩
theorem wSuper_any (C:Cx) (F:Nat→Prop) (w:World) (bs:List UInt8) (h:Wt C F w bs) (r:ClR) (hs:fitS r.c.super) :
 Calls Tryz.prog 59 #[C.v,r.v] w fun e w'=>e=.returned (.int .i64 (superN C.l r.c.super:Int))∧Below w.heap.size w w':=by
 obtain ⟨⟨pl,nm,sp,fl,ml⟩,⟨pa,pn,pc⟩,⟨fa,fn,fc⟩,⟨ma,mn,mcc⟩,mr⟩:=r;unfold ClR.v Cx.v Sl.v;simp only at hs ⊢;obtain ⟨w1,e1,f1,z1,K1,K2⟩:=boxes2 w #[.pointer (some ⟨C.x,0,none⟩),.pointer (some ⟨C.g,0,none⟩)] 106 #[.slice pa pn pc,.string ⟨nm.toArray⟩,.string ⟨sp.toArray⟩,.slice fa fn fc,.slice ma mn mcc] 26;have hW1:=h.below f1;have q1:=K1 1 _ rfl;have q2:=K2 2 _ rfl;have c2:=hW1.nm.c2;have lk:=hW1.nm.classes.look hs;obtain ⟨S,hS⟩:∃S,S=superN C.l sp:=⟨_,rfl⟩;rw [←hS];unfold superN at hS;obtain ⟨zs,hzs⟩:∃zs:ByteArray,zs=⟨sp.toArray⟩:=⟨_,rfl⟩;have i1:zs=⟨#[]⟩↔sp=[]:=by rw [hzs];simp
 have i2:zs.toList=[]↔sp=[]:=by rw [hzs];simp
 rw [←hzs] at q2 lk e1 ⊢;generalize (⟨nm.toArray⟩:ByteArray)=s1 at *;have E1:=hide e1;have F1:=hide f1
 by_cases hsp:sp=[]
 · rw [if_pos hsp] at hS
   have hz:=i1.2 hsp;subst hS hz;clear h hW1 K1 K2 e1 f1 i1 i2 hsp c2 lk z1 hs hzs;have e1:=unhide E1;go_enter Tryz.func59,Tryz.ntmps59;go_wp2;go_ret;exact ⟨rfl,unhide F1⟩
 · rw [if_neg hsp] at hS
   have hz2:¬zs.toList=[]:=fun h=>hsp (i2.1 h)
   have hz3:(zs.toList==[])=false:=by simpa using hz2
   rw [←hS] at lk;obtain ⟨SS,hSS⟩:∃SS:World→Prop,SS=fun W=>W.heap=w1.heap:=⟨_,rfl⟩
   have KS:Hid (SS w1.drew):=by
    show SS _;rw [hSS];rfl
   have KF:Hid (∀W,SS W→Below w.heap.size w W→True):=fun _ _ _=>trivial
   have KI:Hid (∀W,Below w1.heap.size w1 W→W.cell? ⟨w.heap.size,1,none⟩=some (.pointer (some ⟨C.g,0,none⟩))∧W.cell? ⟨w.heap.size+1,2,none⟩=some (.string zs)∧W.cell? ⟨C.g,2,none⟩=some (.map (some C.mc))∧(Instr.lookup 109 (.map (some C.mc)) (.string zs) false).run Tryz.prog W=.ok (.int .i64 (S:Int)) W):=fun W f=>by
    have lk2:=(hW1.below f).nm.classes.look hs;rw [←hzs,←hS] at lk2;exact ⟨(f.cell (World.block_lt_of_cell? _ _ q1)).trans q1,(f.cell (World.block_lt_of_cell? _ _ q2)).trans q2,(hW1.below f).nm.c2,lk2⟩
   clear h hW1 K1 K2 e1 f1 i1 i2 hsp c2 lk z1 hs hzs q1 hS KS KF hSS SS;have e1:=unhide E1;go_enter Tryz.func59,Tryz.ntmps59;go_wp2;clear e1;obtain ⟨SS,hSS⟩:∃SS:World→Prop,SS=fun W=>Below w1.heap.size w1 W:=⟨_,rfl⟩
   have KS:Hid (∀W,SS W↔Below w1.heap.size w1 W):=fun W=>by rw [hSS]
   clear hSS;refine wp_region_txt SS [] (List.range 9) (by kernel_rfl) (by kernel_rfl) ((unhide KS _).2 (Below.refl _ _).drew) ?_
   repeat (first
    | (refine Txt.reads (v:=?_) (by rfl) (by rfl) (by rfl) ?_ ?_;rotate_left;(focus ((intro W hSW;obtain ⟨p0,p1,p2,p3⟩:=unhide KI W ((unhide KS W).1 hSW);go_simp) <;> with_reducible rfl));simp only [Act.put,List.setIfInBounds_toArray,List.set_cons_zero,List.set_cons_succ]))
   refine Txt.done ?_;have F2:=hide ((unhide F1).trans (((Below.refl _ _).drew).mono (unhide F1).size));go_wp2;go_ret;exact ⟨rfl,unhide F2⟩
end Go.Proofs.YtlabllgifkklhaaGreatDoor
