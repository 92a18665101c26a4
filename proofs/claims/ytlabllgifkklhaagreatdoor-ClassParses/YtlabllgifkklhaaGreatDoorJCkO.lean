/- The landed class: bytesOf. -/
import Derived.Test.YtlabllgifkklhaaGreatDoorJP25
import Derived.Deep.RegionWith
import Derived.Deep.Cut
set_option linter.unusedVariables false
set_option maxRecDepth 100000
set_option maxHeartbeats 6400000
namespace Go.Proofs.YtlabllgifkklhaaGreatDoor
open Go.RowKit
theorem bcell8 {W w1:World} (hb:Below W.heap.size W w1):(∀b o,b<W.heap.size→w1.cell? ⟨b,o,none⟩=W.cell? ⟨b,o,none⟩)∧(∀b o,b<W.heap.size→w1.frozen? ⟨b,o,none⟩=W.frozen? ⟨b,o,none⟩):=
 ⟨fun b o h=>hb.cell (p:=⟨b,o,none⟩) h,fun b o h=>hb.frozen (p:=⟨b,o,none⟩) h⟩
theorem WR.base {F:Nat→Prop} {w:World} {B B' x:Nat} {bs:List UInt8} (h:WR F w B x bs) (hB:B'≤B):WR F w B' x bs:=by
 obtain ⟨y,c,rfl,h⟩:=h;exact ⟨y,c,rfl,h.base hB⟩
def Rof (w0:World) (p:Sl) (l:List Ent) (p3:Nat) (wr:World):Prop:=
 ∃x g mt mc F,WR F wr w0.heap.size x []∧Nm wr g mt mc p l∧Below w0.heap.size w0 wr∧(¬F g∧¬F mt∧¬F mc∧¬F p3)∧wr.cell? ⟨p3,0,none⟩=some (.pointer (some ⟨x,0,none⟩))∧wr.cell? ⟨p3,1,none⟩=some (.pointer (some ⟨g,0,none⟩))
theorem rof_store {w0 W:World} {p:Sl} {l:List Ent} {p3 x g mt mc:Nat} {F:Nat→Prop} {T:TypeId} {a b:Value} (h1:WR F W w0.heap.size x []) (h2:Nm W g mt mc p l) (h3:Below w0.heap.size w0 W) (hp:EIn w0 p.a p.n p.c l) (h4:¬F g∧¬F mt∧¬F mc∧¬F p3) (h5:W.heap[p3]?=some (.cells #[a,b] T (0,0))) (h6:p3≠g∧p3≠mt∧p3≠mc) (h7:w0.heap.size≤p3) :
 Rof w0 p l p3 ((W.setCell ⟨p3,0,none⟩ (.pointer (some ⟨x,0,none⟩))).setCell ⟨p3,1,none⟩ (.pointer (some ⟨g,0,none⟩))):=by
 have hk:∀k,k≠p3→((W.setCell ⟨p3,0,none⟩ (.pointer (some ⟨x,0,none⟩))).setCell ⟨p3,1,none⟩ (.pointer (some ⟨g,0,none⟩))).heap[k]?=W.heap[k]?:=fun k hne=>(Below.heap_setCell _ _ _ _ hne).trans (Below.heap_setCell _ _ _ _ hne)
 have hb:Below w0.heap.size w0 ((W.setCell ⟨p3,0,none⟩ (.pointer (some ⟨x,0,none⟩))).setCell ⟨p3,1,none⟩ (.pointer (some ⟨g,0,none⟩))):=(h3.setCell h7 _).setCell h7 _;have s1:=heap_setCell_same W p3 0 _ _ (.pointer (some ⟨x,0,none⟩)) h5;have s2:=heap_setCell_same (W.setCell ⟨p3,0,none⟩ (.pointer (some ⟨x,0,none⟩))) p3 1 _ _ (.pointer (some ⟨g,0,none⟩)) s1;refine ⟨x,g,mt,mc,F,h1.keep (fun k hF=>hk k (fun e=>h4.2.2.2 (e▸hF))),h2.other (hk _ (fun e=>h6.1 e.symm)) (hk _ (fun e=>h6.2.1 e.symm)) (hk _ (fun e=>h6.2.2 e.symm)) (hp.below hb),hb,h4,?_,?_⟩
 · rw [cell_of_row _ _ _ _ _ _ s2];simp
 · rw [cell_of_row _ _ _ _ _ _ s2];simp
theorem rof_last {w0 w2 w3:World} {p:Sl} {l:List Ent} {x g mt mc:Nat} {F:Nat→Prop} {T:TypeId} (h1:WR F w2 w0.heap.size x []) (h2:Nm w3 g mt mc p l) (z:w2.heap.size≤g∧w2.heap.size≤mt∧w2.heap.size≤mc) (f2:Below w0.heap.size w0 w2) (f3:Below w2.heap.size w2 w3) :
 Rof w0 p l w3.heap.size (w3.alloc (.cells #[.pointer (some ⟨x,0,none⟩),.pointer (some ⟨g,0,none⟩)] T)):=by
 have hF:=kwr_lt h1;have nf:∀k,w2.heap.size≤k→¬F k:=fun k hk e=>by have:=(hF k e).2;omega
 have fa:Below w3.heap.size w3 (w3.alloc (.cells #[.pointer (some ⟨x,0,none⟩),.pointer (some ⟨g,0,none⟩)] T)):=(Below.refl _ _).alloc (Nat.le_refl _) _;have s:=heap_alloc_last w3 (.cells #[.pointer (some ⟨x,0,none⟩),.pointer (some ⟨g,0,none⟩)] T);refine ⟨x,g,mt,mc,F,kwr_below (kwr_below h1 f3) fa,h2.below fa,f2.trans ((f3.trans (fa.mono f3.size)).mono f2.size),⟨nf _ z.1,nf _ z.2.1,nf _ z.2.2,nf _ f3.size⟩,?_,?_⟩
 · rw [cell_of_row _ _ _ _ _ _ s];rfl
 · rw [cell_of_row _ _ _ _ _ _ s];rfl
theorem rof_mid {w0 w2 w3:World} {p:Sl} {l:List Ent} {x g mt mc:Nat} {F:Nat→Prop} {T:TypeId} {a b:Value} (h1:WR F w2 w0.heap.size x []) (h2:Nm w3 g mt mc p l) (hp:EIn w0 p.a p.n p.c l) (z:w2.heap.size+1≤g∧w2.heap.size+1≤mt∧w2.heap.size+1≤mc) (f2:Below w0.heap.size w0 w2) (f3:Below (w2.alloc (.cells #[a,b] T)).heap.size (w2.alloc (.cells #[a,b] T)) w3) :
 Rof w0 p l w2.heap.size ((w3.setCell ⟨w2.heap.size,0,none⟩ (.pointer (some ⟨x,0,none⟩))).setCell ⟨w2.heap.size,1,none⟩ (.pointer (some ⟨g,0,none⟩))):=by
 have hF:=kwr_lt h1;have nf:∀k,w2.heap.size≤k→¬F k:=fun k hk e=>by have:=(hF k e).2;omega
 have fa:Below w2.heap.size w2 (w2.alloc (.cells #[a,b] T)):=(Below.refl _ _).alloc (Nat.le_refl _) _;have fb:=fa.trans (f3.mono fa.size);have s:=(f3.block w2.heap.size (by simp)).trans (heap_alloc_last w2 (.cells #[a,b] T));exact rof_store (kwr_below h1 fb) h2 (f2.trans (fb.mono f2.size)) hp ⟨nf _ (by omega),nf _ (by omega),nf _ (by omega),nf _ (Nat.le_refl _)⟩ s ⟨by omega,by omega,by omega⟩ f2.size
theorem rof_first {w0 w2 w3:World} {p:Sl} {l:List Ent} {x g mt mc:Nat} {F:Nat→Prop} {T:TypeId} {a b:Value} (h1:WR F w2 (w0.alloc (.cells #[a,b] T)).drew.heap.size x []) (h2:Nm w3 g mt mc p l) (hp:EIn w0 p.a p.n p.c l) (z:w2.heap.size≤g∧w2.heap.size≤mt∧w2.heap.size≤mc) (f2:Below (w0.alloc (.cells #[a,b] T)).drew.heap.size (w0.alloc (.cells #[a,b] T)).drew w2) (f3:Below w2.heap.size w2 w3) :
 Rof w0 p l w0.heap.size ((w3.setCell ⟨w0.heap.size,0,none⟩ (.pointer (some ⟨x,0,none⟩))).setCell ⟨w0.heap.size,1,none⟩ (.pointer (some ⟨g,0,none⟩))):=by
 have e0:(w0.alloc (.cells #[a,b] T)).drew.heap.size=w0.heap.size+1:=by simp
 have hF:=kwr_lt h1;rw [e0] at hF;have nf:∀k,w2.heap.size≤k→¬F k:=fun k hk e=>by have:=(hF k e).2;omega
 have hs:=f2.size;rw [e0] at hs;have fa:Below w0.heap.size w0 (w0.alloc (.cells #[a,b] T)).drew:=((Below.refl _ _).alloc (Nat.le_refl _) _).drew;have fb:=fa.trans (f2.mono (by omega));have s:w3.heap[w0.heap.size]?=some (.cells #[a,b] T (0,0)):=(f3.block _ (by omega)).trans ((f2.block _ (by omega)).trans (heap_alloc_last w0 (.cells #[a,b] T)));exact rof_store ((kwr_below h1 f3).base (by omega)) h2 (fb.trans (f3.mono fb.size)) hp ⟨nf _ z.1,nf _ z.2.1,nf _ z.2.2,fun e=>by have:=(hF _ e).1;omega⟩ s ⟨by omega,by omega,by omega⟩ (Nat.le_refl _)
theorem methodB_len {l:List Ent} {m:Md} (h:rightMd l m=true):(methodB l m).length≤107100:=by
 rw [rightMd_is,Bool.and_eq_true,Bool.and_eq_true] at h;have h1:=(codeB_len h.2.2).1;unfold methodB;simp only [List.length_append,bytesW_len];show 2+(2+(2+(2+(2+(4+_)))))≤_;omega
theorem bytesP_len {l:List Ent} (hc:checkP l=true):(bytesP l).length≤400000:=by
 obtain ⟨⟨hl1,hl2⟩,hall⟩:=(checkP_all l).1 hc;have:=take_len hall l.length (Nat.le_refl _);rw [←all_bytes ((checkP_right.1 hc).2).1,List.length_append,bytesW_len];show 2+_≤_;omega
theorem wOf_any (w:World) (r:ClR) (hC:CIn w r) (hT:Tab8 w) (hok:rightK r.c=true) :
 Calls Tryz.prog 24 #[r.v] w fun e w'=>∃v,e=.returned v∧w'.ownsRow w.heap.size 5 1 v (bytesK r.c).length (bv (bytesK r.c))∧Below w.heap.size w w':=by
 have hsup:=fun (C:Cx) (F:Nat→Prop) (W:World) (bs:List UInt8) (h:Wt C F W bs)=>wSuper_any C F W bs h r hC.super
 obtain ⟨⟨pl,nm,sp,fl,ml⟩,⟨pa,pn,pc⟩,⟨fa,fn,fc⟩,⟨ma,mn,mcc⟩,mr⟩:=r;obtain ⟨h1,h2,h3,h4,h5,h6⟩:=hC;simp only at h1 h2 h3 h4 h5 h6 hok;unfold ClR.v Sl.v at hsup ⊢;simp only at hsup ⊢;obtain ⟨w0,e0,f0,K0⟩:=one_local w #[.slice pa pn pc,.string ⟨nm.toArray⟩,.string ⟨sp.toArray⟩,.slice fa fn fc,.slice ma mn mcc] 26;have q0:=K0 w0 (Below.refl _ _) 0 _ rfl;have hokk:=hok;rw [rightK_is] at hokk;simp only [Bool.and_eq_true,Bool.or_eq_true,decide_eq_true_eq] at hokk;obtain ⟨hck,hcn,hcs,hcf,hcm⟩:=hokk;unfold areB at hcf hcm;simp only [Bool.and_eq_true,decide_eq_true_eq] at hcf hcm;have hfn:=h4.ls.1;have hmn:=h5.ls.1;simp only at hfn hmn;have hml:ml.length=mn:=by rw [h6,List.length_map];exact hmn
 have HNm:Hid (∀W,Below w0.heap.size w0 W→Calls Tryz.prog 50 #[.slice pa pn pc] W fun e w'=>∃g mt mc,e=.returned (.pointer (some ⟨g,0,none⟩))∧Nm w' g mt mc ⟨pa,pn,pc⟩ pl∧(W.heap.size≤g∧W.heap.size≤mt∧W.heap.size≤mc)∧Below W.heap.size W w'):=fun W f=>nOf_any W ⟨pa,pn,pc⟩ pl (h1.below (f0.trans (f.mono f0.size))) hck
 have hbx:w.heap.size<w0.heap.size:=World.block_lt_of_cell? _ _ q0
 -- behind the making
 have KR:Hid (∀p3 wr,Rof w0 ⟨pa,pn,pc⟩ pl p3 wr→∃C F,C.l=pl∧C.wc=w∧C.B=w0.heap.size∧Wt C F wr []∧¬F p3∧p3<wr.heap.size∧wr.cell? ⟨p3,0,none⟩=some (.pointer (some ⟨C.x,0,none⟩))∧wr.cell? ⟨p3,1,none⟩=some (.pointer (some ⟨C.g,0,none⟩))∧Below w0.heap.size w0 wr):=fun p3 wr ⟨x,g,mt,mc,F,a1,a2,a3,a4,a5,a6⟩=>
  ⟨⟨w,w0.heap.size,x,g,mt,mc,⟨pa,pn,pc⟩,pl⟩,F,rfl,rfl,rfl,⟨a1,f0.trans (a3.mono f0.size),f0.size,a2,a4.1,a4.2.1,a4.2.2.1,h1,hT⟩,a4.2.2.2,World.block_lt_of_cell? _ _ a5,a5,a6,a3⟩
 have HB:Hid (bytesK ⟨pl,nm,sp,fl,ml⟩=[3405691582].flatMap (bytesW 4)++([(0:Int),52].flatMap (bytesW 2)++(bytesP pl++([33,(clsN pl nm:Int),(superN pl sp:Int),0].flatMap (bytesW 2)++((bytesW 2 (fn:Int)++fl.flatMap (fieldB pl))++((bytesW 2 (mn:Int)++mr.flatMap (fun r=>methodB pl (MdR.m r)))++[(0:Int)].flatMap (bytesW 2))))))):=by
  show bytesK ⟨pl,nm,sp,fl,ml⟩=_;have e1:headK=[3405691582].flatMap (bytesW 4)++[(0:Int),52].flatMap (bytesW 2):=by decide +kernel
  have e2:mr.flatMap (fun r=>methodB pl (MdR.m r))=ml.flatMap (methodB pl):=by rw [h6,List.flatMap_map]
  unfold bytesK bodyK;rw [e1,e2];simp only [hfn,hml,List.flatMap_cons,List.flatMap_nil,List.append_nil,List.append_assoc]
 have HWF:Hid (∀C F W bs,C.l=pl→C.wc=w→Wt C F W bs→bs.length≤500000→Calls Tryz.prog 60 #[C.v,.slice fa fn fc,.func (.func 61) #[C.v] #[]] W fun e w'=>e=.returned (.tuple #[])∧WtTo C F W (bs++(bytesW 2 (fn:Int)++fl.flatMap (fieldB pl))) w'):=fun C F W bs hl hw h hb=>by
  subst hl hw;exact wlF_any C F W bs h ⟨fa,fn,fc⟩ fl 8 (fun W2 hW2=>by
   obtain ⟨bs3,hW2⟩:=hW2;exact h4.ls.below (h.bel.trans (hW2.fr.below.mono h.hB))) (fun x hx=>⟨h4.each x hx,List.all_eq_true.1 hcf.2 x hx⟩) (fun x _=>by unfold fieldB;simp [bytesW_len]) (by show fn≤65535;omega) (by show bs.length+2+fn*8≤90000000;omega)
 have HWM:Hid (∀C F W bs,C.l=pl→C.wc=w→Wt C F W bs→bs.length≤600000→Calls Tryz.prog 62 #[C.v,.slice ma mn mcc,.func (.func 63) #[C.v] #[]] W fun e w'=>e=.returned (.tuple #[])∧WtTo C F W (bs++(bytesW 2 (mn:Int)++mr.flatMap (fun r=>methodB pl (MdR.m r)))) w'):=fun C F W bs hl hw h hb=>by
  subst hl hw;have hrm:∀x∈mr,rightMd C.l x.m=true:=fun x hx=>List.all_eq_true.1 hcm.2 x.m (by rw [h6];exact List.mem_map_of_mem hx)
  exact wlM_any C F W bs h ⟨ma,mn,mcc⟩ mr 107100 (fun W2 hW2=>by
   obtain ⟨bs3,hW2⟩:=hW2;exact h5.ls.below (h.bel.trans (hW2.fr.below.mono h.hB))) (fun x hx=>⟨h5.each x hx,hrm x hx⟩) (fun x hx=>methodB_len (hrm x hx)) (by show mn≤65535;omega) (by show bs.length+2+mn*107100≤30000000;omega)
 have HWP:Hid (∀C F W bs,C.l=pl→C.wc=w→Wt C F W bs→bs.length≤100→Calls Tryz.prog 58 #[.pointer (some ⟨C.x,0,none⟩),.slice pa pn pc] W fun e w'=>e=.returned (.int .i64 0)∧WtTo C F W (bs++bytesP pl) w'):=fun C F W bs hl hw h hb=>by
  subst hl hw;have hk:=kWrite_any F W C.B C.x bs pa pn pc C.l h.wr (h1.below h.bel) (fun b o e hn hF=>by
   have hes:=h1.arg.es
   rcases hes.2 with h0 | ⟨b',o',e',hE⟩
   · omega
   · rw [e] at e'
     injection e' with e'
     injection e' with e1 e2
     subst e1 e2;have:=World.block_lt_of_cell? _ _ (ents_at hE (k:=0) (by have:=hes.1;omega)).1;simp only at this;have:=(h.lt b hF).1;have:=h.hB;omega) (by omega)
  rw [if_pos hck,if_pos hck] at hk;refine hk.mono ?_;rintro e w' ⟨rfl,⟨F',r1,r2⟩,r3⟩;exact ⟨rfl,h.next r1 r2 r3⟩
 have HWS:Hid (∀C F W bs,C.l=pl→Wt C F W bs→Calls Tryz.prog 59 #[C.v,.agg #[.slice pa pn pc,.string ⟨nm.toArray⟩,.string ⟨sp.toArray⟩,.slice fa fn fc,.slice ma mn mcc]] W fun e w'=>e=.returned (.int .i64 (superN pl sp:Int))∧Below W.heap.size W w'):=fun C F W bs hl h=>by
  subst hl;exact hsup C F W bs h
 have HLK:Hid (∀C F W bs,C.l=pl→Wt C F W bs→W.cell? ⟨C.g,2,none⟩=some (.map (some C.mc))∧(Instr.lookup 109 (.map (some C.mc)) (.string ⟨nm.toArray⟩) false).run Tryz.prog W=.ok (.int .i64 (clsN pl nm:Int)) W):=fun C F W bs hl h=>by
  subst hl;exact ⟨h.nm.c2,h.nm.classes.look h2⟩
 have hsz:∀z∈[33,(clsN pl nm:Int),(superN pl sp:Int),0],0≤z∧z≤65535:=fun z hz=>by
  have l1:=(checkP_right.1 hck).1;have u1:clsN pl nm<1024:=by have:=clsN_some hcn;omega
  have u2:superN pl sp<1024:=by
   unfold superN;split
   · omega
   · rename_i hne
     rcases hcs with h | h
     · exact absurd h hne
     · have:=clsN_some h;omega
  simp at hz
  rcases hz with rfl | rfl | rfl | rfl <;> omega
 have HSZ:=hide hsz;have hlP:=bytesP_len hck;have hlF:(fl.flatMap (fieldB pl)).length≤2048:=by
  have:=flatM_len (fieldB pl) 8 fl (fun x _=>by unfold fieldB;simp [bytesW_len]);have:=hcf.1;omega
 have hlM:(mr.flatMap (fun r=>methodB pl (MdR.m r))).length≤27417600:=by
  have:=flatM_len (fun r=>methodB pl (MdR.m r)) 107100 mr (fun x hx=>methodB_len (List.all_eq_true.1 hcm.2 x.m (by rw [h6];exact List.mem_map_of_mem hx)));have:=hcm.1;omega
 have KB0:Hid (∀W,Below w0.heap.size w0 W→W.cell? ⟨w.heap.size,0,none⟩=some (.slice pa pn pc)∧W.cell? ⟨w.heap.size,1,none⟩=some (.string ⟨nm.toArray⟩)∧W.cell? ⟨w.heap.size,2,none⟩=some (.string ⟨sp.toArray⟩)∧W.cell? ⟨w.heap.size,3,none⟩=some (.slice fa fn fc)∧W.cell? ⟨w.heap.size,4,none⟩=some (.slice ma mn mcc)):=fun W f=>⟨K0 W f 0 _ rfl,K0 W f 1 _ rfl,K0 W f 2 _ rfl,K0 W f 3 _ rfl,K0 W f 4 _ rfl⟩
 have HEI:Hid (EIn w0 pa pn pc pl):=h1.below f0;have E0:=hide e0;have F0:=hide f0;generalize bytesK ⟨pl,nm,sp,fl,ml⟩=bk at *;generalize bytesP pl=bp at *;generalize fl.flatMap (fieldB pl)=bf at *;generalize mr.flatMap (fun r=>methodB pl (MdR.m r))=bm at *;generalize clsN pl nm=u1 at *;generalize superN pl sp=u2 at *;generalize (⟨nm.toArray⟩:ByteArray)=s1 at *;generalize (⟨sp.toArray⟩:ByteArray)=s2 at *;clear e0 K0 f0 h1 h2 h3 h4 h5 h6 hok hck hcn hcs hcf hcm hfn hmn hml hsup hT hsz;have e0:=unhide E0;go_enter Tryz.func24,Tryz.ntmps24;go_wp2;clear e0
 go_cut [3] from 4 (fun v3 wr=>∃p3,v3=.pointer (some ⟨p3,0,none⟩)∧Rof w0 ⟨pa,pn,pc⟩ pl p3 wr)
 case first=>
  have HEI2:=unhide HEI;clear HEI;have HE3:=hide HEI2;clear HEI2
  go_region_with
   (first
    | (go_at_call 56;refine Calls.mono (eMake_any _) ?_;rintro e w2 ⟨x,F,rfl,r2,f2⟩;have R2:=hide (And.intro r2 f2);obtain ⟨hc2,hf2⟩:=bcell8 f2;have hz2:=f2.size;try simp at hz2 hc2 hf2;have hB2:Below w0.heap.size w0 w2:=(by first | exact ((Below.refl _ _).drew).trans (f2.mono (by simp)) | exact (((Below.refl _ _).alloc (Nat.le_refl _) _).drew).trans (f2.mono (by simp)));have hk2:w2.cell? ⟨w.heap.size,0,none⟩=some (.slice pa pn pc):=(hB2.cell hbx).trans q0;have hk2a:∀X,(w2.alloc X).cell? ⟨w.heap.size,0,none⟩=some (.slice pa pn pc):=(fun X=>((hB2.alloc hB2.size _).cell hbx).trans q0);have hz2b:w0.heap.size≤w2.heap.size:=hB2.size;clear r2 f2;try (have hz2c:w0.heap.size<w2.heap.size:=(by omega)))
    | (go_at_call 50;refine Calls.mono (unhide HNm _ (by first | exact hB2 | exact hB2.alloc hB2.size _)) ?_;rintro e w3 ⟨g,mt,mc,rfl,n3,z3,f3⟩;have R3:=hide (And.intro n3 (And.intro z3 f3));obtain ⟨hc3,hf3⟩:=bcell8 f3;have hz3:=f3.size;clear n3 z3 f3;try simp at hz3 hc3 hf3;try (have hz3c:w0.heap.size<w3.heap.size:=(by omega));try (have hz3d:w2.heap.size<w3.heap.size:=(by omega))))
  all_goals
   go_wp2;go_meet
   case rel=>
    first
     | exact ⟨_,rfl,rof_last (unhide R2).1 (unhide R3).1 (unhide R3).2.1 hB2 (unhide R3).2.2⟩
     | exact ⟨_,rfl,rof_mid (unhide R2).1 (unhide R3).1 (unhide HE3) (by simpa using (unhide R3).2.1) hB2 (unhide R3).2.2⟩
     | exact ⟨_,rfl,rof_first (unhide R2).1 (unhide R3).1 (unhide HE3) (unhide R3).2.1 (unhide R2).2 (unhide R3).2.2⟩
 case rest=>
  obtain ⟨p3,rfl,hRof⟩:=hcut;obtain ⟨C,F,hCl,hCw,hCB,hW,hFp,hpl,hp0,hp1,hb0⟩:=unhide KR p3 wc hRof;obtain ⟨SS,hSS⟩:∃SS:World→Prop,SS=fun W=>∃bs',WtTo C F wc bs' W:=⟨_,rfl⟩
  have KS:Hid (∀W,SS W↔∃bs',WtTo C F wc bs' W):=fun W=>by rw [hSS]
  have KI:Hid (∀W,SS W→((W.cell? ⟨w.heap.size,0,none⟩=some (.slice pa pn pc)∧W.cell? ⟨w.heap.size,1,none⟩=some (.string s1)∧W.cell? ⟨w.heap.size,2,none⟩=some (.string s2)∧W.cell? ⟨w.heap.size,3,none⟩=some (.slice fa fn fc)∧W.cell? ⟨w.heap.size,4,none⟩=some (.slice ma mn mcc))∧(W.cell? ⟨p3,0,none⟩=some (.pointer (some ⟨C.x,0,none⟩))∧W.cell? ⟨p3,1,none⟩=some (.pointer (some ⟨C.g,0,none⟩))))∧W.cell? ⟨C.g,2,none⟩=some (.map (some C.mc))∧(Instr.lookup 109 (.map (some C.mc)) (.string s1) false).run Tryz.prog W=.ok (.int .i64 (u1:Int)) W):=fun W hSW=>by
   rw [hSS] at hSW;obtain ⟨bs',hT⟩:=hSW;obtain ⟨F',hF',_⟩:=hT.ex;have hbW:Below w0.heap.size w0 W:=hb0.trans (by have:=hT.fr.below;rw [hCB] at this;exact this);exact ⟨⟨unhide KB0 W hbW,(hT.keep hpl hFp 0).trans hp0,(hT.keep hpl hFp 1).trans hp1⟩,unhide HLK C F' W bs' hCl hF'⟩
  have HU:Hid (∀W W' bs' (zs:List Int) (n:Nat) (k:Int),WtTo C F wc bs' W→Below W.heap.size W W'→zs.length=n→(∀(j:Nat) (z:Int),zs[j]?=some z→W'.cell? ⟨W.heap.size,j,none⟩=some (.int .i64 z))→(k=2∧(∀z∈zs,0≤z∧z≤65535)∨k=4∧(∀z∈zs,0≤z∧z<4294967296))→bs'.length≤100000000→n≤1000→Calls Tryz.prog 57 #[.pointer (some ⟨C.x,0,none⟩),.int .i64 k,.slice (some ⟨W.heap.size,0,none⟩) n n] W' fun e w'=>e=.returned (.int .i64 0)∧WtTo C F wc (bs'++zs.flatMap (bytesW k)) w'):=fun W W' bs' zs n k hT hf hn hz hk hb hnn=>
   hT.step (P:=fun e=>e=.returned (.int .i64 0)) (fun _ h=>h) (fun F1 hF1=>wt_u hF1 hf zs n k hn hz (by rcases hk with ⟨rfl,_⟩ | ⟨rfl,_⟩ <;> decide) (fun y hy=>by
    rcases hk with ⟨rfl,hk⟩ | ⟨rfl,hk⟩
    · exact fz2 (hk y hy)
    · exact fz4 (hk y hy)) hb hnn)
  have HP1:Hid (∀W bs',WtTo C F wc bs' W→bs'.length≤100→Calls Tryz.prog 58 #[.pointer (some ⟨C.x,0,none⟩),.slice pa pn pc] W fun e w'=>e=.returned (.int .i64 0)∧WtTo C F wc (bs'++bp) w'):=fun W bs' hT hb=>hT.step (P:=fun e=>e=.returned (.int .i64 0)) (fun _ h=>h) (fun F1 hF1=>unhide HWP C F1 W bs' hCl hCw hF1 hb)
  have HF1:Hid (∀W bs',WtTo C F wc bs' W→bs'.length≤500000→Calls Tryz.prog 60 #[C.v,.slice fa fn fc,.func (.func 61) #[C.v] #[]] W fun e w'=>e=.returned (.tuple #[])∧WtTo C F wc (bs'++(bytesW 2 (fn:Int)++bf)) w'):=fun W bs' hT hb=>hT.step (P:=fun e=>e=.returned (.tuple #[])) (fun _ h=>h) (fun F1 hF1=>unhide HWF C F1 W bs' hCl hCw hF1 hb)
  have HM1:Hid (∀W bs',WtTo C F wc bs' W→bs'.length≤600000→Calls Tryz.prog 62 #[C.v,.slice ma mn mcc,.func (.func 63) #[C.v] #[]] W fun e w'=>e=.returned (.tuple #[])∧WtTo C F wc (bs'++(bytesW 2 (mn:Int)++bm)) w'):=fun W bs' hT hb=>hT.step (P:=fun e=>e=.returned (.tuple #[])) (fun _ h=>h) (fun F1 hF1=>unhide HWM C F1 W bs' hCl hCw hF1 hb)
  have HS1:Hid (∀W bs',WtTo C F wc bs' W→Calls Tryz.prog 59 #[C.v,.agg #[.slice pa pn pc,.string s1,.string s2,.slice fa fn fc,.slice ma mn mcc]] W fun e w'=>e=.returned (.int .i64 (u2:Int))∧WtTo C F wc bs' w'):=fun W bs' hT=>by
   obtain ⟨F1,hF1,_⟩:=hT.ex;refine (unhide HWS C F1 W bs' hCl hF1).mono ?_;rintro e w' ⟨rfl,f⟩;exact ⟨rfl,hT.below f⟩
  have HAll:Hid (∀W bs',WtTo C F wc bs' W→bs'.length≤100000000→Calls Tryz.prog 64 #[.pointer (some ⟨C.x,0,none⟩)] W fun e w'=>∃v,e=.returned v∧w'.ownsRow w.heap.size 5 1 v bs'.length (bv bs')∧Below w.heap.size w w'):=fun W bs' hT hb=>by
   obtain ⟨F1,hF1,_⟩:=hT.ex;have hbW:Below w0.heap.size w0 W:=hb0.trans (by have:=hT.fr.below;rw [hCB] at this;exact this);have hb1:Below w.heap.size w W:=(unhide F0).trans (hbW.mono (unhide F0).size);refine (eAll_any F1 W C.B C.x bs' hF1.wr (by omega)).mono ?_;rintro e w' ⟨v,rfl,o,f⟩;exact ⟨v,rfl,own_base o hb1.size,hb1.trans (f.mono hb1.size)⟩
  have SS1:=hide (WtG.start hW F);obtain ⟨⟨⟨q1,q2,q3,q4,q5⟩,q6,q7⟩,_⟩:=unhide KI wc ((unhide KS wc).2 ⟨_,unhide SS1⟩);unfold Cx.v at HF1 HM1 HS1;clear hRof hW hSS HWF HWM HWP HWS HLK KB0 HEI KR HNm hCl hCw hCB hFp hpl hp0 hp1 hb0 F0 q0;go_wp2_with fail;refine (unhide HU wc _ [] [3405691582] 1 4 (unhide SS1) ((Below.refl _ _).alloc (Nat.le_refl _) _) rfl (fun j y hj=>ints_at wc [3405691582] _ rfl j y hj) (.inr ⟨rfl,fun z hz=>by simp at hz;subst hz;omega⟩) (by simp) (by omega)).mono ?_;rintro e w2 ⟨rfl,T2⟩;have TT2:=hide T2;obtain ⟨⟨⟨c1,c2,c3,c4,c5⟩,c6,c7⟩,_⟩:=unhide KI w2 ((unhide KS w2).2 ⟨_,T2⟩);clear T2 q1 q2 q3 q4 q5 q6 q7;go_wp2_with fail;refine (unhide HU w2 _ _ [0,52] 2 2 (unhide TT2) ((Below.refl _ _).alloc (Nat.le_refl _) _) rfl (fun j y hj=>ints_at w2 [0,52] _ rfl j y hj) (.inl ⟨rfl,fun z hz=>by simp at hz;rcases hz with rfl | rfl <;> omega⟩) (by simp [bytesW_len]) (by omega)).mono ?_;rintro e w3 ⟨rfl,T3⟩;have TT3:=hide T3;obtain ⟨⟨⟨q1,q2,q3,q4,q5⟩,q6,q7⟩,_⟩:=unhide KI w3 ((unhide KS w3).2 ⟨_,T3⟩);clear T3 c1 c2 c3 c4 c5 c6 c7 TT2;go_wp2_with fail;refine (unhide HP1 w3 _ (unhide TT3) (by simp [bytesW_len])).mono ?_;rintro e w4 ⟨rfl,T4⟩;have TT4:=hide T4;clear T4 q1 q2 q3 q4 q5 q6 q7 TT3;go_wp2;refine wp_region_txt SS [12,13,14] (List.range 15) (by kernel_rfl) (by kernel_rfl) ((unhide KS _).2 ⟨_,(unhide TT4).below (Below.refl _ _).drew⟩) ?_
  repeat (first
   | (refine Txt.reads (v:=?_) (by rfl) (by rfl) (by rfl) ?_ ?_;rotate_left;(focus ((intro W hSW;obtain ⟨⟨⟨p1,p2,p3,p4,p5⟩,p6,p7⟩,p8,p9⟩:=unhide KI W hSW;go_simp) <;> with_reducible rfl));simp only [Act.put,List.setIfInBounds_toArray,List.set_cons_zero,List.set_cons_succ]))
  refine Txt.acts (by rfl) (by rfl) (by rfl) (fun K hK=>?_);go_simp;refine (unhide HS1 _ _ ((unhide TT4).below (Below.refl _ _).drew)).mono ?_;rintro e w5 ⟨rfl,T5⟩;refine hK.out _ _ ((unhide KS _).2 ⟨_,T5⟩) ?_;have TT5:=hide T5;clear hK K T5;refine Txt.acts (by rfl) (by rfl) (by rfl) (fun K hK=>?_);go_simp;refine hK.out _ _ ((unhide KS _).2 ⟨_,(unhide TT5).below ((Below.refl _ _).alloc (Nat.le_refl _) _)⟩) ?_;clear hK K;refine Txt.acts (by rfl) (by rfl) (by rfl) (fun K hK=>?_);go_simp;refine (unhide HU w5 _ _ [33,(u1:Int),(u2:Int),0] 4 2 (unhide TT5) ((Below.refl _ _).alloc (Nat.le_refl _) _) rfl (fun j y hj=>ints_at w5 [33,(u1:Int),(u2:Int),0] _ rfl j y hj) (.inl ⟨rfl,unhide HSZ⟩) (by simp [bytesW_len];omega) (by omega)).mono ?_;rintro e w6 ⟨rfl,T6⟩;refine hK.out _ _ ((unhide KS _).2 ⟨_,T6⟩) ?_;clear hK K;refine Txt.done ?_;have TT6:=hide T6;obtain ⟨⟨⟨q1,q2,q3,q4,q5⟩,q6,q7⟩,_⟩:=unhide KI w6 ((unhide KS w6).2 ⟨_,T6⟩);clear T6 TT4 TT5;go_wp2_with fail;refine (unhide HF1 w6 _ (unhide TT6) (by simp [bytesW_len];omega)).mono ?_;rintro e w7 ⟨rfl,T7⟩;have TT7:=hide T7;obtain ⟨⟨⟨c1,c2,c3,c4,c5⟩,c6,c7⟩,_⟩:=unhide KI w7 ((unhide KS w7).2 ⟨_,T7⟩);clear T7 q1 q2 q3 q4 q5 q6 q7 TT6;go_wp2_with fail;refine (unhide HM1 w7 _ (unhide TT7) (by simp [bytesW_len];omega)).mono ?_;rintro e w8 ⟨rfl,T8⟩;have TT8:=hide T8;obtain ⟨⟨⟨q1,q2,q3,q4,q5⟩,q6,q7⟩,_⟩:=unhide KI w8 ((unhide KS w8).2 ⟨_,T8⟩);clear T8 c1 c2 c3 c4 c5 c6 c7 TT7;go_wp2_with fail;refine (unhide HU w8 _ _ [0] 1 2 (unhide TT8) ((Below.refl _ _).alloc (Nat.le_refl _) _) rfl (fun j y hj=>ints_at w8 [0] _ rfl j y hj) (.inl ⟨rfl,fun z hz=>by simp at hz;subst hz;omega⟩) (by simp [bytesW_len];omega) (by omega)).mono ?_;rintro e w9 ⟨rfl,T9⟩;have TT9:=hide T9;obtain ⟨⟨⟨c1,c2,c3,c4,c5⟩,c6,c7⟩,_⟩:=unhide KI w9 ((unhide KS w9).2 ⟨_,T9⟩);clear T9 q1 q2 q3 q4 q5 q6 q7 TT8;go_wp2_with fail;refine (unhide HAll w9 _ (unhide TT9) (by simp [bytesW_len];omega)).mono ?_;rintro e w10 ⟨v,rfl,o10,f10⟩;have RES:=hide (And.intro o10 f10);clear o10 f10 c1 c2 c3 c4 c5 c6 c7;go_wp2;go_ret;refine ⟨_,rfl,?_,(unhide RES).2⟩;have:=(unhide RES).1;rw [unhide HB];simp only [List.nil_append,List.append_assoc] at this ⊢;exact this
end Go.Proofs.YtlabllgifkklhaaGreatDoor
