/- Joined: CkB WdP WdQ WdU CkR. -/
import Derived.Test.YtlabllgifkklhaaGreatDoorJP8
import Derived.Test.YtlabllgifkklhaaGreatDoorJP9
import Derived.Test.YtlabllgifkklhaaGreatDoorJP3
import Derived.Maps.OwnSet
set_option linter.unusedVariables false
set_option maxRecDepth 100000
set_option maxHeartbeats 6400000
namespace Go.Proofs.YtlabllgifkklhaaGreatDoor
open Go.RowKit Go.Maps
theorem nlaw:Keyed Tryz.prog 9:=string_keyed Tryz.underlying9
theorem nzero (w:World):(zeroValue 3).run Tryz.prog w=.ok (.int .i64 0) w:=by kernel_rfl
theorem nkey {s:List UInt8} (h:fitS s):keyOf Tryz.prog 9 (.string ⟨s.toArray⟩)=some (.string s):=by
 unfold fitS at h;have:=WideMaps.keyOf_string_mk (P:=Tryz.prog) (s:=⟨s.toArray⟩) Tryz.underlying9 (by unfold maxLen;simp [ByteArray.size];omega)
 simpa using this
def MapIs (w:World) (m:Nat) (f:List UInt8→Nat):Prop:=∃N D,w.ownsMap Tryz.prog 9 (plainElem (H:=Unit) Tryz.prog 3) m N D∧∀s,D.atKey (.string s) (.lit (.int .i64 0))=.lit (.int .i64 (f s:Int))
theorem MapIs.keep {w w':World} {m:Nat} {f:List UInt8→Nat} (h:MapIs w m f) (e:w'.heap[m]?=w.heap[m]?):MapIs w' m f:=by
 obtain ⟨N,D,⟨es,clock,h1,h2⟩,h3⟩:=h;exact ⟨N,D,⟨es,clock,e.trans h1,h2⟩,h3⟩
theorem MapIs.lt {w:World} {m:Nat} {f:List UInt8→Nat} (h:MapIs w m f):m<w.heap.size:=by
 obtain ⟨N,D,h1,_⟩:=h;exact h1.lt
theorem MapIs.look {w:World} {m:Nat} {f:List UInt8→Nat} (h:MapIs w m f) {s:List UInt8} (hs:fitS s):(Instr.lookup 109 (.map (some m)) (.string ⟨s.toArray⟩) false).run Tryz.prog w=.ok (.int .i64 (f s:Int)) w:=by
 obtain ⟨N,D,h1,h2⟩:=h;obtain ⟨c,hrun,hat,_⟩:=h1.lookup_int nlaw Tryz.underlying109 Tryz.underlying3 (nzero _) (nkey hs);rw [h2 s] at hat;injection hat with hat
 injection hat with _ hat
 rw [hrun,hat]
structure Nm (w:World) (g mt mc:Nat) (p:Sl) (l:List Ent):Prop where
 blk:w.heap[g]?=some (.cells #[p.v,.map (some mt),.map (some mc)] 111 (0,0))
 texts:MapIs w mt (utfN l)
 classes:MapIs w mc (clsN l)
 pool:EIn w p.a p.n p.c l
 right:checkP l=true
theorem Nm.c0 {w:World} {g mt mc:Nat} {p:Sl} {l:List Ent} (h:Nm w g mt mc p l):w.cell? ⟨g,0,none⟩=some p.v:=by rw [cell_of_row _ _ _ _ _ _ h.blk];rfl
theorem Nm.c1 {w:World} {g mt mc:Nat} {p:Sl} {l:List Ent} (h:Nm w g mt mc p l):w.cell? ⟨g,1,none⟩=some (.map (some mt)):=by rw [cell_of_row _ _ _ _ _ _ h.blk];rfl
theorem Nm.c2 {w:World} {g mt mc:Nat} {p:Sl} {l:List Ent} (h:Nm w g mt mc p l):w.cell? ⟨g,2,none⟩=some (.map (some mc)):=by rw [cell_of_row _ _ _ _ _ _ h.blk];rfl
theorem Nm.glt {w:World} {g mt mc:Nat} {p:Sl} {l:List Ent} (h:Nm w g mt mc p l):g<w.heap.size:=lt_of_heap h.blk
theorem Nm.below {w w':World} {g mt mc:Nat} {p:Sl} {l:List Ent} (h:Nm w g mt mc p l) (f:Below w.heap.size w w'):Nm w' g mt mc p l:=
 ⟨(f.block g h.glt).trans h.blk,h.texts.keep (f.block mt h.texts.lt),h.classes.keep (f.block mc h.classes.lt),h.pool.below f,h.right⟩
theorem Nm.len {w:World} {g mt mc:Nat} {p:Sl} {l:List Ent} (h:Nm w g mt mc p l):1≤l.length∧l.length≤1024:=(checkP_right.1 h.right).1
theorem Nm.utf {w:World} {g mt mc:Nat} {p:Sl} {l:List Ent} (h:Nm w g mt mc p l) (s:List UInt8):utfN l s<1024:=by
 by_cases e:utfN l s=0
 · omega
 · have:=utfN_some e;have:=h.len;omega
theorem Nm.cls {w:World} {g mt mc:Nat} {p:Sl} {l:List Ent} (h:Nm w g mt mc p l) (s:List UInt8):clsN l s<1024:=by
 by_cases e:clsN l s=0
 · omega
 · have:=clsN_some e;have:=h.len;omega
theorem nHasClass_any (w:World) (g mt mc:Nat) (p:Sl) (l:List Ent) (h:Nm w g mt mc p l) (s:List UInt8) (hs:fitS s) :
 Calls Tryz.prog 51 #[.pointer (some ⟨g,0,none⟩),.string ⟨s.toArray⟩] w fun e w'=>e=.returned (.bool (decide (clsN l s≠0)))∧w'=w:=by
 have c2:=h.c2;have hlk:=h.classes.look hs;clear h;generalize (⟨s.toArray⟩:ByteArray)=st at *;generalize clsN l s=k at *;have hd:decide (k≠0)=((k:Int) != 0):=by
  rw [Bool.eq_iff_iff];simp
 rw [hd];clear hd;go_enter Tryz.func51,Tryz.ntmps51;go_wp2;go_ret;exact ⟨rfl,rfl⟩
def StrsAt (w:World) (b:Nat) (ss:List (List UInt8)):Prop:=∀(k:Nat) (s:List UInt8),ss[k]?=some s→w.cell? ⟨b,k,none⟩=some (.string ⟨s.toArray⟩)
theorem nHasTexts_any (w:World) (g mt mc:Nat) (p:Sl) (l:List Ent) (h:Nm w g mt mc p l) (b n c:Nat) (ss:List (List UInt8)) (hl:ss.length=n) (hn:n≤1000) (hS:StrsAt w b ss) (hs:∀s∈ss,fitS s) :
 Calls Tryz.prog 83 #[.pointer (some ⟨g,0,none⟩),.slice (some ⟨b,0,none⟩) n c] w fun e w'=>e=.returned (.bool (textsB l ss))∧w'=w:=by
 have c1:=h.c1;have HT:=hide h.texts;have HS:=hide hS;have HF:=hide hs;obtain ⟨T,hT⟩:∃T,T=textsB l ss:=⟨_,rfl⟩;rw [←hT];have HTT:=hide hT;clear h hS hs hT;go_enter Tryz.func83,Tryz.ntmps83;go_wp2
 go_loop [9] (fun i=>∃k:Nat,k≤n∧i=.int .i64 k∧textsB l (ss.take k)=true) (fun i=>n-(intOf i).toNat)
 case atStart=>exact ⟨0,by omega,rfl,rfl⟩
 case round=>
  obtain ⟨k,hk,rfl,ht⟩:=hrel
  by_cases hlt:k<n
  · have hlt1:(k:Int)<(n:Int):=by omega
    obtain ⟨s,hsk⟩:∃s,ss[k]?=some s:=⟨_,List.getElem?_eq_getElem (by omega)⟩;have q0:=unhide HS k s hsk;have hlk:=(unhide HT).look (unhide HF s (List.mem_of_getElem? hsk));have hstep:textsB l (ss.take (k+1))=decide (utfN l s≠0):=by
     unfold textsB at ht ⊢;rw [List.take_add_one,hsk,List.all_append,ht];simp
    have hbad:utfN l s=0→textsB l ss=false:=fun e=>by
     unfold textsB;rw [List.all_eq_false];exact ⟨s,List.mem_of_getElem? hsk,by simp [e]⟩
    generalize (⟨s.toArray⟩:ByteArray)=st at *;generalize utfN l s=z at *;have HST:=hide hstep;have HBD:=hide hbad;clear hsk ht hstep hbad
    by_cases hz:z=0
    · subst hz
      go_wp2;go_ret;exact ⟨by rw [unhide HTT,unhide HBD (by first | rfl | trivial)];rfl,rfl⟩
    · have hz1:((z:Int)==0)=false:=by simpa using hz
      have HZ:=hide hz;clear hz;go_wp2
      go_round
      case rel=>exact ⟨k+1,by omega,by go_num,by rw [unhide HST];simpa using unhide HZ⟩
      case measure=>simp [intOf];omega
  · obtain rfl:k=n:=by omega
    have hT:T=true:=by rw [unhide HTT,←ht,List.take_of_length_le (by omega)]
    subst hT;clear ht HTT;go_wp2;go_ret;exact ⟨rfl,rfl⟩
theorem isUpTo_any (w:World) (b n c:Nat) (most:Int) (zs:List Int) (hm:0≤most∧most≤1000000) (hl:zs.length=n) (hn:n≤1000) (hS:∀(k:Nat) (z:Int),zs[k]?=some z→w.cell? ⟨b,k,none⟩=some (.int .i64 z)) :
 Calls Tryz.prog 112 #[.int .i64 most,.slice (some ⟨b,0,none⟩) n c] w fun e w'=>e=.returned (.bool (upB most zs))∧w'=w:=by
 have HS:=hide hS;obtain ⟨T,hT⟩:∃T,T=upB most zs:=⟨_,rfl⟩;rw [←hT];have HTT:=hide hT;clear hS hT;go_enter Tryz.func112,Tryz.ntmps112;go_wp2
 go_loop [9] (fun i=>∃k:Nat,k≤n∧i=.int .i64 k∧upB most (zs.take k)=true) (fun i=>n-(intOf i).toNat)
 case atStart=>exact ⟨0,by omega,rfl,rfl⟩
 case round=>
  obtain ⟨k,hk,rfl,ht⟩:=hrel
  by_cases hlt:k<n
  · have hlt1:(k:Int)<(n:Int):=by omega
    obtain ⟨z,hzk⟩:∃z,zs[k]?=some z:=⟨_,List.getElem?_eq_getElem (by omega)⟩;have q0:=unhide HS k z hzk;have hstep:upB most (zs.take (k+1))=decide (0≤z∧z≤most):=by
     unfold upB at ht ⊢;rw [List.take_add_one,hzk,List.all_append,ht];simp
    have hbad:¬(0≤z∧z≤most)→upB most zs=false:=fun e=>by
     unfold upB;rw [List.all_eq_false];exact ⟨z,List.mem_of_getElem? hzk,by simpa using e⟩
    have HST:=hide hstep;have HBD:=hide hbad;clear hzk ht hstep hbad
    by_cases h1:z<0
    · go_wp2
      go_ret;exact ⟨by rw [unhide HTT,unhide HBD (by omega)];rfl,rfl⟩
    · have h1b:decide (z<0)=false:=by simpa using h1
      by_cases h2:most<z
      · go_wp2
        go_ret;exact ⟨by rw [unhide HTT,unhide HBD (by omega)];rfl,rfl⟩
      · have h2b:decide (most<z)=false:=by simpa using h2
        go_wp2
        go_round
        case rel=>exact ⟨k+1,by omega,by go_num,by rw [unhide HST];simp;omega⟩
        case measure=>simp [intOf];omega
  · obtain rfl:k=n:=by omega
    have hT:T=true:=by rw [unhide HTT,←ht,List.take_of_length_le (by omega)]
    subst hT;clear ht HTT;go_wp2;go_ret;exact ⟨rfl,rfl⟩
theorem ctagAt_any (w:World) (a:Option Addr) (n c:Nat) (l:List Ent) (h:Es w a n l) (hn:n≤100000000000) (i:Int) (hi:fitI i) :
 Calls Tryz.prog 131 #[.slice a n c,.int .i64 i] w fun e w'=>e=.returned (.int .i64 (tagE l i))∧w'=w:=by
 have hln:=h.1;unfold fitI at hi
 by_cases h1:i<0
 · have e:tagE l i=0:=by unfold tagE atE;rw [if_neg (by omega)];rfl
   rw [e];clear h;go_enter Tryz.func131,Tryz.ntmps131;go_wp2;go_ret;exact ⟨rfl,rfl⟩
 · have h1b:decide (i<0)=false:=by simpa using h1
   by_cases h2:(n:Int)≤i
   · have e:tagE l i=0:=by
      unfold tagE atE;rw [if_pos (by omega),List.getElem?_eq_none (by omega)];rfl
     rw [e];clear h;go_enter Tryz.func131,Tryz.ntmps131;go_wp2;go_ret;exact ⟨rfl,rfl⟩
   · have h2b:decide ((n:Int)≤i)=false:=by simpa using h2
     obtain ⟨k,rfl⟩:∃k:Nat,i=k:=⟨i.toNat,by omega⟩;obtain ⟨b,o,rfl,hE⟩:=h.2.resolve_left (by omega);obtain ⟨q0,q1,q2,q3,q4⟩:=ents_at hE (k:=k) (by omega);have hk0:(0:Int)≤(k:Int):=by omega
     have hk1:(k:Int)<(n:Int):=by omega
     unfold tagE;generalize atE l (k:Int)=y at *;clear h hE;go_enter Tryz.func131,Tryz.ntmps131;go_wp2;go_ret;exact ⟨rfl,rfl⟩
theorem beK_cons (j:Nat):∀x,beK (j+1) x=UInt8.ofNat (x/256^j)::beK j x:=by
 induction j with
 | zero=>intro x;simp [beK]
 | succ j ih=>
  intro x;rw [beK,ih,beK,List.cons_append,Nat.div_div_eq_div_mul,Nat.pow_succ,Nat.mul_comm]
def zer (n:Nat):List UInt8:=List.replicate n 0
theorem makeZ6 (w:World) (n:Nat) (hn:n≤100000):(Instr.makeSlice 29 (.int .i64 (n:Int)) (.int .i64 (n:Int))).run Tryz.prog w=.ok (.slice (some ⟨w.heap.size,0,none⟩) n n) (w.alloc (.cells (bv (zer n)).toArray 5)):=by
 obtain ⟨i0,hi,hz0,hz1,hz2⟩:=info_parts infoB;have:=run_make (P:=Tryz.prog) w 29 5 i0 (.int .u8 0) Tryz.underlying29 hi hz0 .i64 .i64 (n:Int) (n:Int) (by omega) (by omega) (by rw [hz2];omega) (by omega);rw [this,hz1];have e:madeCells (Value.int .u8 0).cells (Int.toNat (n:Int)*1)=(bv (zer n)).toArray:=by
  apply Array.toList_inj.1;rw [Int.toNat_natCast,Nat.mul_one];show (madeCells #[Value.int .u8 0] n).toList=_;rw [toList_madeCells_one];simp [bv,zer]
 rw [e,Int.toNat_natCast]
structure Bp (w:World) (m X j:Nat) (wr:World):Prop where
 blk:wr.heap[w.heap.size]?=some (.cells (bv (zer (m-j)++beK j X)).toArray 5 (0,0))
 bel:Below w.heap.size w wr
theorem Bp.next {w wr:World} {m X j:Nat} (h:Bp w m X j wr) (hj:j<m) (u:Int) (hu:u=((X/256^j%256:Nat):Int)):Bp w m X (j+1) (wr.setCell ⟨w.heap.size,m-j-1,none⟩ (.int .u8 u)):=by
 refine ⟨?_,h.bel.setCell (Nat.le_refl _) _⟩;rw [heap_setCell_same wr _ (m-j-1) _ _ _ h.blk]
 congr 2
 apply Array.toList_inj.1;rw [Array.toList_setIfInBounds];have hz:zer (m-j)=zer (m-(j+1))++[0]:=by
  unfold zer;rw [show m-j=m-(j+1)+1 by omega,List.replicate_succ']
 have hlz:(bv (zer (m-(j+1)))).length=m-j-1:=by rw [bv_length];unfold zer;rw [List.length_replicate];omega
 rw [beK_cons,hz,List.append_assoc,bv_append,bv_append,List.set_append_right _ _ (by omega),hlz,Nat.sub_self];have hb:(Value.int .u8 u)=Value.int .u8 ((UInt8.ofNat (X/256^j)).toNat:Int):=by
  rw [hu];simp
 rw [hb];simp [bv]
theorem Bp.cell {w wr:World} {m X j:Nat} (h:Bp w m X j wr) (hj:j<m):(∃u,wr.cell? ⟨w.heap.size,m-j-1,none⟩=some u)∧wr.frozen? ⟨w.heap.size,m-j-1,none⟩=false:=by
 refine ⟨?_,frozen_of_row _ _ _ _ _ h.blk⟩;have hl:(bv (zer (m-j)++beK j X)).length=m:=by rw [bv_length,List.length_append,beK_len];unfold zer;rw [List.length_replicate];omega
 exact ⟨_,by rw [cell_of_row _ _ _ _ _ _ h.blk,List.getElem?_toArray,List.getElem?_eq_getElem (by omega)]⟩
theorem Bp.own {w wr:World} {m X:Nat} (h:Bp w m X m wr) (hm:m≤100000):wr.ownsRow w.heap.size 5 1 (.slice (some ⟨w.heap.size,0,none⟩) m m) m (bv (beK m X)):=by
 have hb:=h.blk;rw [Nat.sub_self] at hb;have hz:zer 0++beK m X=beK m X:=rfl;rw [hz] at hb;refine ⟨by rw [bv_length,beK_len];omega,.inr ⟨_,m,_,rfl,Nat.le_refl _,hb,Nat.le_refl _,by unfold maxLen;omega,by rw [List.size_toArray,bv_length,beK_len];omega,?_⟩⟩;rw [List.toList_toArray];exact List.take_of_length_le (by rw [bv_length,beK_len];omega)
theorem hBytes_ok (w:World) (m:Nat) (hm:m=1∨m=2∨m=4∨m=8) (n:Int) (hn:-9223372036854775808≤n∧n≤9223372036854775807) (sg:Bool) (hf:fitsW (m:Int) n sg) :
 Calls Tryz.prog 96 #[.int .i64 (m:Int),.int .i64 n,.bool sg] w fun e w'=>e=.returned (.tuple #[.slice (some ⟨w.heap.size,0,none⟩) m m,.bool true])∧w'.ownsRow w.heap.size 5 1 (.slice (some ⟨w.heap.size,0,none⟩) m m) m (bv (bytesW (m:Int) n))∧Below w.heap.size w w':=by
 obtain ⟨X,hX⟩:∃X:Nat,X=(n%18446744073709551616).toNat:=⟨_,rfl⟩;have hX1:(X:Int)=n%18446744073709551616:=by omega
 have hwr:IntKind.u64.wrap n=(X:Int):=by rw [hX1];rfl
 have hbw:bytesW (m:Int) n=beK m X:=by unfold bytesW;rw [Int.toNat_natCast,hX]
 have HBW:=hide hbw;have HW:=hide (hwide_any w (m:Int));rw [decide_eq_true hf.1] at HW;have hmk:=makeZ6 w m (by omega);have B0:Hid (Bp w m X 0 (w.alloc (.cells (bv (zer m)).toArray 5))):=⟨by rw [Nat.sub_zero,beK,List.append_nil];exact heap_alloc_last w _,(Below.refl _ _).alloc (Nat.le_refl _) _⟩;obtain ⟨_,hf2⟩:=hf;have HB0:=hide (unhide B0);have HX:=hide hX;clear B0 hX hX1 hbw;go_enter Tryz.func96,Tryz.ntmps96
 go_upto_if 15 with (go_at_call 95;refine (unhide HW).mono ?_;rintro e w1 ⟨rfl,e1⟩;have e1':=e1.symm;clear e1;subst e1')
 clear HW
 go_cut [6] from 14 (fun t wx=>t=.slice none 0 0∧wx=w)
 case first=>
  clear HB0 HBW hmk hwr
  by_cases h8:m=8
  · have hk8:((m:Int)==8)=true:=by rw [h8];rfl
    rw [if_pos (by rw [h8];rfl)] at hf2;clear h8;cases sg with
    | true=>
     clear hf2;go_wp2;go_meet;exact ⟨rfl,rfl⟩
    | false=>
     have hn0:¬n<0:=by
      rcases hf2 with h | h
      · cases h
      · omega
     clear hf2;go_wp2;go_meet;exact ⟨rfl,rfl⟩
  · have hk8:((m:Int)==8)=false:=by simp;omega
    have hk8':¬(m:Int)=8:=by omega
    rw [if_neg hk8',Int.toNat_natCast] at hf2;obtain ⟨H,hH,hH2⟩:=half_pow (m:=m) (by omega);have HF:=hide (hfull_any w m (by omega));rw [hH] at HF hf2;have q1:(((2*H:Nat):Int)).tdiv 2=(H:Int):=by
     have h2:((2*H:Nat):Int)=2*(H:Int):=by omega
     rw [h2,Int.mul_tdiv_cancel_left _ (by decide)]
    have q2:(-((2*H:Nat):Int)).tdiv 2=-(H:Int):=by rw [Int.neg_tdiv,q1]
    clear hH;generalize hF2:2*H=F2 at *;have hF3:(F2:Int)≤4294967296:=by omega
    cases sg with
    | true=>
     rw [if_pos rfl] at hf2;have p1:¬n < -(H:Int):=by omega
     have p2:¬(H:Int)≤n:=by omega
     clear hf2 hF2;go_wp2_with fail;refine (unhide HF).mono ?_;rintro e w1 ⟨rfl,e1⟩;have e1':=e1.symm;clear e1;subst e1';go_wp2_with fail;refine (unhide HF).mono ?_;rintro e w1 ⟨rfl,e1⟩;have e1':=e1.symm;clear e1;subst e1';go_wp2;go_meet;exact ⟨rfl,rfl⟩
    | false=>
     rw [if_neg (by decide)] at hf2;have p1:¬n<0:=by omega
     have p2:¬(F2:Int)≤n:=by omega
     clear hf2 hF2;go_wp2_with fail;refine (unhide HF).mono ?_;rintro e w1 ⟨rfl,e1⟩;have e1':=e1.symm;clear e1;subst e1';go_wp2;go_meet;exact ⟨rfl,rfl⟩
 case rest=>
  obtain ⟨rfl,rfl⟩:=hcut;have hm8:(m:Int)≤8:=by omega
  clear hf2;go_wp2;generalize wc.alloc (.cells (bv (zer m)).toArray 5)=w0 at *
  go_loopw [8,10] (fun x i wr=>∃(j:Nat) (t:Int),j≤m∧x=.int .u64 ((X/256^j:Nat):Int)∧i=.int .i64 t∧t=(m:Int)-1-j∧Bp wc m X j wr) (fun _ i _=>(intOf i+1).toNat)
  case atStart=>exact ⟨0,(m:Int)-1,by omega,by simp,rfl,by omega,unhide HB0⟩
  case round=>
   obtain ⟨j,t,hj,rfl,rfl,ht,hB⟩:=hrel;clear HB0
   by_cases hjm:j<m
   · obtain ⟨I,rfl⟩:∃I:Nat,t=I:=⟨t.toNat,by omega⟩
     have hI:m-j-1=I:=by omega
     obtain ⟨⟨u,hu⟩,hfz⟩:=hB.cell hjm;rw [hI] at hu hfz;obtain ⟨Q,hQ⟩:∃Q,Q=X/256^j:=⟨_,rfl⟩;obtain ⟨R,hR⟩:∃R,R=Q%256:=⟨_,rfl⟩;obtain ⟨Q2,hQ2⟩:∃Q2,Q2=Q/256:=⟨_,rfl⟩;have hnx:=hB.next hjm (R:Int) (by rw [hR,hQ]);rw [hI] at hnx;have HN:=hide hnx;have hq2:X/256^(j+1)=Q2:=by rw [Nat.pow_succ,←Nat.div_div_eq_div_mul,←hQ,hQ2]
     rw [←hQ];have r1:((Q:Int)).tmod 256=(R:Int):=by rw [hR];rfl
     have r2:((Q:Int)).tdiv 256=(Q2:Int):=by rw [hQ2];rfl
     have r3:(R:Int)≤255:=by omega
     have hXl:X≤18446744073709551615:=by have:=unhide HX;omega
     have r6:IntKind.u64.wrap (Q2:Int)=(Q2:Int):=by
      have h1:Q≤X:=by rw [hQ];exact Nat.div_le_self _ _
      have h2:IntKind.u64.wrap (Q2:Int)=(Q2:Int)%18446744073709551616:=rfl;rw [h2];omega
     have r7:IntKind.u64.wrap (R:Int)=(R:Int):=by
      have h2:IntKind.u64.wrap (R:Int)=(R:Int)%18446744073709551616:=rfl;rw [h2];omega
     clear hXl;have r4:(I:Int)<(m:Int):=by omega
     have r5:(0:Int)≤(I:Int):=by omega
     have HT:=hide ht;have HQ2:=hide hq2;clear hnx hB hR hQ2 ht hq2 hQ hI;go_wp2;go_roundw
     case rel=>exact ⟨j+1,(I:Int)-1,by omega,by (rw [unhide HQ2];try rfl),by first | rfl | go_num,by have:=unhide HT;omega,unhide HN⟩
     case measure=>simp [intOf] <;> omega
   · obtain rfl:j=m:=by omega
     obtain rfl:t=-1:=by omega
     have ho:=hB.own (by omega);rw [←unhide HBW] at ho;have HO:=hide ho;have HL:=hide hB.bel;clear hB ho HBW;go_wp2;go_ret2;exact ⟨rfl,unhide HO,unhide HL⟩
theorem hBytes_no (w:World) (k n:Int) (hk:-9223372036854775808≤k∧k≤9223372036854775807) (hn:-9223372036854775808≤n∧n≤9223372036854775807) (sg:Bool) (hf:¬fitsW k n sg) :
 Calls Tryz.prog 96 #[.int .i64 k,.int .i64 n,.bool sg] w fun e w'=>e=.returned (.tuple #[.slice none 0 0,.bool false])∧w'=w:=by
 have HW:=hide (hwide_any w k)
 by_cases hw:wide k
 · rw [decide_eq_true hw] at HW
   obtain ⟨m,rfl,hm⟩:=wide_nat hw;have hf2:¬(if (m:Int)=8 then sg=true∨0≤n else if sg=true then -((256^(m:Int).toNat:Nat):Int)≤2*n∧2*n<((256^(m:Int).toNat:Nat):Int) else 0≤n∧n<((256^(m:Int).toNat:Nat):Int)):=fun h=>hf ⟨hw,h⟩
   clear hf hw
   by_cases h8:m=8
   · have hk8:((m:Int)==8)=true:=by rw [h8];rfl
     rw [if_pos (by rw [h8];rfl)] at hf2
     have hsg:sg=false:=by cases sg with
      | false=>rfl
      | true=>exact absurd (.inl rfl) hf2
     subst hsg;have hn0:n<0:=by
      by_cases h:n<0
      · exact h
      · exact absurd (.inr (by omega)) hf2
     clear hf2 h8;go_enter Tryz.func96,Tryz.ntmps96;go_wp2_with fail;refine (unhide HW).mono ?_;rintro e w1 ⟨rfl,e1⟩;have e1':=e1.symm;clear e1;subst e1';go_wp2;go_ret2;exact ⟨rfl,rfl⟩
   · have hk8:((m:Int)==8)=false:=by simp;omega
     have hk8':¬(m:Int)=8:=by omega
     rw [if_neg hk8',Int.toNat_natCast] at hf2;obtain ⟨H,hH,hH2⟩:=half_pow (m:=m) (by omega);have HF:=hide (hfull_any w m (by omega));rw [hH] at HF hf2;have q1:(((2*H:Nat):Int)).tdiv 2=(H:Int):=by
      have h2:((2*H:Nat):Int)=2*(H:Int):=by omega
      rw [h2,Int.mul_tdiv_cancel_left _ (by decide)]
     have q2:(-((2*H:Nat):Int)).tdiv 2=-(H:Int):=by rw [Int.neg_tdiv,q1]
     clear hH;generalize hF2:2*H=F2 at *;have hF3:(F2:Int)≤4294967296:=by omega
     cases sg with
     | true=>
      rw [if_pos rfl] at hf2
      by_cases p1:n < -(H:Int)
      · clear hf2 hF2
        go_enter Tryz.func96,Tryz.ntmps96;go_wp2_with fail;refine (unhide HW).mono ?_;rintro e w1 ⟨rfl,e1⟩;have e1':=e1.symm;clear e1;subst e1';go_wp2_with fail;refine (unhide HF).mono ?_;rintro e w1 ⟨rfl,e1⟩;have e1':=e1.symm;clear e1;subst e1';go_wp2;go_ret2;exact ⟨rfl,rfl⟩
      · have p2:(H:Int)≤n:=by omega
        clear hf2 hF2;go_enter Tryz.func96,Tryz.ntmps96;go_wp2_with fail;refine (unhide HW).mono ?_;rintro e w1 ⟨rfl,e1⟩;have e1':=e1.symm;clear e1;subst e1';go_wp2_with fail;refine (unhide HF).mono ?_;rintro e w1 ⟨rfl,e1⟩;have e1':=e1.symm;clear e1;subst e1';go_wp2_with fail;refine (unhide HF).mono ?_;rintro e w1 ⟨rfl,e1⟩;have e1':=e1.symm;clear e1;subst e1';go_wp2;go_ret2;exact ⟨rfl,rfl⟩
     | false=>
      rw [if_neg (by decide)] at hf2
      by_cases p1:n<0
      · clear hf2 hF2
        go_enter Tryz.func96,Tryz.ntmps96;go_wp2_with fail;refine (unhide HW).mono ?_;rintro e w1 ⟨rfl,e1⟩;have e1':=e1.symm;clear e1;subst e1';go_wp2;go_ret2;exact ⟨rfl,rfl⟩
      · have p2:(F2:Int)≤n:=by omega
        clear hf2 hF2;go_enter Tryz.func96,Tryz.ntmps96;go_wp2_with fail;refine (unhide HW).mono ?_;rintro e w1 ⟨rfl,e1⟩;have e1':=e1.symm;clear e1;subst e1';go_wp2_with fail;refine (unhide HF).mono ?_;rintro e w1 ⟨rfl,e1⟩;have e1':=e1.symm;clear e1;subst e1';go_wp2;go_ret2;exact ⟨rfl,rfl⟩
 · rw [decide_eq_false hw] at HW
   clear hf hw;go_enter Tryz.func96,Tryz.ntmps96;go_wp2_with fail;refine (unhide HW).mono ?_;rintro e w1 ⟨rfl,e1⟩;have e1':=e1.symm;clear e1;subst e1';go_wp2;go_ret2;exact ⟨rfl,rfl⟩
theorem hBytes_any (w:World) (k n:Int) (hk:-9223372036854775808≤k∧k≤9223372036854775807) (hn:-9223372036854775808≤n∧n≤9223372036854775807) (sg:Bool) :
 Calls Tryz.prog 96 #[.int .i64 k,.int .i64 n,.bool sg] w fun e w'=>∃a m c,e=.returned (.tuple #[.slice a m c,.bool (decide (fitsW k n sg))])∧(fitsW k n sg→m=k.toNat∧w'.ownsRow w.heap.size 5 1 (.slice a m c) m (bv (bytesW k n)))∧Below w.heap.size w w':=by
 by_cases hf:fitsW k n sg
 · obtain ⟨m,rfl,hm⟩:=wide_nat hf.1
   refine (hBytes_ok w m hm n hn sg hf).mono ?_;rintro e w' ⟨rfl,ho,f⟩;exact ⟨_,_,_,by rw [decide_eq_true hf],fun _=>⟨by simp,ho⟩,f⟩
 · refine (hBytes_no w k n hk hn sg hf).mono ?_
   rintro e w' ⟨rfl,rfl⟩;exact ⟨_,_,_,by rw [decide_eq_false hf],fun h=>absurd h hf,Below.refl _ _⟩
def Nums (w:World) (a:Option Addr) (n:Nat) (zs:List Int):Prop:=zs.length=n∧(n=0∨∃b o,a=some ⟨b,o,none⟩∧∀(j:Nat) (z:Int),zs[j]?=some z→w.cell? ⟨b,o+j,none⟩=some (.int .i64 z))
theorem Nums.below {w w':World} {a:Option Addr} {n:Nat} {zs:List Int} (h:Nums w a n zs) (f:Below w.heap.size w w'):Nums w' a n zs:=by
 rcases h with ⟨h1,h2 | ⟨b,o,e,h2⟩⟩
 · exact ⟨h1,.inl h2⟩
 · exact ⟨h1,.inr ⟨b,o,e,fun j z hz=>by
    have h3:=h2 j z hz;exact (f.cell (World.block_lt_of_cell? w _ h3)).trans h3⟩⟩
theorem Nums.lt {w:World} {a:Option Addr} {n:Nat} {zs:List Int} (h:Nums w a n zs) {b o:Nat} (e:a=some ⟨b,o,none⟩) (hn:0<n):b<w.heap.size:=by
 obtain ⟨b',o',e',hc⟩:=h.2.resolve_left (by omega);have hl:=h.1;rw [e] at e';injection e' with e'
 injection e' with e1 e2
 subst e1;exact World.block_lt_of_cell? w _ (hc 0 _ (List.getElem?_eq_getElem (by omega)))
theorem nums_one (w:World) (z:Int):Nums (w.alloc (.cells #[.int .i64 z] 3)) (some ⟨w.heap.size,0,none⟩) 1 [z]:=by
 refine ⟨rfl,.inr ⟨_,_,rfl,fun j y hy=>?_⟩⟩;have h:=heap_alloc_last w (.cells #[.int .i64 z] 3)
 match j with
 | 0=>
  simp at hy;subst hy;rw [cell_of_row _ _ _ _ _ _ h];rfl
 | j+1=>simp at hy
structure Fr6 (F:Nat→Prop) (B:Nat) (w w':World):Prop where
 below:Below B w w'
 other:∀k,k<w.heap.size→¬F k→w'.heap[k]?=w.heap[k]?
theorem Fr6.of_below {F:Nat→Prop} {B:Nat} {w w':World} (f:Below w.heap.size w w') (hB:B≤w.heap.size):Fr6 F B w w':=⟨f.mono hB,fun k hk _=>f.block k hk⟩
section
variable {RD:(Nat→Prop)→World→Nat→Nat→List UInt8→Nat→Prop} {WR:(Nat→Prop)→World→Nat→Nat→List UInt8→Prop}
theorem Arg.len {w:World} {a:Option Addr} {n c:Nat} {bs:List UInt8} (h:Arg w a n c bs):bs.length=n:=h.bs.1
end
theorem listB_append {w:World} {ops:Array Oper} {rest:List Oper} {o:Oper} {a:Act} {Q:Exit→Act→World→Prop} (hgd:o.guard=none) (s x:Operand) (ho:o.op=.call { callee:=.builtin .append,args:=#[s,x],argTypes:=#[29,29] })
 (base:Nat) (v:Value) (n:Nat) (xs:List UInt8) (hs:a.eval s=v) (hown:w.ownsRow base 5 1 v n (bv xs)) (src:Option Addr) (m c:Nat) (ys:List UInt8) (hx:a.eval x=.slice src m c) (hb:Bs w src m ys) (hnil:src=none→m=0∧c=0)
 (hsm:n+m≤140737488355328) (hbase:base≤w.heap.size) (h:∀v' w',w'.ownsRow base 5 1 v' (n+m) (bv (xs++ys))→w.grownBy w' v.ownBlock→wpList Tryz.prog ops Q rest (a.put o.dst v') w'):wpList Tryz.prog ops Q (o::rest) a w:=
 wpList_plain hgd fun K hK=>wpB_append s x ho base v n xs hs hown src m c ys hx hb hnil hsm hbase (fun v' w' h1 h2=>hK _ _ (h v' w' h1 h2))
theorem flat_len (k:Int) (zs:List Int):(zs.flatMap (bytesW k)).length=zs.length*k.toNat:=by
 induction zs with
 | nil=>simp
 | cons z zs ih=>rw [List.flatMap_cons,List.length_append,ih,bytesW_len,List.length_cons,Nat.add_mul];omega
theorem putW_ok {bs:List UInt8} {k:Int} {sg:Bool} {zs:List Int} (hw:wide k) (h:∀z∈zs,fitsW k z sg):putW bs k sg zs=(bs++zs.flatMap (bytesW k),0):=if_pos ⟨hw,h⟩
theorem putW_no {bs:List UInt8} {k:Int} {sg:Bool} {zs:List Int} (h:¬(wide k∧∀z∈zs,fitsW k z sg)):putW bs k sg zs=(bs,2):=if_neg h
def PutR (w:World) (a:Option Addr) (n c:Nat) (R:List UInt8×Int) (e:Ending) (w':World):Prop:=
 ∃a' n' c',e=.returned (.tuple #[.slice a' n' c',.int .i64 R.2])∧(R.2=0→w'.ownsRow w.heap.size 5 1 (.slice a' n' c') n' (bv R.1))∧(R.2≠0→a'=a∧n'=n∧c'=c)∧Below w.heap.size w w'
structure PU (w:World) (bs:List UInt8) (k:Int) (sg:Bool) (zs:List Int) (i:Nat) (u:Value) (wr:World):Prop where
 own:wr.ownsRow w.heap.size 5 1 u (bs.length+i*k.toNat) (bv (bs++(zs.take i).flatMap (bytesW k)))
 fit:∀z∈zs.take i,fitsW k z sg
 bel:Below w.heap.size w wr
theorem PU.next {w wr w1 w2:World} {bs:List UInt8} {k:Int} {sg:Bool} {zs:List Int} {i:Nat} {u u':Value} {z:Int} (h:PU w bs k sg zs i u wr) (hz:zs[i]?=some z) (hf:fitsW k z sg) (f1:Below wr.heap.size wr w1) (m:Nat) (hm:m=k.toNat) (ho:w2.ownsRow w.heap.size 5 1 u' (bs.length+i*k.toNat+m) (bv (bs++(zs.take i).flatMap (bytesW k)++bytesW k z))) (hg:w1.grownBy w2 u.ownBlock):PU w bs k sg zs (i+1) u' w2:=by
 have ht:zs.take (i+1)=zs.take i++[z]:=by rw [List.take_add_one,hz];rfl
 refine ⟨?_,?_,?_⟩
 · rw [ht,List.flatMap_append,←List.append_assoc,List.flatMap_singleton,Nat.add_mul,Nat.one_mul,←Nat.add_assoc,←hm]
   rw [←hm] at ho;exact ho
 · intro y hy
   rw [ht,List.mem_append] at hy
   rcases hy with hy | hy
   · exact h.fit y hy
   · simp at hy
     subst hy;exact hf
 · exact (h.bel.trans (f1.mono h.bel.size)).grown hg (Nat.le_trans h.bel.size f1.size) (fun x hx=>(h.own.lt x hx).1)
theorem hPut_any (w:World) (a:Option Addr) (n c:Nat) (bs:List UInt8) (hb:Arg w a n c bs) (k:Int) (hk:-9223372036854775808≤k∧k≤9223372036854775807) (sg:Bool) (la:Option Addr) (ln lc:Nat) (zs:List Int) (hl:Nums w la ln zs) (hz:∀z∈zs,-9223372036854775808≤z∧z≤9223372036854775807) (hs:n+8*ln≤140737488351232) :
 Calls Tryz.prog 67 #[.slice a n c,.int .i64 k,.bool sg,.slice la ln lc] w (PutR w a n c (putW bs k sg zs)):=by
 have hbl:=hb.len;have HW:=hide (fun W=>hwide_any W k);have hown:(w.alloc (.cells #[] 5)).ownsRow w.heap.size 5 1 (.slice (some ⟨w.heap.size,0,none⟩) 0 0) 0 (bv []):=World.ownsRow_made w #[] 0 (Nat.le_refl _) (by simp) rfl;have b0:Below w.heap.size w (w.alloc (.cells #[] 5)):=(Below.refl _ _).alloc (Nat.le_refl _) _;have hb0:=(hb.below b0).bs;have hnl:=hb.nil;have HL:=hide hl;have HZ:=hide hz;have hzl:=hl.1;clear hb hl hz;generalize hPO:PutR w a n c (putW bs k sg zs)=PO;have HPO:=hide hPO;clear hPO;go_enter Tryz.func67,Tryz.ntmps67
 go_wp2_with (at_builtin;refine listB_append rfl (.tmp 14) (.tmp 15) rfl w.heap.size _ 0 [] rfl hown a n c bs rfl hb0 hnl (by omega) (by simp) ?_)
 intro v1 w1 o1 g1;have f1:Below w.heap.size w w1:=b0.grown g1 (by simp) (fun x hx=>by simp [Value.ownBlock] at hx;omega);have P0:Hid (PU w bs k sg zs 0 v1 w1):=⟨by
  rw [Nat.zero_mul,Nat.add_zero,hbl]
  simpa using o1,by simp,f1⟩
 have F1:=hide f1;clear o1 g1 f1 hown b0 hb0
 by_cases hw:wide k
 · have hdw:decide (wide k)=true:=decide_eq_true hw
   rw [hdw] at HW;have hk8:k.toNat≤8:=by rcases hw with h | h | h | h <;> omega
   have HWD:=hide hw;have HBL:=hide hbl;have HZL:=hide hzl;clear hw hbl hzl;go_wp2_with fail;refine (unhide HW w1).mono ?_;rintro e w2 ⟨rfl,rfl⟩;clear HW F1;go_wp2
   go_loopw [10,11] (fun u i wr=>∃j:Nat,j≤ln∧i=.int .i64 j∧PU w bs k sg zs j u wr) (fun _ i _=>ln-(intOf i).toNat)
   case atStart=>exact ⟨0,by omega,rfl,unhide P0⟩
   case round=>
    obtain ⟨j,hj,rfl,hP⟩:=hrel;clear P0
    by_cases hjl:j<ln
    · have hjl':(j:Int)<(ln:Int):=by omega
      obtain ⟨b,o,rfl,hcz⟩:=(unhide HL).2.resolve_left (by omega);obtain ⟨zv,hzv⟩:∃zv,zs[j]?=some zv:=⟨_,List.getElem?_eq_getElem (by have:=unhide HZL;omega)⟩;have hc0:=hcz j zv hzv;have hcell:wr.cell? ⟨b,o+j,none⟩=some (.int .i64 zv):=(hP.bel.cell (p:=⟨b,o+j,none⟩) (World.block_lt_of_cell? w _ hc0)).trans hc0;have hzb:=unhide HZ zv (List.mem_of_getElem? hzv);have HZV:=hide hzv;have HB:=hide (hBytes_any wr k zv hk hzb sg);clear hcz hc0 hzv
      by_cases hf:fitsW k zv sg
      · rw [decide_eq_true hf] at HB
        have HP:=hide hP;have hsz:bs.length+j*k.toNat+k.toNat≤140737488355328:=by
         have h1:k.toNat≤8:=hk8;have hbl:=unhide HBL;have h2:(j+1)*k.toNat≤ln*8:=Nat.mul_le_mul (by omega) h1;rw [Nat.add_mul] at h2;omega
        clear hP;go_wp2_with fail;refine (unhide HB).mono ?_;rintro e w3 ⟨xa,xm,xc,rfl,hx,f3⟩;obtain ⟨hxm,ox⟩:=hx hf;have hxa:=arg_of_own (by rw [bytesW_len,hxm]) ox;have hou:=own_below (unhide HP).own f3;have hbx:=hxa.bs;have hnx:=hxa.nil;have hbs3:w.heap.size≤w3.heap.size:=Nat.le_trans (unhide HP).bel.size f3.size;have F3:=hide f3;clear ox hxa hx f3 HB;generalize hNN:bs.length+j*k.toNat=NN at *;generalize hLL:bs++(zs.take j).flatMap (bytesW k)=LL at *;have HNN:=hide hNN;have HLL:=hide hLL;have hxs:NN+xm≤140737488355328:=by omega
        have HXM:=hide hxm;clear hNN hLL hxm hsz
        go_wp2_with (at_builtin;refine listB_append rfl (.tmp 40) (.tmp 41) rfl w.heap.size _ _ _ rfl hou xa xm xc (bytesW k zv) rfl hbx hnx hxs hbs3 ?_)
        intro v4 w4 o4 g4;rw [←unhide HNN,←unhide HLL] at o4;have P4:=hide ((unhide HP).next (unhide HZV) hf (unhide F3) xm (unhide HXM) o4 g4);clear o4 g4 hou hbx hnx F3 HP;go_wp2;go_roundw
        case rel=>exact ⟨j+1,by omega,by go_num,unhide P4⟩
        case measure=>simp [intOf];omega
      · rw [decide_eq_false hf] at HB
        have hno:Hid (putW bs k sg zs=(bs,2)):=putW_no (fun h=>hf (h.2 zv (List.mem_of_getElem? (unhide HZV))));have HP:=hide hP.bel;clear hP;go_wp2_with fail;refine (unhide HB).mono ?_;rintro e w3 ⟨xa,xm,xc,rfl,_,f3⟩;have F3:=hide ((unhide HP).trans (f3.mono (unhide HP).size));clear f3 HB HP;go_wp2;rw [←unhide HPO,unhide hno];exact ⟨a,n,c,rfl,(fun h=>by cases h),fun _=>⟨rfl,rfl,rfl⟩,unhide F3⟩
    · obtain rfl:j=ln:=by omega
      have ht:zs.take j=zs:=List.take_of_length_le (by have:=unhide HZL;omega);have hok:Hid (putW bs k sg zs=(bs++zs.flatMap (bytesW k),0)):=putW_ok (unhide HWD) (by have:=hP.fit;rw [ht] at this;exact this);have ho:=hP.own;rw [ht] at ho;clear ht;obtain ⟨ua,uc,rfl,_⟩:=own_form ho;have HO:=hide ho;have HP:=hide hP.bel;clear hP ho;go_wp2;rw [←unhide HPO,unhide hok];exact ⟨_,_,_,rfl,fun _=>unhide HO,fun h=>absurd rfl h,unhide HP⟩
 · have hdw:decide (wide k)=false:=decide_eq_false hw
   rw [hdw] at HW;have hno:Hid (putW bs k sg zs=(bs,2)):=putW_no (fun h=>hw h.1);clear P0;go_wp2_with fail;refine (unhide HW w1).mono ?_;rintro e w2 ⟨rfl,rfl⟩;clear HW;go_wp2;rw [←unhide HPO,unhide hno];exact ⟨a,n,c,rfl,(fun h=>by cases h),fun _=>⟨rfl,rfl,rfl⟩,unhide F1⟩
end Go.Proofs.YtlabllgifkklhaaGreatDoor
