/- Joined: GrI PlU TxC TxD TxE. -/
import Derived.Test.YtlabllgifkklhaaGreatDoorJP27
import Derived.Test.YtlabllgifkklhaaGreatDoorJGrF
import Derived.Test.YtlabllgifkklhaaGreatDoorJP2
import Derived.Test.YtlabllgifkklhaaGreatDoorJP0
import Derived.Test.YtlabllgifkklhaaGreatDoorJP5
import Derived.Test.YtlabllgifkklhaaGreatDoorJP10
import Derived.Test.YtlabllgifkklhaaGreatDoorJP29
import Derived.Test.YtlabllgifkklhaaGreatDoorJP9
import Derived.Lib.AppendStr
set_option linter.unusedVariables false
set_option maxRecDepth 100000
set_option maxHeartbeats 6400000
namespace Go.Proofs.YtlabllgifkklhaaGreatDoor
open Go.RowKit
theorem code_small {c:Cl} (hc:sizeK c<14000) {m:Md} (h:m∈c.methods):codeN m.code≤190000:=by
 have h1:=(light_meth hc h).1;have h2:=maps_le m.code.maps;unfold methN at h1;unfold codeN;omega
def headOk (c:Cl):Bool:=decide (clsN c.pool c.name≠0∧(c.super=[]∨clsN c.pool c.super≠0))
def headB (c:Cl):List UInt8:=bytesW 2 33++(bytesW 2 (clsN c.pool c.name)++(bytesW 2 (superN c.pool c.super)++(bytesW 2 0++bytesW 2 c.fields.length)))
theorem head_ok0 (c:Cl) (h:c.super=[]):(((true&&fitsB 2 [33])&&decide (clsN c.pool c.name≠0))&&fitsB 2 [0])=headOk c:=by
 have e1:fitsB 2 [33]=true:=by decide
 have e2:fitsB 2 [0]=true:=by decide
 unfold headOk;rw [e1,e2,h];simp
theorem head_ok1 (c:Cl) (h:¬c.super=[]):(((true&&fitsB 2 [33])&&decide (clsN c.pool c.name≠0))&&decide (clsN c.pool c.super≠0))=headOk c:=by
 have e1:fitsB 2 [33]=true:=by decide
 unfold headOk;rw [e1];simp [h,Bool.decide_and]
theorem head_b0 (c:Cl) (h:c.super=[]):((([]++[(33:Int)].flatMap (bytesW 2))++bytesW 2 (clsN c.pool c.name:Int))++[(0:Int)].flatMap (bytesW 2))=bytesW 2 33++(bytesW 2 (clsN c.pool c.name)++bytesW 2 (superN c.pool c.super)):=by
 unfold superN;rw [if_pos h];simp
theorem head_b1 (c:Cl) (h:¬c.super=[]):((([]++[(33:Int)].flatMap (bytesW 2))++bytesW 2 (clsN c.pool c.name:Int))++bytesW 2 (clsN c.pool c.super:Int))=bytesW 2 33++(bytesW 2 (clsN c.pool c.name)++bytesW 2 (superN c.pool c.super)):=by
 unfold superN;rw [if_neg h];simp
theorem head_b2 (c:Cl):((bytesW 2 33++(bytesW 2 (clsN c.pool c.name:Int)++bytesW 2 (superN c.pool c.super:Int)))++[(0:Int),(c.fields.length:Int)].flatMap (bytesW 2))=headB c:=by
 unfold headB;simp
theorem end_ok (c:Cl) (h1:checkP c.pool=true) (h2:c.fields.length≤256) (h3:c.methods.length≤256):((((headOk c&&c.fields.all (rightF c.pool))&&fitsB 2 [(c.methods.length:Int)])&&c.methods.all (rightMd c.pool))&&fitsB 2 [0])=rightK c:=by
 have e1:fitsB 2 [(c.methods.length:Int)]=true:=by simp [fitsB];omega
 have e2:fitsB 2 [0]=true:=by decide
 unfold rightK headOk;rw [h1,e1,e2,decide_eq_true (And.intro h2 h3)];simp
theorem end_bytes (c:Cl):(headK++bytesP c.pool)++((((headB c++c.fields.flatMap (fieldB c.pool))++[(c.methods.length:Int)].flatMap (bytesW 2))++c.methods.flatMap (methodB c.pool))++[(0:Int)].flatMap (bytesW 2))=bytesK c:=by
 unfold bytesK bodyK headB;simp
theorem end_no {c:Cl} (h:rightK c=false):errK c=80∧printK c=[]:=err_no h
theorem end_long {c:Cl} (h:rightK c=true) (hl:32768<(bytesK c).length):errK c=3∧printK c=[]:=by
 have e:errK c=3:=by unfold errK;rw [if_neg (by rw [h];decide),if_pos hl]
 refine ⟨e,?_⟩;unfold printK;rw [e,if_neg (by decide)]
theorem end_yes {c:Cl} (h:rightK c=true) (hl:¬32768<(bytesK c).length):errK c=0∧printK c=bytesK c:=by
 have e:errK c=0:=by unfold errK;rw [if_neg (by rw [h];decide),if_neg hl]
 refine ⟨e,?_⟩;unfold printK;rw [e,if_pos rfl]
theorem bodyE_le {l:List Ent} {x:Ent} (h:okE l x=true):(bodyE x).length≤260:=by
 have ht:=okE_tag h;unfold bodyE;unfold okE at h
 rcases ht with t | t | t | t | t | t | t <;> simp [t] at h ⊢ <;> simp [bytesW_len]
 have:=h.1;unfold textB at this;simp at this;omega
theorem putOwn (W:World) (a:Option Addr) (n c:Nat) (bs:List UInt8) (k:Int) (sg:Bool) (la:Option Addr) (ln lc:Nat) (zs:List Int) (hb:Arg W a n c bs) (hl:Nums W la ln zs) (hf:∀z∈zs,fitsW k z sg) (hw:wide k) (hz:∀z∈zs,-9223372036854775808≤z∧z≤9223372036854775807) (hs:n+8*ln≤1000000) :
 Calls Tryz.prog 67 #[.slice a n c,.int .i64 k,.bool sg,.slice la ln lc] W fun e w'=>∃a' n' c',e=.returned (.tuple #[.slice a' n' c',.int .i64 0])∧n'=n+ln*k.toNat∧w'.ownsRow W.heap.size 5 1 (.slice a' n' c') n' (bv (bs++zs.flatMap (bytesW k)))∧Below W.heap.size W w':=by
 refine (hPut_any W a n c bs hb k (by rcases hw with rfl | rfl | rfl | rfl <;> omega) sg la ln lc zs hl hz (by omega)).mono ?_;rw [putW_ok hw hf];rintro e w' ⟨a',n',c',rfl,h1,_,f⟩;have o:=h1 rfl;refine ⟨a',n',c',rfl,?_,o,f⟩;have hl2:=o.1;rw [bv_length,List.length_append,flat_len,hb.len,hl.1] at hl2;omega
theorem nums_two (w:World) (x y:Int):Nums (w.alloc (.cells #[.int .i64 x,.int .i64 y] 3)) (some ⟨w.heap.size,0,none⟩) 2 [x,y]:=by
 refine ⟨rfl,.inr ⟨_,_,rfl,fun j z hz=>?_⟩⟩;have h:=heap_alloc_last w (.cells #[.int .i64 x,.int .i64 y] 3)
 match j with
 | 0=>
  simp at hz;subst hz;rw [cell_of_row _ _ _ _ _ _ h];rfl
 | 1=>
  simp at hz;subst hz;rw [cell_of_row _ _ _ _ _ _ h];rfl
 | j+2=>simp at hz
structure BI (w:World) (l:List Ent) (k:Nat) (v:Value) (W:World):Prop where
 own:W.ownsRow w.heap.size 5 1 v (bytesW 2 l.length++((l.take k).drop 1).flatMap bytesE).length (bv (bytesW 2 l.length++((l.take k).drop 1).flatMap bytesE))
 bel:Below w.heap.size w W
 len:(bytesW 2 l.length++((l.take k).drop 1).flatMap bytesE).length≤2+300*k
theorem take_drop1 {l:List Ent} {k:Nat} {x:Ent} (hk:1≤k) (hx:l[k]?=some x):((l.take (k+1)).drop 1).flatMap bytesE=((l.take k).drop 1).flatMap bytesE++bytesE x:=by
 have hl:=(List.getElem?_eq_some_iff.1 hx).1;rw [List.take_add_one,hx];rw [List.drop_append_of_le_length (by rw [List.length_take];omega),List.flatMap_append];simp
theorem BI.next {w W W':World} {l:List Ent} {k:Nat} {v v':Value} {x:Ent} (h:BI w l k v W) (hk:1≤k) (hx:l[k]?=some x) (hle:(bytesE x).length≤300) (n':Nat) (ho:W'.ownsRow w.heap.size 5 1 v' n' (bv ((bytesW 2 l.length++((l.take k).drop 1).flatMap bytesE)++bytesE x))) (f:Below w.heap.size w W'):BI w l (k+1) v' W':=by
 have hl:=h.len;have e:=take_drop1 hk hx;have e2:bytesW 2 l.length++((l.take (k+1)).drop 1).flatMap bytesE=(bytesW 2 l.length++((l.take k).drop 1).flatMap bytesE)++bytesE x:=by rw [e,List.append_assoc]
 have hn:=ho.1;rw [bv_length,Nat.mul_one] at hn;refine ⟨?_,f,?_⟩
 · rw [e2,hn]
   exact ho
 · rw [e2,List.length_append]
   omega
theorem jBytes_any (w:World) (a:Option Addr) (n c:Nat) (l:List Ent) (h:Es w a n l) (hr:checkP l=true) (hf:∀x∈l,EntFit x) :
 Calls Tryz.prog 26 #[.slice a n c] w fun e w'=>∃v,e=.returned v∧w'.ownsRow w.heap.size 5 1 v (bytesP l).length (bv (bytesP l))∧Below w.heap.size w w':=by
 have hln:=h.1;obtain ⟨⟨hn1,hn2⟩,hr0,hr2⟩:=checkP_iff.1 hr;have HE:=hide h;have b0:Below w.heap.size w (w.alloc (.cells #[.int .i64 (n:Int)] 3)):=(Below.refl _ _).alloc (Nat.le_refl _) _;have HP:=hide (putOwn (w.alloc (.cells #[.int .i64 (n:Int)] 3)) none 0 0 [] 2 false (some ⟨w.heap.size,0,none⟩) 1 1 [(n:Int)] ⟨⟨rfl,.inl rfl⟩,by omega,by omega,fun _=>⟨rfl,rfl⟩⟩ (nums_one w n) (by intro z hz;simp at hz;subst hz;exact fits2 (by omega)) (by unfold wide;omega) (by intro z hz;simp at hz;omega) (by omega));have B0:=hide b0;clear h b0;have hnI:(n:Int)≤1024:=by omega
 go_enter Tryz.func26,Tryz.ntmps26;go_wp2_with fail;refine (unhide HP).mono ?_;rintro e w1 ⟨a1,n1,c1,rfl,hn',o1,f1⟩;have hI:BI w l 1 (.slice a1 n1 c1) w1:=by
  have e1:((l.take 1).drop 1).flatMap bytesE=[]:=by
   rw [List.drop_eq_nil_of_le (by rw [List.length_take];omega)];rfl
  have e2:[]++[(n:Int)].flatMap (bytesW 2)=bytesW 2 l.length:=by simp [hln]
  rw [e2] at o1;have e3:(bytesW 2 (l.length:Int)).length=2:=by rw [bytesW_len];rfl
  refine ⟨?_,(unhide B0).trans (f1.mono (unhide B0).size),?_⟩
  · rw [e1,List.append_nil,e3]
    have e4:n1=2:=by rw [hn'];rfl
    subst e4;exact own_base o1 (unhide B0).size
  · rw [e1,List.append_nil,e3]
    omega
 have HI:=hide hI;clear HP o1 f1 hI B0 hn';go_wp2
 go_loopw [3,5] (fun v i wr=>∃k:Nat,1≤k∧k≤n∧i=.int .i64 k∧BI w l k v wr) (fun _ i _=>n-(intOf i).toNat)
 case atStart=>exact ⟨1,by omega,by omega,rfl,unhide HI⟩
 case round=>
  obtain ⟨k,hk1,hk,rfl,hI⟩:=hrel;clear HI
  by_cases hlt:k<n
  case neg=>
   obtain rfl:k=n:=by omega
   have hfin:Hid (wr.ownsRow w.heap.size 5 1 u3 (bytesP l).length (bv (bytesP l))∧Below w.heap.size w wr):=by
    have ht:l.take k=l:=List.take_of_length_le (by omega);have ho:=hI.own;rw [ht] at ho;exact ⟨ho,hI.bel⟩
   clear hI HE;go_wp2;go_ret;exact ⟨_,rfl,(unhide hfin).1,(unhide hfin).2⟩
  have hlt1:(k:Int)<(n:Int):=by omega
  obtain ⟨b,o,rfl,hE⟩:=((unhide HE).below hI.bel).2.resolve_left (by omega);obtain ⟨x,hx⟩:∃x,l[k]?=some x:=⟨_,List.getElem?_eq_getElem (by omega)⟩;obtain ⟨c0,c1,c2,c3,c4⟩:=ents_get hE hx;have hxF:=hf x (List.mem_of_getElem? hx)
  by_cases h0:x.tag=0
  case pos=>
   have HN:Hid (BI w l (k+1) u3 (wr.alloc (.cells #[.int .i64 x.tag,.string ⟨x.text.toArray⟩,.int .i64 x.n,.int .i64 x.a,.int .i64 x.b] 55))):=by
    have e0:bytesE x=[]:=by unfold bytesE;rw [if_pos h0]
    refine hI.next hk1 hx (by rw [e0];simp) _ (by rw [e0,List.append_nil];exact hI.own.alloc _) (hI.bel.alloc hI.bel.size _)
   rw [h0] at c0 HN;generalize (⟨x.text.toArray⟩:ByteArray)=st at *;clear hI hE hx hxF HE;go_wp2;go_roundw
   case rel=>exact ⟨k+1,by omega,by omega,by go_num,unhide HN⟩
   case measure=>simp [intOf];omega
  have hok:=goE_mem _ hr2 x (by
   obtain ⟨k',rfl⟩:∃k',k=k'+1:=⟨k-1,by omega⟩;refine List.mem_of_getElem? (i:=k') ?_;rw [List.getElem?_drop,Nat.add_comm];exact hx) h0
  have hble:=bodyE_le hok;have htag:=okE_tag hok;have hbE:bytesE x=UInt8.ofNat x.tag.toNat::bodyE x:=by unfold bytesE;rw [if_neg h0]
  have hbl:(bytesE x).length≤300:=by rw [hbE,List.length_cons];omega
  have HNX:Hid (∀v' n' W',W'.ownsRow w.heap.size 5 1 v' n' (bv ((bytesW 2 l.length++((l.take k).drop 1).flatMap bytesE)++bytesE x))→Below w.heap.size w W'→BI w l (k+1) v' W'):=fun v' n' W' ho f=>hI.next hk1 hx hbl n' ho f
  rw [hbE] at HNX;have hlen:=hI.len;have hown:=hI.own;have hbel:=hI.bel;generalize hP:bytesW 2 l.length++((l.take k).drop 1).flatMap bytesE=P at *;obtain ⟨tag,text,nn,aa,bb⟩:=x;simp only at c0 c1 c2 c3 c4 h0 htag HNX;obtain ⟨ap,cp,rfl,_⟩:=own_form hown;obtain ⟨tb,htb⟩:∃tb:UInt8,tb=UInt8.ofNat tag.toNat:=⟨_,rfl⟩;have htv:IntKind.u8.wrap tag=(tb.toNat:Int):=by
   rw [htb,IntKind.wrap_u8];simp;omega
  rw [←htb] at HNX;have HOK:=hide hok;have HXF:=hide hxF;have hPn:P.length≤307202:=by omega
  clear hI hE hx hxF HE hbE hbl hble hok hP htb hr2 hr0 hf;have HOWN:=hide hown;have HBEL:=hide hbel;have hszw:=hbel.size
  -- the tag's byte
  have hown1:=(hown.alloc (.cells #[.int .i64 tag,.string ⟨text.toArray⟩,.int .i64 nn,.int .i64 aa,.int .i64 bb] 55)).alloc (.cells #[.int .u8 (tb.toNat:Int)] 5);have hsrc1:Bs ((wr.alloc (.cells #[.int .i64 tag,.string ⟨text.toArray⟩,.int .i64 nn,.int .i64 aa,.int .i64 bb] 55)).alloc (.cells #[.int .u8 (tb.toNat:Int)] 5)) (some ⟨wr.heap.size+1,0,none⟩) 1 [tb]:=by
   have hq:=heap_alloc2_new wr (.cells #[.int .i64 tag,.string ⟨text.toArray⟩,.int .i64 nn,.int .i64 aa,.int .i64 bb] 55) (.cells #[.int .u8 (tb.toNat:Int)] 5);exact ⟨rfl,.inr ⟨_,_,rfl,bytes_of_block (l:=[tb]) hq⟩⟩
  have HST:Hid (∀W,(((wr.alloc (.cells #[.int .i64 tag,.string ⟨text.toArray⟩,.int .i64 nn,.int .i64 aa,.int .i64 bb] 55)).alloc (.cells #[.int .u8 (tb.toNat:Int)] 5))).grownBy W (Value.slice ap P.length cp).ownBlock→W.heap[wr.heap.size]?=some (.cells #[.int .i64 tag,.string ⟨text.toArray⟩,.int .i64 nn,.int .i64 aa,.int .i64 bb] 55 (0,0))∧Below w.heap.size w W):=fun W g=>by
   refine ⟨(g.block wr.heap.size (by simp;omega) (fun e=>?_)).trans ((heap_alloc_old _ _ (by simp)).trans (heap_alloc_last wr _)),?_⟩
   · have:=((unhide HOWN).lt wr.heap.size e.symm).2
     omega
   · exact (((unhide HBEL).alloc hszw _).alloc (Nat.le_trans hszw (by simp)) _).grown g (Nat.le_trans hszw (by simp;omega)) (fun q hq=>((unhide HOWN).lt q hq).1)
  clear hown hbel
  rcases htag with t | t | t | t | t | t | t
  · subst t
    have hT:text.length≤255:=by
     have:=unhide HOK;unfold okE textB at this;simp at this;omega
    have hsz:(⟨text.toArray⟩:ByteArray).size=text.length:=by simp [ByteArray.size]
    have hcells:Lib.strCells ⟨text.toArray⟩=bv text:=by
     simp [Lib.strCells,bv]
    obtain ⟨i0,hi,hz0,hz1,hz2⟩:=info_parts infoB
    go_wp2_with (at_builtin;refine listB_append rfl _ _ rfl w.heap.size (.slice ap P.length cp) P.length P rfl (by exact hown1) (some ⟨wr.heap.size+1,0,none⟩) 1 1 [tb] rfl (by exact hsrc1) (fun e=>by cases e) (by omega) (Nat.le_trans hszw (by simp;omega)) ?_)
    intro v2 w2 o2 g2;obtain ⟨hx2,f2⟩:=unhide HST w2 g2;obtain ⟨k0,k1,k2,k3,k4⟩:=entC (x:=⟨1,text,nn,aa,bb⟩) hx2;simp only at k0 k1 k2 k3 k4;obtain ⟨a2,c2',rfl,_⟩:=own_form o2;have harg2:Arg w2 a2 (P.length+1) c2' (P++[tb]):=arg_of_own (by simp) o2;have hs2:=f2.size;have HP2:=hide (putOwn (w2.alloc (.cells #[.int .i64 (text.length:Int)] 3)) a2 (P.length+1) c2' (P++[tb]) 2 false (some ⟨w2.heap.size,0,none⟩) 1 1 [(text.length:Int)] (harg2.below ((Below.refl _ _).alloc (Nat.le_refl _) _)) (nums_one w2 _) (by intro z hz;simp at hz;subst hz;exact fits2 (by omega)) (by unfold wide;omega) (by intro z hz;simp at hz;omega) (by omega));have HF2:=hide f2;clear o2 g2 harg2 f2 hown1 hsrc1 HST HOWN HBEL;have HX2:=hide hx2;clear hx2;go_wp2_with fail;refine (unhide HP2).mono ?_;rintro e w3 ⟨a3,n3,c3',rfl,hn3,o3,f3⟩;have hf3:Below w.heap.size w w3:=((unhide HF2).alloc hs2 _).trans (f3.mono (by simp;omega));have ho3:=own_base (base':=w.heap.size) o3 (by simp;omega);have hx3:w3.heap[wr.heap.size]?=_:=(f3.block wr.heap.size (by have:=lt_of_heap (unhide HX2);simp;omega)).trans ((heap_alloc_old _ _ (lt_of_heap (unhide HX2))).trans (unhide HX2));obtain ⟨_,m1,_,_,_⟩:=entC (x:=⟨1,text,nn,aa,bb⟩) hx3;simp only at m1;have hn3':n3≤400000:=by
     rw [hn3];show P.length+1+1*2≤400000;omega
    have HN3:=hide hn3;have HF3:=hide hf3;have HO3:=hide ho3;have h3s:=hf3.size;clear hx3 o3 f3 hf3 ho3 hn3 HP2 HF2 HX2 k0 k1 k2 k3 k4;obtain ⟨st,hst⟩:∃st,(⟨text.toArray⟩:ByteArray)=st:=⟨_,rfl⟩;rw [hst] at m1 hcells;rw [hst] at hsz;have HC:=hide hcells;clear hst hcells
    go_wp2_with (at_builtin;refine Lib.wpList_append_own_string _ rfl _ _ 29 9 rfl w.heap.size 5 i0 Tryz.underlying29 Tryz.underlying9 hi hz0 hz1 hz2 _ n3 _ rfl (unhide HO3) st rfl ?c3 ?c4 ?c5 ?_)
    case c3=>rw [hsz];unfold maxLen;omega
    case c4=>rw [hsz];omega
    case c5=>exact h3s
    intro v4 w4 o4 g4 _;have hf4:Below w.heap.size w w4:=(unhide HF3).grown g4 h3s (fun q hq=>((unhide HO3).lt q hq).1);have HN:=hide (unhide HNX v4 _ w4 (by
     have e:bv (P++(tb::bodyE ⟨1,text,nn,aa,bb⟩))=bv (P++tb::bytesW 2 (text.length:Int))++Lib.strCells st:=by
      rw [unhide HC,←bv_append]
      congr 1
      show P++(tb::(bytesW 2 text.length++text))=_;simp
     rw [e];exact o4) hf4)
    clear o4 g4 hf4 HO3 HF3 HNX HC HN3;go_wp2;go_roundw
    case rel=>exact ⟨k+1,by omega,by omega,by go_num,unhide HN⟩
    case measure=>simp [intOf];omega
  · subst t
    have hok3:=unhide HOK;have hr3:-2147483648≤nn∧nn≤2147483647:=by
     unfold okE at hok3;simp at hok3;exact hok3.1
    go_wp2_with (at_builtin;refine listB_append rfl _ _ rfl w.heap.size (.slice ap P.length cp) P.length P rfl (by exact hown1) (some ⟨wr.heap.size+1,0,none⟩) 1 1 [tb] rfl (by exact hsrc1) (fun e=>by cases e) (by omega) (Nat.le_trans hszw (by simp;omega)) ?_)
    intro v2 w2 o2 g2;obtain ⟨hx2,f2⟩:=unhide HST w2 g2;obtain ⟨k0,k1,k2,k3,k4⟩:=entC (x:=⟨3,text,nn,aa,bb⟩) hx2;simp only at k0 k1 k2 k3 k4;obtain ⟨a2,c2',rfl,_⟩:=own_form o2;have harg2:Arg w2 a2 (P.length+1) c2' (P++[tb]):=arg_of_own (by simp) o2;have hs2:=f2.size;have HP2:=hide (putOwn (w2.alloc (.cells #[.int .i64 nn] 3)) a2 (P.length+1) c2' (P++[tb]) 4 true (some ⟨w2.heap.size,0,none⟩) 1 1 [nn] (harg2.below ((Below.refl _ _).alloc (Nat.le_refl _) _)) (nums_one w2 nn) (by intro z hz;simp at hz;subst hz;exact fits4 hr3) (by unfold wide;omega) (by intro z hz;simp at hz;omega) (by omega));have HF2:=hide f2;clear o2 g2 hx2 harg2 f2 hown1 hsrc1 HST HOWN HBEL;go_wp2_with fail;refine (unhide HP2).mono ?_;rintro e w3 ⟨a3,n3,c3',rfl,hn3,o3,f3⟩;have hf3:Below w.heap.size w w3:=((unhide HF2).alloc hs2 _).trans (f3.mono (by simp;omega));have ho3:=own_base (base':=w.heap.size) o3 (by simp;omega);have HN:=hide (unhide HNX _ n3 w3 (by
     have e:P++(tb::bodyE ⟨3,text,nn,aa,bb⟩)=P++[tb]++[nn].flatMap (bytesW 4):=by
      show P++(tb::bytesW 4 nn)=_;simp
     rw [e];exact ho3) hf3)
    clear ho3 o3 f3 hf3 HP2 HF2 HNX hn3;go_wp2;go_roundw
    case rel=>exact ⟨k+1,by omega,by omega,by go_num,unhide HN⟩
    case measure=>simp [intOf];omega
  · subst t
    have hr5:=(unhide HXF).2.1;simp only at hr5
    go_wp2_with (at_builtin;refine listB_append rfl _ _ rfl w.heap.size (.slice ap P.length cp) P.length P rfl (by exact hown1) (some ⟨wr.heap.size+1,0,none⟩) 1 1 [tb] rfl (by exact hsrc1) (fun e=>by cases e) (by omega) (Nat.le_trans hszw (by simp;omega)) ?_)
    intro v2 w2 o2 g2;obtain ⟨hx2,f2⟩:=unhide HST w2 g2;obtain ⟨k0,k1,k2,k3,k4⟩:=entC (x:=⟨5,text,nn,aa,bb⟩) hx2;simp only at k0 k1 k2 k3 k4;obtain ⟨a2,c2',rfl,_⟩:=own_form o2;have harg2:Arg w2 a2 (P.length+1) c2' (P++[tb]):=arg_of_own (by simp) o2;have hs2:=f2.size;have HP2:=hide (putOwn (w2.alloc (.cells #[.int .i64 nn] 3)) a2 (P.length+1) c2' (P++[tb]) 8 true (some ⟨w2.heap.size,0,none⟩) 1 1 [nn] (harg2.below ((Below.refl _ _).alloc (Nat.le_refl _) _)) (nums_one w2 nn) (by intro z hz;simp at hz;subst hz;exact fits8 _) (by unfold wide;omega) (by intro z hz;simp at hz;omega) (by omega));have HF2:=hide f2;clear o2 g2 hx2 harg2 f2 hown1 hsrc1 HST HOWN HBEL;go_wp2_with fail;refine (unhide HP2).mono ?_;rintro e w3 ⟨a3,n3,c3',rfl,hn3,o3,f3⟩;have hf3:Below w.heap.size w w3:=((unhide HF2).alloc hs2 _).trans (f3.mono (by simp;omega));have ho3:=own_base (base':=w.heap.size) o3 (by simp;omega);have HN:=hide (unhide HNX _ n3 w3 (by
     have e:P++(tb::bodyE ⟨5,text,nn,aa,bb⟩)=P++[tb]++[nn].flatMap (bytesW 8):=by
      show P++(tb::bytesW 8 nn)=_;simp
     rw [e];exact ho3) hf3)
    clear ho3 o3 f3 hf3 HP2 HF2 HNX hn3;go_wp2;go_roundw
    case rel=>exact ⟨k+1,by omega,by omega,by go_num,unhide HN⟩
    case measure=>simp [intOf];omega
  · subst t
    have hr7:0≤aa∧aa<l.length:=by
     have h7:=unhide HOK;unfold okE at h7;simp at h7;exact tagE_in (by omega)
    go_wp2_with (at_builtin;refine listB_append rfl _ _ rfl w.heap.size (.slice ap P.length cp) P.length P rfl (by exact hown1) (some ⟨wr.heap.size+1,0,none⟩) 1 1 [tb] rfl (by exact hsrc1) (fun e=>by cases e) (by omega) (Nat.le_trans hszw (by simp;omega)) ?_)
    intro v2 w2 o2 g2;obtain ⟨hx2,f2⟩:=unhide HST w2 g2;obtain ⟨k0,k1,k2,k3,k4⟩:=entC (x:=⟨7,text,nn,aa,bb⟩) hx2;simp only at k0 k1 k2 k3 k4;obtain ⟨a2,c2',rfl,_⟩:=own_form o2;have harg2:Arg w2 a2 (P.length+1) c2' (P++[tb]):=arg_of_own (by simp) o2;have hs2:=f2.size;have HP2:=hide (putOwn (w2.alloc (.cells #[.int .i64 aa] 3)) a2 (P.length+1) c2' (P++[tb]) 2 false (some ⟨w2.heap.size,0,none⟩) 1 1 [aa] (harg2.below ((Below.refl _ _).alloc (Nat.le_refl _) _)) (nums_one w2 aa) (by intro z hz;simp at hz;subst hz;exact fits2 (by omega)) (by unfold wide;omega) (by intro z hz;simp at hz;omega) (by omega));have HF2:=hide f2;clear o2 g2 hx2 harg2 f2 hown1 hsrc1 HST HOWN HBEL;go_wp2_with fail;refine (unhide HP2).mono ?_;rintro e w3 ⟨a3,n3,c3',rfl,hn3,o3,f3⟩;have hf3:Below w.heap.size w w3:=((unhide HF2).alloc hs2 _).trans (f3.mono (by simp;omega));have ho3:=own_base (base':=w.heap.size) o3 (by simp;omega);have HN:=hide (unhide HNX _ n3 w3 (by
     have e:P++(tb::bodyE ⟨7,text,nn,aa,bb⟩)=P++[tb]++[aa].flatMap (bytesW 2):=by
      show P++(tb::bytesW 2 aa)=_;simp
     rw [e];exact ho3) hf3)
    clear ho3 o3 f3 hf3 HP2 HF2 HNX hn3;go_wp2;go_roundw
    case rel=>exact ⟨k+1,by omega,by omega,by go_num,unhide HN⟩
    case measure=>simp [intOf];omega
  · subst t
    have hrr:(0≤aa∧aa<l.length)∧(0≤bb∧bb<l.length):=by
     have h7:=unhide HOK;unfold okE at h7;simp at h7;exact ⟨tagE_in (by omega),tagE_in (by omega)⟩
    go_wp2_with (at_builtin;refine listB_append rfl _ _ rfl w.heap.size (.slice ap P.length cp) P.length P rfl (by exact hown1) (some ⟨wr.heap.size+1,0,none⟩) 1 1 [tb] rfl (by exact hsrc1) (fun e=>by cases e) (by omega) (Nat.le_trans hszw (by simp;omega)) ?_)
    intro v2 w2 o2 g2;obtain ⟨hx2,f2⟩:=unhide HST w2 g2;obtain ⟨k0,k1,k2,k3,k4⟩:=entC (x:=⟨12,text,nn,aa,bb⟩) hx2;simp only at k0 k1 k2 k3 k4;obtain ⟨a2,c2',rfl,_⟩:=own_form o2;have harg2:Arg w2 a2 (P.length+1) c2' (P++[tb]):=arg_of_own (by simp) o2;have hs2:=f2.size;have HP2:=hide (putOwn (w2.alloc (.cells #[.int .i64 aa,.int .i64 bb] 3)) a2 (P.length+1) c2' (P++[tb]) 2 false (some ⟨w2.heap.size,0,none⟩) 2 2 [aa,bb] (harg2.below ((Below.refl _ _).alloc (Nat.le_refl _) _)) (nums_two w2 aa bb) (by intro z hz;simp at hz;rcases hz with rfl | rfl <;> exact fits2 (by omega)) (by unfold wide;omega) (by intro z hz;simp at hz;omega) (by omega));have HF2:=hide f2;clear o2 g2 hx2 harg2 f2 hown1 hsrc1 HST HOWN HBEL;go_wp2_with fail;refine (unhide HP2).mono ?_;rintro e w3 ⟨a3,n3,c3',rfl,hn3,o3,f3⟩;have hf3:Below w.heap.size w w3:=((unhide HF2).alloc hs2 _).trans (f3.mono (by simp;omega));have ho3:=own_base (base':=w.heap.size) o3 (by simp;omega);have HN:=hide (unhide HNX _ n3 w3 (by
     have e:P++(tb::bodyE ⟨12,text,nn,aa,bb⟩)=P++[tb]++[aa,bb].flatMap (bytesW 2):=by
      show P++(tb::(bytesW 2 aa++bytesW 2 bb))=_;simp
     rw [e];exact ho3) hf3)
    clear ho3 o3 f3 hf3 HP2 HF2 HNX hn3;go_wp2;go_roundw
    case rel=>exact ⟨k+1,by omega,by omega,by go_num,unhide HN⟩
    case measure=>simp [intOf];omega
  · subst t
    have hrr:(0≤aa∧aa<l.length)∧(0≤bb∧bb<l.length):=by
     have h7:=unhide HOK;unfold okE at h7;simp at h7;exact ⟨tagE_in (by omega),tagE_in (by omega)⟩
    go_wp2_with (at_builtin;refine listB_append rfl _ _ rfl w.heap.size (.slice ap P.length cp) P.length P rfl (by exact hown1) (some ⟨wr.heap.size+1,0,none⟩) 1 1 [tb] rfl (by exact hsrc1) (fun e=>by cases e) (by omega) (Nat.le_trans hszw (by simp;omega)) ?_)
    intro v2 w2 o2 g2;obtain ⟨hx2,f2⟩:=unhide HST w2 g2;obtain ⟨k0,k1,k2,k3,k4⟩:=entC (x:=⟨9,text,nn,aa,bb⟩) hx2;simp only at k0 k1 k2 k3 k4;obtain ⟨a2,c2',rfl,_⟩:=own_form o2;have harg2:Arg w2 a2 (P.length+1) c2' (P++[tb]):=arg_of_own (by simp) o2;have hs2:=f2.size;have HP2:=hide (putOwn (w2.alloc (.cells #[.int .i64 aa,.int .i64 bb] 3)) a2 (P.length+1) c2' (P++[tb]) 2 false (some ⟨w2.heap.size,0,none⟩) 2 2 [aa,bb] (harg2.below ((Below.refl _ _).alloc (Nat.le_refl _) _)) (nums_two w2 aa bb) (by intro z hz;simp at hz;rcases hz with rfl | rfl <;> exact fits2 (by omega)) (by unfold wide;omega) (by intro z hz;simp at hz;omega) (by omega));have HF2:=hide f2;clear o2 g2 hx2 harg2 f2 hown1 hsrc1 HST HOWN HBEL;go_wp2_with fail;refine (unhide HP2).mono ?_;rintro e w3 ⟨a3,n3,c3',rfl,hn3,o3,f3⟩;have hf3:Below w.heap.size w w3:=((unhide HF2).alloc hs2 _).trans (f3.mono (by simp;omega));have ho3:=own_base (base':=w.heap.size) o3 (by simp;omega);have HN:=hide (unhide HNX _ n3 w3 (by
     have e:P++(tb::bodyE ⟨9,text,nn,aa,bb⟩)=P++[tb]++[aa,bb].flatMap (bytesW 2):=by
      show P++(tb::(bytesW 2 aa++bytesW 2 bb))=_;simp
     rw [e];exact ho3) hf3)
    clear ho3 o3 f3 hf3 HP2 HF2 HNX hn3;go_wp2;go_roundw
    case rel=>exact ⟨k+1,by omega,by omega,by go_num,unhide HN⟩
    case measure=>simp [intOf];omega
  · subst t
    have hrr:(0≤aa∧aa<l.length)∧(0≤bb∧bb<l.length):=by
     have h7:=unhide HOK;unfold okE at h7;simp at h7;exact ⟨tagE_in (by omega),tagE_in (by omega)⟩
    go_wp2_with (at_builtin;refine listB_append rfl _ _ rfl w.heap.size (.slice ap P.length cp) P.length P rfl (by exact hown1) (some ⟨wr.heap.size+1,0,none⟩) 1 1 [tb] rfl (by exact hsrc1) (fun e=>by cases e) (by omega) (Nat.le_trans hszw (by simp;omega)) ?_)
    intro v2 w2 o2 g2;obtain ⟨hx2,f2⟩:=unhide HST w2 g2;obtain ⟨k0,k1,k2,k3,k4⟩:=entC (x:=⟨10,text,nn,aa,bb⟩) hx2;simp only at k0 k1 k2 k3 k4;obtain ⟨a2,c2',rfl,_⟩:=own_form o2;have harg2:Arg w2 a2 (P.length+1) c2' (P++[tb]):=arg_of_own (by simp) o2;have hs2:=f2.size;have HP2:=hide (putOwn (w2.alloc (.cells #[.int .i64 aa,.int .i64 bb] 3)) a2 (P.length+1) c2' (P++[tb]) 2 false (some ⟨w2.heap.size,0,none⟩) 2 2 [aa,bb] (harg2.below ((Below.refl _ _).alloc (Nat.le_refl _) _)) (nums_two w2 aa bb) (by intro z hz;simp at hz;rcases hz with rfl | rfl <;> exact fits2 (by omega)) (by unfold wide;omega) (by intro z hz;simp at hz;omega) (by omega));have HF2:=hide f2;clear o2 g2 hx2 harg2 f2 hown1 hsrc1 HST HOWN HBEL;go_wp2_with fail;refine (unhide HP2).mono ?_;rintro e w3 ⟨a3,n3,c3',rfl,hn3,o3,f3⟩;have hf3:Below w.heap.size w w3:=((unhide HF2).alloc hs2 _).trans (f3.mono (by simp;omega));have ho3:=own_base (base':=w.heap.size) o3 (by simp;omega);have HN:=hide (unhide HNX _ n3 w3 (by
     have e:P++(tb::bodyE ⟨10,text,nn,aa,bb⟩)=P++[tb]++[aa,bb].flatMap (bytesW 2):=by
      show P++(tb::(bytesW 2 aa++bytesW 2 bb))=_;simp
     rw [e];exact ho3) hf3)
    clear ho3 o3 f3 hf3 HP2 HF2 HNX hn3;go_wp2;go_roundw
    case rel=>exact ⟨k+1,by omega,by omega,by go_num,unhide HN⟩
    case measure=>simp [intOf];omega
section
variable {P:Program} {ops:Array Oper} {Q:Exit→Act→World→Prop} {G:World→World→Prop} {R:Nat→Value→World→Prop}
def lastOk (ops:Array Oper) (n:Nat):Bool:=(List.range n).all fun j=>(List.range (n+1)).any fun i=>decide (j<i)&&(match ops[i]? with | some o=>waitsFor o j | none=>false)
theorem lastOk_spec {n:Nat} (h:lastOk ops n=true) {j:Nat} (hj:j<n):∃i o,j<i∧i≤n∧ops[i]?=some o∧waitsFor o j=true:=by
 have h1:=List.all_eq_true.1 h j (List.mem_range.2 hj);obtain ⟨i,hi,h2⟩:=List.any_eq_true.1 h1;rw [Bool.and_eq_true,decide_eq_true_eq] at h2;cases ho:ops[i]? with
 | none=>simp [ho] at h2
 | some o=>exact ⟨i,o,h2.1,by have:=List.mem_range.1 hi;omega,ho,by simpa [ho] using h2.2⟩
theorem wpAny_full {fuel:Nat} {listed:Array Bool} {a:Act} {w:World} (hr:Region.ready .any ops listed=[]) (h:Q .normal a w):wpAny P .any ops Q fuel listed a w:=by
 cases fuel with
 | zero=>exact ⟨hr,h⟩
 | succ f=>exact ⟨fun _=>h,fun i hi=>by rw [hr] at hi;cases hi⟩
end
section
variable {P:Program} {Q:Exit→Act→World→Prop}
def splitOk (ops:Array Oper) (n:Nat):Bool:=decide (ops.size=n+1)&&lastOk ops n&&(List.range (n+1)).all fun i=>match ops[i]? with
 | none=>true
 | some o=>o.after.all (fun e=>!Region.binds .any e||decide (e.on<i))&&(match o.guard with | none=>true | some g=>decide (g.1<n))
structure SplitOp (n i:Nat) (o:Oper):Prop where
 back:∀e∈o.after,Region.binds .any e=true→e.on<i
 guard:∀g,o.guard=some g→g.1<n
theorem splitOk_spec {ops:Array Oper} {n:Nat} (h:splitOk ops n=true):ops.size=n+1∧lastOk ops n=true∧∀i o,ops[i]?=some o→SplitOp n i o:=by
 unfold splitOk at h;simp only [Bool.and_eq_true,decide_eq_true_eq] at h;obtain ⟨⟨h1,h2⟩,h3⟩:=h;refine ⟨h1,h2,fun i o ho=>?_⟩;have hi:=(Array.getElem?_eq_some_iff.1 ho).1;have h4:=List.all_eq_true.1 h3 i (List.mem_range.2 (by omega));simp only [ho,Bool.and_eq_true] at h4;refine ⟨fun e he hb=>?_,fun g hg=>?_⟩
 · have:=(Array.all_eq_true_iff_forall_mem.1 h4.1) e he
   simpa [hb] using this
 · have:=h4.2
   rw [hg] at this
   simpa using this
def thenLast (P:Program) (ops:Array Oper) (n:Nat) (Q:Exit→Act→World→Prop):Exit→Act→World→Prop
 | .normal,a,w=>wpOp P ops Q n (fun a' w'=>Q .normal a' w') a w
 | ex,a,w=>Q ex a w
theorem letsOut_thenLast {ops:Array Oper} {n:Nat} (h:LetsOut (thenLast P ops n Q)):LetsOut Q:=h
theorem wp_thenLast {ops:Array Oper} {n:Nat} {o:Oper} {a:Act} {w:World} {K:Act→World→Prop} (hh:o.wp P a w K (thenLast P ops n Q)):o.wp P a w K Q:=by
 unfold Oper.wp at *;generalize (execOp a.eval o).run P w=r at *;cases r with
 | ok n w'=>
  cases n <;> simp only [Oper.upon] at hh ⊢ <;>
   first
    | exact hh
    | exact Calls.mono hh (fun e w'' he=>by cases e <;> exact he)
 | halt x w'=>cases x <;> simp only [Oper.upon] at hh ⊢ <;> exact hh
theorem ready_pre {pre:List Oper} {o:Oper} {listed:Array Bool} (hs:listed.size=pre.length) {i:Nat} (hi:i<pre.length) (hb:∀i o',(pre++[o]).toArray[i]?=some o'→SplitOp pre.length i o') :
 i∈Region.ready .any (pre++[o]).toArray (listed.push false)↔i∈Region.ready .any pre.toArray listed:=by
 rw [mem_ready,mem_ready];have e1:(pre++[o]).toArray[i]?=pre.toArray[i]?:=by simp [List.getElem?_append_left hi]
 have e2:∀j,j<pre.length→(listed.push false).getD j true=listed.getD j true:=fun j hj=>by
  have h1:j<listed.size:=by omega
  simp [Array.getElem?_push,Nat.ne_of_lt h1]
 have e3:∀j,j<pre.length→(listed.push false).getD j false=listed.getD j false:=fun j hj=>by
  have h1:j<listed.size:=by omega
  simp [Array.getElem?_push,Nat.ne_of_lt h1]
 rw [e1,e2 i hi];refine ⟨fun ⟨h1,o',h2,h3⟩=>⟨h1,o',h2,fun e he hbb=>?_⟩,fun ⟨h1,o',h2,h3⟩=>⟨h1,o',h2,fun e he hbb=>?_⟩⟩
 · have hlt:=(hb i o' (by rw [e1];exact h2)).back e he hbb
   rw [←e3 _ (by omega)];exact h3 e he hbb
 · have hlt:=(hb i o' (by rw [e1];exact h2)).back e he hbb
   rw [e3 _ (by omega)];exact h3 e he hbb
theorem wanted_pre {pre:List Oper} {o:Oper} {tmps:Array Value} {o':Oper} (hg:∀g,o'.guard=some g→g.1<pre.length):Region.wanted o' (yielded (pre++[o]).toArray tmps)=Region.wanted o' (yielded pre.toArray tmps):=by
 unfold Region.wanted;cases h:o'.guard with
 | none=>rfl
 | some g=>
  obtain ⟨j,b⟩:=g;have hj:=hg _ h;simp only at hj ⊢;unfold yielded;rw [show (pre++[o]).toArray[j]?=pre.toArray[j]? by simp [List.getElem?_append_left hj]]
def Shut9 (ops:Array Oper) (listed:Array Bool):Prop:=∀j o,ops[j]?=some o→listed.getD j false=true→∀e∈o.after,Region.binds .any e=true→listed.getD e.on false=true
theorem all_listed {ops:Array Oper} {n:Nat} (hk:ops.size=n+1) (hlo:lastOk ops n=true) {listed:Array Bool} (hs:Shut9 ops listed) {o:Oper} (ho:ops[n]?=some o) (hall:∀e∈o.after,Region.binds .any e=true→listed.getD e.on false=true):∀j,j<n→listed.getD j false=true:=by
 have:∀d j,n-j=d→j<n→listed.getD j false=true:=by
  intro d
  induction d using Nat.strongRecOn with
  | _ d ih2=>
   intro j hd hj;obtain ⟨k,ok,hjk,hki,hok',hwf⟩:=lastOk_spec hlo hj;obtain ⟨e,he,hb,hon⟩:=waitsFor_spec hwf
   by_cases hk:k=n
   · subst hk
     rw [ho] at hok';injection hok' with hok'
     subst hok';have:=hall e he hb;rw [hon] at this;exact this
   · have hl:=ih2 (n-k) (by omega) k rfl (by omega)
     have:=hs k ok hok' hl e he hb;rw [hon] at this;exact this
 exact fun j hj=>this _ j rfl hj
theorem split_any {pre:List Oper} {o:Oper} (hok:splitOk (pre++[o]).toArray pre.length=true):∀(fuel:Nat) (listed:Array Bool) (a:Act) (w:World),listed.size=pre.length→Shut9 (pre++[o]).toArray (listed.push false) →
 wpAny P .any pre.toArray (thenLast P (pre++[o]).toArray pre.length Q) fuel listed a w→wpAny P .any (pre++[o]).toArray Q (fuel+1) (listed.push false) a w:=by
 obtain ⟨hsz,hlo,hb⟩:=splitOk_spec hok;have hon:(pre++[o]).toArray[pre.length]?=some o:=by simp
 have key:∀(fuel:Nat) (listed:Array Bool) (a:Act) (w:World),listed.size=pre.length→Shut9 (pre++[o]).toArray (listed.push false)→(Region.ready .any pre.toArray listed=[]→thenLast P (pre++[o]).toArray pre.length Q .normal a w) →
  (∀i∈Region.ready .any pre.toArray listed,wpOp P (pre++[o]).toArray Q i (wpAny P .any (pre++[o]).toArray Q fuel ((listed.setIfInBounds i true).push false)) a w)→wpAny P .any (pre++[o]).toArray Q (fuel+1) (listed.push false) a w:=by
  intro fuel listed a w hs hsh h1 h2;refine ⟨fun hr=>?_,fun i hi=>?_⟩
  · exfalso
    have hall:∀i,i<pre.length+1→(listed.push false).getD i false=true:=by
     intro i
     induction i using Nat.strongRecOn with
     | _ i ih2=>
      intro hi;cases hl:(listed.push false).getD i false with
      | true=>rfl
      | false=>
       exfalso;have ho:(pre++[o]).toArray[i]?=some ((pre++[o]).toArray[i]'(by rw [hsz];omega)):=Array.getElem?_eq_getElem (by rw [hsz];omega);have hready:i∈Region.ready .any (pre++[o]).toArray (listed.push false):=by
        refine mem_ready.2 ⟨?_,_,ho,fun e he hbb=>?_⟩
        · have his:i<(listed.push false).size:=by simp;omega
          simp only [Array.getD,his,dite_true] at hl ⊢;exact hl
        · have hlt:=(hb i _ ho).back e he hbb
          exact ih2 _ hlt (by omega)
       rw [hr] at hready;cases hready
    have:=hall pre.length (by omega);rw [←hs] at this;simp at this
  · obtain ⟨h0,o',ho',hall⟩:=mem_ready.1 hi
    have hil:i<pre.length+1:=by have:=(Array.getElem?_eq_some_iff.1 ho').1;rw [hsz] at this;exact this
    by_cases hin:i=pre.length
    · subst hin
      rw [hon] at ho';injection ho' with ho'
      subst ho';have hl:=all_listed hsz hlo hsh hon hall;have hr:Region.ready .any pre.toArray listed=[]:=by
       cases hc:Region.ready .any pre.toArray listed with
       | nil=>rfl
       | cons k rest=>
        exfalso;have hk:k∈Region.ready .any pre.toArray listed:=by rw [hc];exact List.mem_cons_self ..
        obtain ⟨g1,ok,hok',_⟩:=mem_ready.1 hk;have hkl:k<pre.length:=by have:=(Array.getElem?_eq_some_iff.1 hok').1;simpa using this
        have g2:=hl k hkl;have hks:k<listed.size:=by omega
        simp [Array.getElem?_push,Nat.ne_of_lt hks,hks] at g1 g2;rw [g1] at g2;cases g2
      have h3:=h1 hr;unfold thenLast at h3;refine wpOp_mono (fun a' w' hq=>?_) h3;refine wpAny_full ?_ hq;cases hc:Region.ready .any (pre++[o]).toArray ((listed.push false).setIfInBounds pre.length true) with
      | nil=>rfl
      | cons k rest=>
       exfalso;have hk:k∈Region.ready .any (pre++[o]).toArray ((listed.push false).setIfInBounds pre.length true):=by rw [hc];exact List.mem_cons_self ..
       obtain ⟨g1,ok,hok',_⟩:=mem_ready.1 hk;have hkl:k<pre.length+1:=by have:=(Array.getElem?_eq_some_iff.1 hok').1;rw [hsz] at this;exact this
       by_cases hkn:k=pre.length
       · subst hkn
         have:pre.length<(listed.push false).size:=by simp;omega
         simp at g1
       · rw [getD_set_ne true (fun h=>hkn h.symm)] at g1
         have g2:=hl k (by omega);have hks:k<listed.size:=by omega
         simp [Array.getElem?_push,Nat.ne_of_lt hks,hks] at g1 g2;rw [g1] at g2;cases g2
    · have hip:i<pre.length:=by omega
      have:=h2 i ((ready_pre hs hip hb).1 hi);have e:(listed.push false).setIfInBounds i true=(listed.setIfInBounds i true).push false:=by
       apply Array.ext_getElem?;intro k;simp only [Array.getElem?_setIfInBounds,Array.getElem?_push,Array.size_push,Array.size_setIfInBounds]
       by_cases e1:i=k
       · subst e1
         have h1:i<listed.size:=by omega
         simp [h1,Nat.ne_of_lt h1,Nat.lt_succ_of_lt h1]
       · by_cases e2:k=listed.size
         · have h1:¬i=listed.size:=by omega
           simp [e2,h1]
         · simp [e1,e2]
      rw [e];exact this
 intro fuel
 induction fuel with
 | zero=>
  intro listed a w hs hsh h;refine key 0 listed a w hs hsh (fun _=>h.2) (fun i hi=>?_);rw [h.1] at hi;cases hi
 | succ fuel ih=>
  intro listed a w hs hsh h;refine key (fuel+1) listed a w hs hsh h.1 (fun i hi=>?_);have h2:=h.2 i hi;obtain ⟨g1,o',ho',hall⟩:=mem_ready.1 hi;have hip:i<pre.length:=by have:=(Array.getElem?_eq_some_iff.1 ho').1;simpa using this
  have ho2:(pre++[o]).toArray[i]?=some o':=by simp [List.getElem?_append_left hip];simpa using ho'
  have hsh2:Shut9 (pre++[o]).toArray ((listed.setIfInBounds i true).push false):=by
   intro j oj hoj hj e he hbb;have hup:∀k,k<pre.length→(listed.push false).getD k false=true→((listed.setIfInBounds i true).push false).getD k false=true:=fun k hk hl=>by
    have h1:k<listed.size:=by omega
    simp [Array.getElem?_push,Nat.ne_of_lt h1] at hl ⊢;rw [Array.getElem?_setIfInBounds]
    by_cases e1:i=k
    · simp [e1,h1]
    · simp [e1,hl]
   have hjl:j<pre.length:=by
    by_cases h1:j<pre.length
    · exact h1
    · exfalso
      have h2:=(Array.getElem?_eq_some_iff.1 hoj).1;rw [hsz] at h2;have h3:j=listed.size:=by omega
      have h4:((listed.setIfInBounds i true).push false)[j]?=some false:=by rw [Array.getElem?_push,if_pos (by simp;exact h3)]
      rw [Array.getD_eq_getD_getElem?,h4] at hj;cases hj
   have hlt:=(hb j oj hoj).back e he hbb
   by_cases hji:j=i
   · subst hji
     rw [ho2] at hoj;injection hoj with hoj
     subst hoj;refine hup _ (by omega) ?_;have:=hall e he hbb;have h1:e.on<listed.size:=by omega
     simp [Array.getElem?_push,Nat.ne_of_lt h1] at this ⊢;exact this
   · refine hup _ (by omega) (hsh j oj hoj ?_ e he hbb)
     have h1:j<listed.size:=by omega
     simp [Array.getElem?_push,Nat.ne_of_lt h1,Array.getElem?_setIfInBounds] at hj ⊢;rw [if_neg (fun h:i=j=>hji h.symm)] at hj;exact hj
  have h3:wpOp P (pre++[o]).toArray Q i (wpAny P .any pre.toArray (thenLast P (pre++[o]).toArray pre.length Q) fuel (listed.setIfInBounds i true)) a w:=by
   unfold wpOp at h2 ⊢;rw [ho'] at h2;rw [ho2];simp only at h2 ⊢;rw [wanted_pre (hb i o' ho2).guard];split
   · rename_i hw
     rw [if_pos hw] at h2;exact h2.imp wp_thenLast (fun g=>⟨g.1,letsOut_thenLast g.2⟩)
   · rename_i hw
     rw [if_neg hw] at h2;exact h2
  exact wpOp_mono (fun a' w' hq=>ih _ a' w' (by simpa using hs) hsh2 hq) h3
theorem wp_region_split {id:Nat} {pre:List Oper} {o:Oper} {a:Act} {w:World} (hm:P.follows .mixedOrders=true) (hok:splitOk (pre++[o]).toArray pre.length=true)
 (h:wpAny P .any pre.toArray (thenLast P (pre++[o]).toArray pre.length Q) pre.length (Array.replicate pre.length false) a w.drew):(Code.region id (pre++[o]).toArray true).wp P Q a w:=by
 refine wp_region_any hm ?_
 have h1:=split_any hok pre.length (Array.replicate pre.length false) a w.drew (by simp) (fun j oj hoj hj=>by
  exfalso;rw [Array.getD_eq_getD_getElem?,Array.getElem?_push] at hj;split at hj
  · cases hj
  · rw [Array.getElem?_replicate] at hj
    split at hj <;> cases hj) h
 have e:(Array.replicate pre.length false).push false=Array.replicate (pre++[o]).toArray.size false:=by
  apply Array.ext_getElem?;intro k;simp only [Array.getElem?_push,Array.getElem?_replicate,Array.size_replicate,List.size_toArray,List.length_append,List.length_singleton]
  by_cases e1:k=pre.length
  · simp [e1]
  · by_cases e2:k<pre.length
    · simp [e1,e2,Nat.lt_succ_of_lt e2]
    · simp [e1,e2,show ¬k<pre.length+1 by omega]
 rw [e] at h1
 simpa using h1
theorem wp_region_txtl {id:Nat} {pre:List Oper} {o:Oper} {a:Act} {w:World} (I:World→Prop) (acts π:List Nat) (hm:P.follows .mixedOrders=true) (hok:(splitOk (pre++[o]).toArray pre.length&&txtOk pre.toArray (fun i=>acts.contains i) π)=true) (hI:I w.drew)
 (h:Txt P pre.toArray (thenLast P (pre++[o]).toArray pre.length Q) I (fun i=>acts.contains i) π a w.drew):(Code.region id (pre++[o]).toArray true).wp P Q a w:=by
 rw [Bool.and_eq_true] at hok;refine wp_region_split hm hok.1 ?_;have hok:=hok.2;have hall:remT π (Array.replicate pre.length false)=π:=by
  have hok':=hok;unfold txtOk at hok';simp only [Bool.and_eq_true,decide_eq_true_eq] at hok';obtain ⟨⟨⟨⟨_,hltb⟩,_⟩,_⟩,_⟩:=hok';refine List.filter_eq_self.2 (fun j hj=>?_);have:j<pre.toArray.size:=by simpa using List.all_eq_true.1 hltb j hj
  simp at this;simp [this]
 refine txt_any hok _ _ a _ (by simp) ?_ (fun i o ho hi=>?_) (by rw [hall];exact h) hI
 · rw [hall]
   unfold txtOk at hok;simp only [Bool.and_eq_true,decide_eq_true_eq] at hok;have:=Nat.le_of_eq hok.1.1.1.1.1
   simpa using this
 · exfalso
   have hlt:=(Array.getElem?_eq_some_iff.1 ho).1;simp at hlt;simp [hlt] at hi
theorem thenLast_does {pre:List Oper} {o:Oper} {a:Act} {w:World} (hw:Region.wanted o (yielded (pre++[o]).toArray a.tmps)=true)
 (h:∀K:Act→World→Prop,Shut (∀a' w',Q .normal a' w'→K a' w')→Oper.wp P o a w K Q):thenLast P (pre++[o]).toArray pre.length Q .normal a w:=by
 unfold thenLast wpOp;have:(pre++[o]).toArray[pre.length]?=some o:=by simp
 rw [this];simp only;rw [if_pos hw];exact .inl (h _ (fun a' w' g=>g))
end
section
variable {P:Program} {Q:Exit→Act→World→Prop}
theorem take_snoc {l:List Oper} {n:Nat} {o:Oper} (hn:l.length=n+1) (ho:l[n]?=some o):l.take n++[o]=l:=by
 have h1:n<l.length:=by omega
 have h2:l[n]=o:=by rw [List.getElem?_eq_getElem h1] at ho;injection ho
 rw [←h2,List.take_append_getElem h1,List.take_of_length_le (by omega)]
theorem wp_region_txtn {id:Nat} {l:List Oper} {a:Act} {w:World} (I:World→Prop) (acts π:List Nat) (n:Nat) (hn:l.length=n+1) (hm:P.follows .mixedOrders=true) (hok:(splitOk l.toArray n&&txtOk (l.take n).toArray (fun i=>acts.contains i) π)=true) (hI:I w.drew)
 (h:Txt P (l.take n).toArray (thenLast P l.toArray n Q) I (fun i=>acts.contains i) π a w.drew):(Code.region id l.toArray true).wp P Q a w:=by
 have h1:n<l.length:=by omega
 have e:=take_snoc hn (List.getElem?_eq_getElem h1);have e2:(l.take n).length=n:=by rw [List.length_take];omega
 have:=wp_region_txtl (P:=P) (Q:=Q) (id:=id) (pre:=l.take n) (o:=l[n]) (a:=a) (w:=w) I acts π hm (by rw [e,e2];exact hok) hI (by rw [e,e2];exact h)
 rwa [e] at this
theorem thenLast_n {l:List Oper} {n:Nat} {o:Oper} {a:Act} {w:World} (hn:l.length=n+1) (ho:l[n]?=some o) (hw:Region.wanted o (yielded l.toArray a.tmps)=true)
 (h:∀K:Act→World→Prop,Shut (∀a' w',Q .normal a' w'→K a' w')→Oper.wp P o a w K Q):thenLast P l.toArray n Q .normal a w:=by
 have e:=take_snoc hn ho;have e2:(l.take n).length=n:=by rw [List.length_take];omega
 have:=thenLast_does (P:=P) (Q:=Q) (pre:=l.take n) (o:=o) (a:=a) (w:=w) (by rw [e];exact hw) h
 rwa [e,e2] at this
end
end Go.Proofs.YtlabllgifkklhaaGreatDoor
