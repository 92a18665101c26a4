/- Joined: PlF PlN PlO PlR0 WdR. -/
import Derived.Test.YtlabllgifkklhaaGreatDoorJP1
import Derived.Test.YtlabllgifkklhaaGreatDoorJP0
set_option linter.unusedVariables false
set_option maxRecDepth 100000
set_option maxHeartbeats 3200000
namespace Go.Proofs.YtlabllgifkklhaaGreatDoor
open Go.RowKit
theorem findE_some {l:List Ent} {x:Ent} (h:findE l x≠0):1≤findE l x∧findE l x<l.length∧l[findE l x]?=some x:=by
 obtain ⟨h1,h2,h3,_⟩:=first_some (p:=fun i=>decide (l[i]?=some x)) (k:=findE l x) rfl h;exact ⟨h1,h2,by simpa using h3⟩
structure Ext (l L:List Ent) (S:Int→Prop):Prop where
 ext:∃e,L=l++e
 right:rightL L
 tags:∀j:Nat,l.length≤j→j<L.length→S (atE L (j:Int)).tag
theorem Ext.refl {l:List Ent} (h:rightL l) (S:Int→Prop):Ext l l S:=⟨⟨[],by simp⟩,h,fun j h1 h2=>by omega⟩
theorem Ext.len {l L:List Ent} {S:Int→Prop} (h:Ext l L S):l.length≤L.length:=by
 obtain ⟨e,rfl⟩:=h.ext;simp
theorem Ext.mean {l L:List Ent} {S:Int→Prop} (h:Ext l L S) (hr:rightL l) {j:Nat} (hj:j<l.length):meanP L (j:Int)=meanP l (j:Int):=by
 obtain ⟨e,rfl⟩:=h.ext;exact meanP_keep e hr hj
theorem Ext.at {l L:List Ent} {S:Int→Prop} (h:Ext l L S) {i:Int} (hi:(atE l i).tag≠0):atE L i=atE l i:=by
 obtain ⟨e,rfl⟩:=h.ext;exact atE_keep e hi
theorem Ext.trans {l L M:List Ent} {S:Int→Prop} (h:Ext l L S) (h2:Ext L M S):Ext l M S:=by
 obtain ⟨e,rfl⟩:=h.ext;obtain ⟨e2,rfl⟩:=h2.ext;refine ⟨⟨e++e2,by simp⟩,h2.right,fun j h3 h4=>?_⟩
 by_cases hj:j<(l++e).length
 · rw [atE_left e2 hj]
   exact h.tags j h3 hj
 · exact h2.tags j (by omega) h4
theorem Ext.mono {l L:List Ent} {S S':Int→Prop} (h:Ext l L S) (hs:∀t,S t→S' t):Ext l L S':=⟨h.ext,h.right,fun j h1 h2=>hs _ (h.tags j h1 h2)⟩
theorem str_eq (s t:List UInt8):((⟨s.toArray⟩:ByteArray).toList=(⟨t.toArray⟩:ByteArray).toList)↔s=t:=by
 rw [ByteArray.toList_eq,ByteArray.toList_eq]
theorem ent_cmp (w:World) (x y:Ent) :
 (binOp .eql 55 (.agg #[.int .i64 x.tag,.string ⟨x.text.toArray⟩,.int .i64 x.n,.int .i64 x.a,.int .i64 x.b]) (.agg #[.int .i64 y.tag,.string ⟨y.text.toArray⟩,.int .i64 y.n,.int .i64 y.a,.int .i64 y.b])).run Tryz.prog w=.ok (.bool (decide (x=y))) w:=by
 rw [run_eql_struct];go_simp;have e:=Ent.eq_iff x y;have es:=str_eq x.text y.text
 repeat' split
 all_goals
  congr 2
  simp only [Bool.true_eq,Bool.false_eq,decide_eq_true_eq,decide_eq_false_iff_not,←e,←es]
  simp_all
theorem ent_cmpN (w:World) (x y:Ent) :
 (binOp .neq 55 (.agg #[.int .i64 x.tag,.string ⟨x.text.toArray⟩,.int .i64 x.n,.int .i64 x.a,.int .i64 x.b]) (.agg #[.int .i64 y.tag,.string ⟨y.text.toArray⟩,.int .i64 y.n,.int .i64 y.a,.int .i64 y.b])).run Tryz.prog w=.ok (.bool (!decide (x=y))) w:=by
 rw [run_neq_struct];have h:=ent_cmp w x y;rw [run_eql_struct] at h;cases hq:(Op.equalIn 10000 55 (.agg #[.int .i64 x.tag,.string ⟨x.text.toArray⟩,.int .i64 x.n,.int .i64 x.a,.int .i64 x.b]) (.agg #[.int .i64 y.tag,.string ⟨y.text.toArray⟩,.int .i64 y.n,.int .i64 y.a,.int .i64 y.b])).run Tryz.prog w with
 | ok b w'=>
  rw [hq] at h;simp only [Result.andThen_ok,Result.ok.injEq,Value.bool.injEq] at h;rw [h.1,h.2];rfl
 | halt h1 w'=>
  rw [hq] at h;simp [Result.andThen] at h
def entV (x:Ent):Value:=.agg #[.int .i64 x.tag,.string ⟨x.text.toArray⟩,.int .i64 x.n,.int .i64 x.a,.int .i64 x.b]
theorem strI (l:List UInt8) (i:Nat) (b:UInt8) (h:l[i]?=some b):∀w,(Instr.index 9 (.string ⟨l.toArray⟩) (.int .i64 (i:Int))).run Tryz.prog w=.ok (.int .u8 (b.toNat:Int)) w:=fun w=>by
 have hl:i<l.length:=(List.getElem?_eq_some_iff.1 h).1;have hb:=(List.getElem?_eq_some_iff.1 h).2;have hs:(⟨l.toArray⟩:ByteArray).size=l.length:=by simp [ByteArray.size]
 have:=run_index_string (P:=Tryz.prog) (w:=w) 9 ⟨l.toArray⟩ .i64 (i:Int) (by kernel_rfl);rw [dif_pos ⟨by omega,by rw [hs];omega⟩] at this;rw [this]
 have e:(⟨l.toArray⟩:ByteArray)[(i:Int).toNat]'(by rw [hs];omega)=b:=by
  rw [←hb];rfl
 rw [e]
def okB (x:UInt8):Bool:=decide (33≤x.toNat)&&decide (x.toNat≤126)
theorem textB_eq (s:List UInt8):textB s=(s.all okB&&decide (s.length≤255)):=rfl
theorem jtext_any (w:World) (s:List UInt8) (hs:s.length≤140737488355328) :
 Calls Tryz.prog 65 #[.string ⟨s.toArray⟩] w fun e w'=>e=.returned (.bool (textB s))∧w'=w:=by
 have hsz:(⟨s.toArray⟩:ByteArray).size=s.length:=by simp [ByteArray.size]
 have H:=hide (fun k (hk:k<s.length)=>strI s k s[k] (List.getElem?_eq_getElem hk));obtain ⟨T,hT⟩:∃T,T=textB s:=⟨_,rfl⟩;rw [←hT];have HT:=hide hT;generalize (⟨s.toArray⟩:ByteArray)=st at *;clear hT;go_enter Tryz.func65,Tryz.ntmps65;go_wp2
 go_loopw [3] (fun i wr=>∃k:Nat,k≤s.length∧i=.int .i64 k∧(∀j b,j<k→s[j]?=some b→okB b=true)∧wr=w) (fun i _=>s.length-(intOf i).toNat)
 case atStart=>exact ⟨0,by omega,rfl,fun j b h=>by omega,rfl⟩
 case round=>
  obtain ⟨k,hk,rfl,hall,e0⟩:=hrel;have e0':=e0.symm;clear e0;subst e0'
  by_cases hlt:k<s.length
  · have hlt1:(k:Int)<(s.length:Int):=by omega
    have hidx:=unhide H k hlt;have hks:s[k]?=some s[k]:=List.getElem?_eq_getElem hlt;obtain ⟨b,hb⟩:∃b,b=s[k]:=⟨_,rfl⟩;rw [←hb] at hidx hks
    by_cases h1:b.toNat<33
    · have e1:Hid (T=false):=by
       rw [unhide HT,textB_eq];have:s.all okB=false:=by
        rw [List.all_eq_false];exact ⟨b,List.mem_of_getElem? hks,by unfold okB;simp;omega⟩
       rw [this];rfl
      have h1':(b.toNat:Int)<33:=by omega
      clear hall hks hb h1;generalize b.toNat=B at *;go_wp2;go_ret;exact ⟨by rw [unhide e1];rfl,rfl⟩
    · by_cases h2:126<b.toNat
      · have e1:Hid (T=false):=by
         rw [unhide HT,textB_eq];have:s.all okB=false:=by
          rw [List.all_eq_false];exact ⟨b,List.mem_of_getElem? hks,by unfold okB;simp;omega⟩
         rw [this];rfl
        have h1':¬(b.toNat:Int)<33:=by omega
        have h2':(126:Int)<(b.toNat:Int):=by omega
        clear hall hks hb h1 h2;generalize b.toNat=B at *;go_wp2;go_ret;exact ⟨by rw [unhide e1];rfl,rfl⟩
      · have HA:Hid (∀j b,j<k+1→s[j]?=some b→okB b=true):=fun j b' hj hb'=>by
         by_cases hjk:j=k
         · subst hjk
           rw [hks] at hb';injection hb' with hb'
           subst hb';unfold okB;simp;omega
         · exact hall j b' (by omega) hb'
        have h1':¬(b.toNat:Int)<33:=by omega
        have h2':¬(126:Int)<(b.toNat:Int):=by omega
        clear hall hks hb h1 h2;generalize b.toNat=B at *;go_wp2;go_roundw
        case rel=>exact ⟨k+1,by omega,by go_num,unhide HA,by first | rfl | trivial⟩
        case measure=>simp [intOf];omega
  · obtain rfl:k=s.length:=by omega
    have e1:Hid (T=decide ((s.length:Int)≤255)):=by
     rw [unhide HT,textB_eq];have:s.all okB=true:=by
      rw [List.all_eq_true];intro x hx;obtain ⟨j,hj⟩:=List.mem_iff_getElem?.1 hx;exact hall j x ((List.getElem?_eq_some_iff.1 hj).1) hj
     rw [this,Bool.true_and]
     congr 1
     simp;omega
    clear hall H;generalize s.length=n at *;go_wp2;go_ret;exact ⟨by rw [unhide e1];rfl,rfl⟩
theorem es_of_block {w:World} {q:Nat} {l:List Ent} {e:TypeId} {f:Nat×Nat} (h:w.heap[q]?=some (.cells (ev l).toArray e f)):EntsAt w (some ⟨q,0,none⟩) l:=fun ad e j u hu=>by
 injection e with e
 subst e;rw [Addr.add_mid,Nat.zero_add,cell_of_row _ _ _ _ _ _ h]
 simpa using hu
theorem wpE_append {w:World} {o:Oper} {a:Act} {K:Act→World→Prop} {Q:Exit→Act→World→Prop} (s x:Operand) (ho:o.op=.call { callee:=.builtin .append,args:=#[s,x],argTypes:=#[22,22] })
 (base:Nat) (v:Value) (n:Nat) (xs:List Ent) (hs:a.eval s=v) (hown:w.ownsRow base 55 5 v n (ev xs)) (src:Option Addr) (m c:Nat) (ys:List Ent) (hx:a.eval x=.slice src m c) (hb:Es w src m ys) (hnil:src=none→m=0∧c=0)
 (hsm:(n+m)*48≤140737488355328) (hbase:base≤w.heap.size) (h:∀v' w',w'.ownsRow base 55 5 v' (n+m) (ev (xs++ys))→w.grownBy w' v.ownBlock→K (a.put o.dst v') w'):o.wp Tryz.prog a w K Q:=by
 obtain ⟨i0,hi,hz0,hz1,hz2⟩:=info_parts infoE;cases src with
 | none=>
  obtain ⟨rfl,rfl⟩:=hnil rfl;have h0:ys=[]:=List.eq_nil_of_length_eq_zero hb.1;subst h0;have hrun:=run_append_owned_none (P:=Tryz.prog) (w:=w) base 22 o.type 55 i0 5 Tryz.underlying22 hi v n (ev xs) hown;unfold Oper.wp;simp [execOp,ho,resolve,invoke,builtin,hs,hx,hrun,Result.andThen];exact h v w (by rw [List.append_nil];exact hown) ⟨rfl,rfl,rfl,Nat.le_refl _,fun _ _ _=>rfl⟩
 | some ad=>
  have hsrc:∀j u,(ev ys)[j]?=some u→w.cell? (ad.add j)=some u:=by
   rcases hb.2 with h0 | ⟨b,o,e,hE⟩
   · have:ys=[]:=List.eq_nil_of_length_eq_zero (by rw [hb.1];exact h0)
     subst this;intro j u hu;simp [ev] at hu
   · exact fun j u hu=>hE ad (by rw [←e]) j u hu
  refine wp_append_own w s x 22 ho base 55 i0 (.agg #[.int .i64 0,.string ⟨#[]⟩,.int .i64 0,.int .i64 0,.int .i64 0]) 5 48 Tryz.underlying22 hi hz0 hz1 hz2 rfl (by decide) v n (ev xs) hs hown ad m c (ev ys) hx (by rw [ev_len,hb.1]) hsrc (ev_one _) (by unfold maxLen;omega) hsm hbase ?_;intro v' w' h1 h2 _;exact h v' w' (by rw [ev_append];exact h1) h2
theorem listE_append {w:World} {ops:Array Oper} {rest:List Oper} {o:Oper} {a:Act} {Q:Exit→Act→World→Prop} (hgd:o.guard=none) (s x:Operand) (ho:o.op=.call { callee:=.builtin .append,args:=#[s,x],argTypes:=#[22,22] })
 (base:Nat) (v:Value) (n:Nat) (xs:List Ent) (hs:a.eval s=v) (hown:w.ownsRow base 55 5 v n (ev xs)) (src:Option Addr) (m c:Nat) (ys:List Ent) (hx:a.eval x=.slice src m c) (hb:Es w src m ys) (hnil:src=none→m=0∧c=0)
 (hsm:(n+m)*48≤140737488355328) (hbase:base≤w.heap.size) (h:∀v' w',w'.ownsRow base 55 5 v' (n+m) (ev (xs++ys))→w.grownBy w' v.ownBlock→wpList Tryz.prog ops Q rest (a.put o.dst v') w'):wpList Tryz.prog ops Q (o::rest) a w:=
 wpList_plain hgd fun K hK=>wpE_append s x ho base v n xs hs hown src m c ys hx hb hnil hsm hbase (fun v' w' h1 h2=>hK _ _ (h v' w' h1 h2))
theorem entC {w:World} {q:Nat} {x:Ent} {T:TypeId} {f:Nat×Nat} (h:w.heap[q]?=some (.cells #[.int .i64 x.tag,.string ⟨x.text.toArray⟩,.int .i64 x.n,.int .i64 x.a,.int .i64 x.b] T f)) :
 w.cell? ⟨q,0,none⟩=some (.int .i64 x.tag)∧w.cell? ⟨q,1,none⟩=some (.string ⟨x.text.toArray⟩)∧w.cell? ⟨q,2,none⟩=some (.int .i64 x.n)∧w.cell? ⟨q,3,none⟩=some (.int .i64 x.a)∧w.cell? ⟨q,4,none⟩=some (.int .i64 x.b):=
 ⟨by rw [cell_of_row _ _ _ _ _ _ h];rfl,by rw [cell_of_row _ _ _ _ _ _ h];rfl,by rw [cell_of_row _ _ _ _ _ _ h];rfl,by rw [cell_of_row _ _ _ _ _ _ h];rfl,by rw [cell_of_row _ _ _ _ _ _ h];rfl⟩
theorem own5_form {w:World} {base:Nat} {e:TypeId} {v:Value} {n:Nat} {xs:List Value} (h:w.ownsRow base e 5 v n xs):∃a c,v=.slice a n c:=by
 rcases h.2 with ⟨rfl,rfl⟩ | ⟨g,cap,cur,rfl,_⟩
 · exact ⟨_,_,rfl⟩
 · exact ⟨_,_,rfl⟩
theorem sizeCst:(Tryz.prog.info? 133).map (·.size)=some 5:=by kernel_rfl
theorem five_set {W:World} {A:Nat} {T:TypeId} {a0 a1 a2 a3 a4:Value} (c0 c1 c2 c3 c4:Value) (h:W.heap[A]?=some (.cells #[a0,a1,a2,a3,a4] T (0,0))) :
 (((((W.setCell ⟨A,0,none⟩ c0).setCell ⟨A,1,none⟩ c1).setCell ⟨A,2,none⟩ c2).setCell ⟨A,3,none⟩ c3).setCell ⟨A,4,none⟩ c4).heap[A]?=some (.cells #[c0,c1,c2,c3,c4] T (0,0)):=by
 have h0:=heap_setCell_same W A 0 _ _ c0 h;have h1:=heap_setCell_same _ A 1 _ _ c1 h0;have h2:=heap_setCell_same _ A 2 _ _ c2 h1;have h3:=heap_setCell_same _ A 3 _ _ c3 h2;exact heap_setCell_same _ A 4 _ _ c4 h3
theorem five_bel {B A:Nat} {w W:World} (c0 c1 c2 c3 c4:Value) (h:Below B w W) (hA:B≤A):Below B w (((((W.setCell ⟨A,0,none⟩ c0).setCell ⟨A,1,none⟩ c1).setCell ⟨A,2,none⟩ c2).setCell ⟨A,3,none⟩ c3).setCell ⟨A,4,none⟩ c4):=
 ((((h.setCell (p:=⟨A,0,none⟩) hA _).setCell (p:=⟨A,1,none⟩) hA _).setCell (p:=⟨A,2,none⟩) hA _).setCell (p:=⟨A,3,none⟩) hA _).setCell (p:=⟨A,4,none⟩) hA _
theorem five_far {W:World} {A:Nat} {p:Addr} (c0 c1 c2 c3 c4:Value) (h:¬p.block=A):(((((W.setCell ⟨A,0,none⟩ c0).setCell ⟨A,1,none⟩ c1).setCell ⟨A,2,none⟩ c2).setCell ⟨A,3,none⟩ c3).setCell ⟨A,4,none⟩ c4).cell? p=W.cell? p:=
 World.cell?_of_block (by rw [Below.heap_setCell _ _ _ _ h,Below.heap_setCell _ _ _ _ h,Below.heap_setCell _ _ _ _ h,Below.heap_setCell _ _ _ _ h,Below.heap_setCell _ _ _ _ h])
theorem drew_cell (X:World) (p:Addr):X.drew.cell? p=X.cell? p:=rfl
theorem five_farD {W:World} {A:Nat} {p:Addr} (c0 c1 c2 c3 c4:Value) (h:¬p.block=A):(((((W.setCell ⟨A,0,none⟩ c0).setCell ⟨A,1,none⟩ c1).setCell ⟨A,2,none⟩ c2).setCell ⟨A,3,none⟩ c3).setCell ⟨A,4,none⟩ c4).drew.cell? p=W.cell? p:=(drew_cell _ _).trans (five_far c0 c1 c2 c3 c4 h)
theorem two_heap (w:World) (X Y:Obj):((w.alloc X).alloc Y).heap[w.heap.size]?=some X:=(heap_alloc_old _ _ (by simp)).trans (heap_alloc_last w X)
theorem two_bel (w:World) (X Y:Obj):Below w.heap.size w ((w.alloc X).alloc Y):=((Below.refl _ _).alloc (Nat.le_refl _) _).alloc (by simp) _
theorem hwide_any (w:World) (k:Int) :
 Calls Tryz.prog 95 #[.int .i64 k] w fun e w'=>e=.returned (.bool (decide (wide k)))∧w'=w:=by
 by_cases h1:k=1
 · subst h1
   go_enter Tryz.func95,Tryz.ntmps95;go_wp2;go_ret;exact ⟨rfl,rfl⟩
 by_cases h2:k=2
 · subst h2
   go_enter Tryz.func95,Tryz.ntmps95;go_wp2;go_ret;exact ⟨rfl,rfl⟩
 by_cases h4:k=4
 · subst h4
   go_enter Tryz.func95,Tryz.ntmps95;go_wp2;go_ret;exact ⟨rfl,rfl⟩
 by_cases h8:k=8
 · subst h8
   go_enter Tryz.func95,Tryz.ntmps95;go_wp2;go_ret;exact ⟨rfl,rfl⟩
 · have b1:(k==1)=false:=by simpa using h1
   have b2:(k==2)=false:=by simpa using h2
   have b4:(k==4)=false:=by simpa using h4
   have b8:(k==8)=false:=by simpa using h8
   have hd:decide (wide k)=false:=decide_eq_false (fun h=>by rcases h with h | h | h | h <;> omega);rw [hd];clear hd;go_enter Tryz.func95,Tryz.ntmps95;go_wp2;go_ret;exact ⟨rfl,rfl⟩
theorem pow_small {i:Nat} (h:i≤4):256^i≤4294967296:=by
 have:=Nat.pow_le_pow_right (n:=256) (by omega) h;omega
theorem hfull_any (w:World) (m:Nat) (hm:m≤4) :
 Calls Tryz.prog 128 #[.int .i64 (m:Int)] w fun e w'=>e=.returned (.int .i64 ((256^m:Nat):Int))∧w'=w:=by
 go_enter Tryz.func128,Tryz.ntmps128;go_wp2
 go_loopw [3,4] (fun n i wr=>∃k:Nat,k≤m∧i=.int .i64 k∧n=.int .i64 ((256^k:Nat):Int)∧wr=w) (fun _ i _=>m-(intOf i).toNat)
 case atStart=>exact ⟨0,by omega,rfl,rfl,rfl⟩
 case round=>
  obtain ⟨k,hk,rfl,rfl,rfl⟩:=hrel
  by_cases hlt:k<m
  · have hlt1:(k:Int)<(m:Int):=by omega
    have hp:=pow_small (i:=k) (by omega);have hs:((256^(k+1):Nat):Int)=((256^k:Nat):Int)*256:=by rw [Nat.pow_succ];exact Int.natCast_mul _ _
    obtain ⟨P,hP⟩:∃P,P=256^k:=⟨_,rfl⟩;rw [←hP] at hp hs ⊢;have hP1:(P:Int)≤4294967296:=by omega
    clear hP;go_wp2;go_roundw
    case rel=>exact ⟨k+1,by omega,by go_num,by (rw [hs];try rfl;try go_num),by first | rfl | trivial⟩
    case measure=>simp [intOf];omega
  · obtain rfl:k=m:=by omega
    go_wp2;go_ret;exact ⟨rfl,rfl⟩
theorem numB_take {l:List UInt8} {k:Nat} (hk:k<l.length):numB (l.take (k+1))=numB (l.take k)*256+(l[k]).toNat:=by
 rw [List.take_add_one,List.getElem?_eq_getElem hk];exact numB_snoc _ _
theorem numB_small {l:List UInt8} {k m:Nat} (hk:l.length≤k):numB l<256^k:=by
 have h1:=numB_lt l;have h2:=Nat.pow_le_pow_right (n:=256) (by omega) hk;omega
def valR (l:List UInt8) (sg:Bool):Int×Int:=match valW l sg with
 | none=>(0,3)
 | some n=>(n,0)
theorem half_pow {m:Nat} (h:m=1∨m=2∨m=4):∃H:Nat,256^m=2*H∧H≤2147483648:=by
 rcases h with rfl | rfl | rfl
 · exact ⟨128,by decide,by omega⟩
 · exact ⟨32768,by decide,by omega⟩
 · exact ⟨2147483648,by decide,by omega⟩
theorem hNumber_any (w:World) (b o c:Nat) (l:List UInt8) (m:Nat) (hl:l.length=m) (hm:m=1∨m=2∨m=4∨m=8) (sg:Bool) (h:BytesAt w (some ⟨b,o,none⟩) l) :
 Calls Tryz.prog 104 #[.slice (some ⟨b,o,none⟩) m c,.bool sg] w fun e w'=>e=.returned (.tuple #[.int .i64 (valR l sg).1,.int .i64 (valR l sg).2])∧w'=w:=by
 have HB:=hide h;have hm8:m≤8:=by omega
 clear h;go_enter Tryz.func104,Tryz.ntmps104;go_wp2
 go_loopw [6,7] (fun x i wr=>∃k:Nat,k≤m∧i=.int .i64 k∧x=.int .u64 (numB (l.take k):Int)∧wr=w) (fun _ i _=>m-(intOf i).toNat)
 case atStart=>exact ⟨0,by omega,rfl,rfl,rfl⟩
 case round=>
  obtain ⟨k,hk,rfl,rfl,rfl⟩:=hrel
  by_cases hlt:k<m
  · have hlt1:(k:Int)<(m:Int):=by omega
    have hkl:k<l.length:=by omega
    have c0:=bytes_get (unhide HB) hkl;have hs:=numB_take hkl;have hb:=(l[k]).toNat_lt;have h7:=numB_small (l:=l.take (k+1)) (k:=8) (m:=0) (by rw [List.length_take];omega);obtain ⟨Q,hQQ⟩:∃Q,Q=numB (l.take (k+1)):=⟨_,rfl⟩;rw [←hQQ] at hs h7;generalize numB (l.take k)=P at *;generalize (l[k]).toNat=x at *;have hQ:(Q:Int)=(P:Int)*256+(x:Int):=by omega
    have hQ2:(Q:Int)≤18446744073709551615:=by omega
    have hP2:(P:Int)*256≤18446744073709551615:=by omega
    have hx2:(x:Int)≤255:=by omega
    clear h7;go_wp2;go_roundw
    case rel=>exact ⟨k+1,by omega,by go_num,by (rw [←hQQ,hQ];try rfl;try go_num),by first | rfl | trivial⟩
    case measure=>simp [intOf];omega
  · obtain rfl:k=m:=by omega
    have ht:l.take k=l:=List.take_of_length_le (by omega);rw [ht];have h7:=numB_small (l:=l) (k:=8) (m:=0) (by omega);have hk4:=numB_lt l;have hv:valR l sg=valR l sg:=rfl;have hle:l.length=k:=by omega
    by_cases h8:k=8
    · have hk8:((k:Int)==8)=true:=by rw [h8];rfl
      obtain ⟨N,hN⟩:∃N:Int,N=if numB l<9223372036854775808 then (numB l:Int) else (numB l:Int)-18446744073709551616:=⟨_,rfl⟩
      have hwr:IntKind.i64.wrap (numB l:Int)=N:=by rw [IntKind.wrap_i64,hN];split <;> omega
      have hlo:N<0↔¬numB l<9223372036854775808:=by rw [hN];split <;> omega
      cases sg with
      | true=>
       have e1:valR l true=(N,0):=by
        unfold valR valW;rw [if_pos (by omega),if_pos rfl,←hN]
       have E1:=hide e1;clear e1 hlo hN hv h7 hk4 ht;generalize numB l=X at *;go_wp2;go_ret2;exact ⟨by rw [unhide E1];rfl,rfl⟩
      | false=>
       by_cases hbig:numB l<9223372036854775808
       · have e1:valR l false=(N,0):=by
          unfold valR valW;rw [if_pos (by omega),if_neg (by decide),if_pos hbig];rw [if_pos hbig] at hN;rw [hN]
         have hn:¬N<0:=fun h=>(hlo.1 h) hbig
         have E1:=hide e1;clear e1 hlo hN hv h7 hk4 ht;generalize numB l=X at *;go_wp2;go_ret2;exact ⟨by rw [unhide E1];rfl,rfl⟩
       · have e1:valR l false=(0,3):=by
          unfold valR valW;rw [if_pos (by omega),if_neg (by decide),if_neg hbig]
         have hn:N<0:=hlo.2 hbig;have E1:=hide e1;clear e1 hlo hN hv h7 hk4 ht;generalize numB l=X at *;go_wp2;go_ret2;exact ⟨by rw [unhide E1];rfl,rfl⟩
    · have hk8:((k:Int)==8)=false:=by simp;omega
      obtain ⟨H,hH,hH2⟩:=half_pow (m:=k) (by omega);rw [hle,hH] at hk4;have hwr:IntKind.i64.wrap (numB l:Int)=(numB l:Int):=by rw [IntKind.wrap_i64];omega
      have HF:=hide (hfull_any wr k (by omega));rw [hH] at HF;cases sg with
      | false=>
       have e1:valR l false=((numB l:Int),0):=by
        unfold valR valW;rw [if_neg (by omega),if_neg (by simp)]
       have E1:=hide e1;clear e1 hv h7 ht HF;generalize numB l=X at *;go_wp2;go_ret2;exact ⟨by rw [unhide E1];rfl,rfl⟩
      | true=>
       have q1:(((2*H:Nat):Int)).tdiv 2=(H:Int):=by
        have h2:((2*H:Nat):Int)=2*(H:Int):=by omega
        rw [h2,Int.mul_tdiv_cancel_left _ (by decide)]
       by_cases hbig:H≤numB l
       · have e1:valR l true=((numB l:Int)-((2*H:Nat):Int),0):=by
          unfold valR valW;rw [if_neg (by omega),if_pos ⟨rfl,by rw [hle,hH];omega⟩,hle,hH]
         have hb2:(H:Int)≤(numB l:Int):=by omega
         have E1:=hide e1;clear e1 hv h7 ht;generalize numB l=X at *;generalize hF2:2*H=F2 at *;go_wp2_with fail;refine (unhide HF).mono ?_;rintro e w1 ⟨rfl,rfl⟩;go_wp2_with fail;refine (unhide HF).mono ?_;rintro e w2 ⟨rfl,rfl⟩;go_wp2;go_ret2;exact ⟨by rw [unhide E1];rfl,rfl⟩
       · have e1:valR l true=((numB l:Int),0):=by
          unfold valR valW;rw [if_neg (by omega),if_neg (by rw [hle,hH];intro h;omega)]
         have hb2:¬(H:Int)≤(numB l:Int):=by omega
         have E1:=hide e1;clear e1 hv h7 ht;generalize numB l=X at *;generalize hF2:2*H=F2 at *;go_wp2_with fail;refine (unhide HF).mono ?_;rintro e w1 ⟨rfl,rfl⟩;go_wp2;go_ret2;exact ⟨by rw [unhide E1];rfl,rfl⟩
end Go.Proofs.YtlabllgifkklhaaGreatDoor
