/- Joined: BsZ LsA CkA ClK ClG. -/
import Derived.Test.YtlabllgifkklhaaGreatDoorJP1
import Derived.Test.YtlabllgifkklhaaGreatDoorJP7
import Derived.Test.YtlabllgifkklhaaGreatDoorJP2
import Derived.Test.YtlabllgifkklhaaGreatDoorJP5
import Derived.Maps.AppendAt
set_option linter.unusedVariables false
set_option maxRecDepth 100000
set_option maxHeartbeats 1600000
namespace Go.Proofs.YtlabllgifkklhaaGreatDoor
open Go.RowKit
def zv (m:Nat):List Value:=List.replicate m (.int .u8 0)
structure Rk {α:Type} (cs:α→List Value) (e t:TypeId) (sz by_:Nat) (z:Value):Prop where
 len:∀x,(cs x).length=sz
 one:∀x,∀u∈cs x,u.oneCell'=true
 pos:0<sz
 info:(Tryz.prog.info? e).map (fun i=>(i.zero,i.size,i.bytes))=some (some z,sz,by_)
 zero:z.cells.size=sz
 sl:Tryz.prog.underlying t=some (.slice e)
theorem flatR_len {α:Type} {cs:α→List Value} {sz:Nat} (h:∀x,(cs x).length=sz):∀l:List α,(l.flatMap cs).length=l.length*sz
 | []=>by simp
 | x::l=>by rw [List.flatMap_cons,List.length_append,h,flatR_len h l,List.length_cons,Nat.succ_mul];omega
theorem flatR_at {α:Type} {cs:α→List Value} {sz:Nat} (h:∀x,(cs x).length=sz):∀(l:List α) (k:Nat) (x:α),l[k]?=some x→∀(q:Nat) (u:Value),(cs x)[q]?=some u→(l.flatMap cs)[k*sz+q]?=some u
 | [],k,x,hx,_,_,_=>by simp at hx
 | y::l,0,x,hx,q,u,hu=>by
  simp at hx;subst hx;rw [List.flatMap_cons,Nat.zero_mul,Nat.zero_add,List.getElem?_append_left (List.getElem?_eq_some_iff.1 hu).1];exact hu
 | y::l,k+1,x,hx,q,u,hu=>by
  have ih:=flatR_at h l k x (by simpa using hx) q u hu;rw [List.flatMap_cons,List.getElem?_append_right (by rw [h,Nat.succ_mul];omega),h,Nat.succ_mul,show k*sz+sz+q-sz=k*sz+q by omega];exact ih
theorem flatR_of {α:Type} {cs:α→List Value} {sz:Nat} (h:∀x,(cs x).length=sz) (hp:0<sz):∀(l:List α) (j:Nat) (u:Value),(l.flatMap cs)[j]?=some u→∃k x q,l[k]?=some x∧(cs x)[q]?=some u∧j=k*sz+q
 | [],j,u,hu=>by simp at hu
 | y::l,j,u,hu=>by
  rw [List.flatMap_cons] at hu
  by_cases hj:j<sz
  · rw [List.getElem?_append_left (by rw [h];exact hj)] at hu
    exact ⟨0,y,j,rfl,hu,by omega⟩
  · rw [List.getElem?_append_right (by rw [h];omega),h] at hu
    obtain ⟨k,x,q,h1,h2,h3⟩:=flatR_of h hp l (j-sz) u hu;exact ⟨k+1,x,q,by simpa using h1,h2,by rw [Nat.succ_mul];omega⟩
def Orw {α:Type} (cs:α→List Value) (e:TypeId) (sz:Nat) (w:World) (base:Nat) (v:Value) (l:List α):Prop:=w.ownsRow base e sz v l.length (l.flatMap cs)
theorem Orw.form {α:Type} {cs:α→List Value} {e:TypeId} {sz:Nat} {w:World} {base:Nat} {v:Value} {l:List α} (h:Orw cs e sz w base v l):∃a c,v=.slice a l.length c∧(a=none→l.length=0∧c=0)∧l.length≤c∧c≤9223372036854775807:=by
 rcases h.2 with ⟨hv,hn⟩ | ⟨g,cap,cur,hv,_,_,h1,h2,_⟩
 · exact ⟨none,0,by rw [hn];exact hv,fun _=>⟨hn,rfl⟩,by omega,by omega⟩
 · exact ⟨_,cap,hv,(fun e=>by cases e),h1,by unfold maxLen at h2;exact h2⟩
theorem Orw.ls {α:Type} {cs:α→List Value} {e t:TypeId} {sz by_:Nat} {z:Value} (R:Rk cs e t sz by_ z) {w:World} {base:Nat} {a:Option Addr} {n c:Nat} {l:List α} (h:Orw cs e sz w base (.slice a n c) l):Ls sz cs w a n l:=by
 obtain ⟨a',c',e1,h1,_⟩:=h.form;injection e1 with ea en ec
 subst ea en ec;refine ⟨rfl,?_⟩
 rcases h.2 with ⟨hv,hn⟩ | ⟨g,cap,cur,hv,hb,hh,hc1,hc2,hsz,htk⟩
 · exact .inl hn
 · injection hv with ea en ec
   refine .inr ⟨g,0,ea,lt_of_heap hh,fun k x hx q u hu=>?_⟩;rw [cell_of_row _ _ _ _ _ _ hh,Nat.zero_add];have h2:=flatR_at R.len l k x hx q u hu;rw [←htk] at h2;have hlt:=(List.getElem?_eq_some_iff.1 h2).1;rw [List.getElem?_take] at h2;split at h2
   · simpa using h2
   · cases h2
theorem Orw.below {α:Type} {cs:α→List Value} {e:TypeId} {sz:Nat} {w w':World} {base:Nat} {v:Value} {l:List α} (h:Orw cs e sz w base v l) (f:∀k,v.ownBlock=some k→w'.heap[k]?=w.heap[k]?):Orw cs e sz w' base v l:=by
 refine ⟨h.1,?_⟩
 rcases h.2 with hv | ⟨g,cap,cur,hv,hb,hh,r⟩
 · exact .inl hv
 · exact .inr ⟨g,cap,cur,hv,hb,(f g (by rw [hv];rfl)).trans hh,r⟩
theorem Orw.lt {α:Type} {cs:α→List Value} {e:TypeId} {sz:Nat} {w:World} {base:Nat} {v:Value} {l:List α} (h:Orw cs e sz w base v l):∀k,v.ownBlock=some k→base≤k∧k<w.heap.size:=fun k hk=>by
 rcases h.2 with ⟨hv,_⟩ | ⟨g,cap,cur,hv,hb,hh,r⟩
 · rw [hv] at hk;cases hk
 · rw [hv] at hk
   injection hk with hk
   subst hk;exact ⟨hb,lt_of_heap hh⟩
theorem Orw.base {α:Type} {cs:α→List Value} {e:TypeId} {sz:Nat} {w:World} {base base':Nat} {v:Value} {l:List α} (h:Orw cs e sz w base v l) (hb:base'≤base):Orw cs e sz w base' v l:=
 ⟨h.1,h.2.elim .inl (fun ⟨g,cap,cur,hv,hg,r⟩=>.inr ⟨g,cap,cur,hv,Nat.le_trans hb hg,r⟩)⟩
theorem Orw.nil {α:Type} (cs:α→List Value) (e:TypeId) (sz:Nat) (w:World) (base:Nat):Orw cs e sz w base (.slice none 0 0) []:=⟨by simp,.inl ⟨rfl,rfl⟩⟩
theorem Orw.made {α:Type} (cs:α→List Value) (e:TypeId) (sz:Nat) (w:World) (base:Nat) (hb:base≤w.heap.size):Orw cs e sz (w.alloc (.cells #[] e)) base (.slice (some ⟨w.heap.size,0,none⟩) 0 0) ([]:List α):=World.ownsRow_made w #[] 0 hb (by simp) (by simp)
theorem grown_below {α:Type} {cs:α→List Value} {e:TypeId} {sz:Nat} {w W w':World} {v:Value} {l:List α} (f:Below w.heap.size w W) (h:Orw cs e sz W w.heap.size v l) (g:W.grownBy w' v.ownBlock):Below w.heap.size w w':=f.grown g f.size (fun k hk=>(h.lt k hk).1)
theorem wpR_append {α:Type} {cs:α→List Value} {e t:TypeId} {sz by_:Nat} {z:Value} (R:Rk cs e t sz by_ z) {w:World} {o:Oper} {a:Act} {K:Act→World→Prop} {Q:Exit→Act→World→Prop} (s x:Operand) (ho:o.op=.call { callee:=.builtin .append,args:=#[s,x],argTypes:=#[t,t] })
 (base:Nat) (v:Value) (xs:List α) (hs:a.eval s=v) (hown:Orw cs e sz w base v xs) (src:Option Addr) (m c:Nat) (ys:List α) (hx:a.eval x=.slice src m c) (hb:Ls sz cs w src m ys) (hnil:src=none→m=0∧c=0)
 (hsm:(xs.length+m)*by_≤140737488355328) (hmx:xs.length+m≤140737488355328) (hbase:base≤w.heap.size) (h:∀v' w',Orw cs e sz w' base v' (xs++ys)→w.grownBy w' v.ownBlock→K (a.put o.dst v') w'):o.wp Tryz.prog a w K Q:=by
 obtain ⟨i0,hi,hz0,hz1,hz2⟩:=info_parts R.info;cases src with
 | none=>
  obtain ⟨rfl,rfl⟩:=hnil rfl;have h0:ys=[]:=List.eq_nil_of_length_eq_zero hb.1;subst h0;have hrun:=run_append_owned_none (P:=Tryz.prog) (w:=w) base t o.type e i0 sz R.sl hi v xs.length (xs.flatMap cs) hown;unfold Oper.wp;simp [execOp,ho,resolve,invoke,builtin,hs,hx,hrun,Result.andThen];exact h v w (by rw [List.append_nil];exact hown) ⟨rfl,rfl,rfl,Nat.le_refl _,fun _ _ _=>rfl⟩
 | some ad=>
  have hsrc:∀j u,(ys.flatMap cs)[j]?=some u→w.cell? (ad.add j)=some u:=by
   rcases hb.2 with h0 | ⟨b,o,e1,_,hE⟩
   · have:ys=[]:=List.eq_nil_of_length_eq_zero (by rw [hb.1];exact h0)
     subst this;intro j u hu;simp at hu
   · intro j u hu
     injection e1 with e1
     subst e1;obtain ⟨k,y,q,h1,h2,rfl⟩:=flatR_of R.len R.pos ys j u hu;have:=hE k y h1 q u h2;rw [Addr.add_mid,←Nat.add_assoc];exact this
  refine wp_append_own w s x t ho base e i0 z sz by_ R.sl hi hz0 hz1 hz2 R.zero R.pos v xs.length (xs.flatMap cs) hs hown ad m c (ys.flatMap cs) hx (by rw [flatR_len R.len,hb.1]) hsrc (fun u hu=>by
   obtain ⟨y,_,hy⟩:=List.mem_flatMap.1 hu;exact R.one y u hy) (by unfold maxLen;omega) hsm hbase ?_
  intro v' w' h1 h2 _;refine h v' w' ?_ h2;unfold Orw;rw [List.length_append,hb.1,List.flatMap_append];exact h1
theorem listR_append {α:Type} {cs:α→List Value} {e t:TypeId} {sz by_:Nat} {z:Value} (R:Rk cs e t sz by_ z) {w:World} {ops:Array Oper} {rest:List Oper} {o:Oper} {a:Act} {Q:Exit→Act→World→Prop} (hgd:o.guard=none) (s x:Operand) (ho:o.op=.call { callee:=.builtin .append,args:=#[s,x],argTypes:=#[t,t] })
 (base:Nat) (v:Value) (xs:List α) (hs:a.eval s=v) (hown:Orw cs e sz w base v xs) (src:Option Addr) (m c:Nat) (ys:List α) (hx:a.eval x=.slice src m c) (hb:Ls sz cs w src m ys) (hnil:src=none→m=0∧c=0)
 (hsm:(xs.length+m)*by_≤140737488355328) (hmx:xs.length+m≤140737488355328) (hbase:base≤w.heap.size) (h:∀v' w',Orw cs e sz w' base v' (xs++ys)→w.grownBy w' v.ownBlock→wpList Tryz.prog ops Q rest (a.put o.dst v') w'):wpList Tryz.prog ops Q (o::rest) a w:=
 wpList_plain hgd fun K hK=>wpR_append R s x ho base v xs hs hown src m c ys hx hb hnil hsm hmx hbase (fun v' w' h1 h2=>hK _ _ (h v' w' h1 h2))
theorem ls_one {α:Type} {cs:α→List Value} {sz:Nat} (w:World) (X:Array Value) (T:TypeId) (x:α) (hX:X.toList=cs x):Ls sz cs (w.alloc (.cells X T)) (some ⟨w.heap.size,0,none⟩) 1 [x]:=by
 refine ⟨rfl,.inr ⟨_,_,rfl,by simp,fun k y hy q u hu=>?_⟩⟩;cases k with
 | zero=>
  simp at hy;subst hy;rw [cell_of_row _ _ _ _ _ _ (heap_alloc_last w (.cells X T)),Nat.zero_mul,Nat.add_zero,Nat.zero_add];rw [←hX] at hu
  simpa using hu
 | succ k=>simp at hy
theorem rkT:Rk tyc 143 50 2 24 (.agg #[.int .i64 0,.string ⟨#[]⟩]):=⟨fun _=>rfl,fun x u hu=>by simp [tyc] at hu;rcases hu with rfl | rfl <;> rfl,by decide,by kernel_rfl,rfl,Tryz.underlying50⟩
theorem rkH:Rk hdc 93 44 4 32 (.agg #[.int .i64 0,.int .i64 0,.int .i64 0,.int .i64 0]):=⟨fun _=>rfl,fun x u hu=>by simp [hdc] at hu;rcases hu with rfl | rfl | rfl | rfl <;> rfl,by decide,by kernel_rfl,rfl,Tryz.underlying44⟩
theorem rkF:Rk fdc 58 23 3 40 (.agg #[.int .i64 0,.string ⟨#[]⟩,.string ⟨#[]⟩]):=⟨fun _=>rfl,fun x u hu=>by simp [fdc] at hu;rcases hu with rfl | rfl | rfl <;> rfl,by decide,by kernel_rfl,rfl,Tryz.underlying23⟩
theorem rkP:Rk mpc 52 45 3 56 (.agg #[.int .i64 0,.slice none 0 0,.slice none 0 0]):=⟨fun _=>rfl,fun x u hu=>by simp [mpc,Sl.v] at hu;rcases hu with rfl | rfl | rfl <;> rfl,by decide,by kernel_rfl,rfl,Tryz.underlying45⟩
theorem rkM:Rk mdc 49 24 8 128 (.agg #[.int .i64 0,.string ⟨#[]⟩,.string ⟨#[]⟩,.int .i64 0,.int .i64 0,.slice none 0 0,.slice none 0 0,.slice none 0 0]):=⟨fun _=>rfl,fun x u hu=>by simp [mdc,Sl.v] at hu;rcases hu with rfl | rfl | rfl | rfl | rfl | rfl | rfl | rfl <;> rfl,by decide,by kernel_rfl,rfl,Tryz.underlying24⟩
def areB {α:Type} (p:α→Bool) (most:Nat) (l:List α):Bool:=decide (l.length≤most)&&l.all p
def upB (most:Int) (l:List Int):Bool:=l.all fun n=>decide (0≤n∧n≤most)
def longsB:List Ty→Bool
 | []=>true
 | [t]=>!decide (t.kind=2)
 | t::z::r=>(!decide (t.kind=2)||decide (z.kind=0))&&longsB (z::r)
def riseB:Int→List Mp→Bool
 | _,[]=>true
 | last,m::r=>decide (last<m.at_)&&riseB m.at_ r
def mapOk (l:List Ent) (m:Mp):Bool:=upB 65535 [m.at_]&&(areB (okT l) 64 m.loc&&(longsB m.loc&&areB (okT l) 64 m.stk))
def accB (n:Int):Bool:=decide (n=0∨n=8∨n=32∨n=40)
theorem goT_false (l:List Ent):∀ts,goT l false ts=ts.all (okT l)
 | []=>rfl
 | [t]=>by simp [goT]
 | t::z::r=>by
  have ih:=goT_false l (z::r);simp [goT,ih]
theorem longsB_top (z:Ty) (hz:z.kind=0):∀r,longsB (z::r)=longsB r
 | []=>by simp [longsB,hz]
 | y::r=>by simp [longsB,hz]
theorem okT_top (l:List Ent) (z:Ty):(okT l z&&decide (z.kind=0))=decide (z=⟨0,[]⟩):=by
 obtain ⟨k,nm⟩:=z;rw [Bool.eq_iff_iff];simp only [Bool.and_eq_true,decide_eq_true_eq,okT];constructor
 · rintro ⟨⟨_,h2⟩,rfl⟩
   simp at h2;rw [h2]
 · intro h
   injection h with h1 h2
   subst h1 h2;simp
theorem goT_true (l:List Ent):∀(n:Nat) (ts:List Ty),ts.length≤n→goT l true ts=(ts.all (okT l)&&longsB ts):=by
 intro n
 induction n with
 | zero=>intro ts h;obtain rfl:ts=[]:=List.length_eq_zero_iff.1 (by omega);rfl
 | succ n ih=>
  intro ts h
  match ts,h with
  | [],_=>rfl
  | [t],_=>simp [goT,longsB]
  | t::z::r,h=>
   have i1:=ih r (by simp at h;omega);have i2:=ih (z::r) (by simp at h ⊢;omega);unfold goT longsB
   by_cases hk:t.kind=2
   · rw [if_pos ⟨rfl,hk⟩,i1]
     have e:=okT_top l z;rw [←e];simp only [hk,decide_true,Bool.not_true,Bool.false_or,List.all_cons]
     by_cases hz:z.kind=0
     · rw [longsB_top z hz]
       simp only [hz,decide_true,Bool.and_true,Bool.true_and];cases okT l t <;> cases okT l z <;> cases r.all (okT l) <;> rfl
     · simp [hz]
   · rw [if_neg (fun h=>hk h.2),i2]
     simp only [hk,decide_false,Bool.not_false,Bool.true_or,Bool.true_and,List.all_cons];cases okT l t <;> cases okT l z <;> cases r.all (okT l) <;> rfl
theorem rightT_loc (l:List Ent) (ts:List Ty):rightT l true ts=(areB (okT l) 64 ts&&longsB ts):=by
 unfold rightT areB;rw [goT_true l _ ts (Nat.le_refl _),Bool.and_assoc]
theorem rightT_stk (l:List Ent) (ts:List Ty):rightT l false ts=areB (okT l) 64 ts:=by
 unfold rightT areB;rw [goT_false]
theorem rightM_all (l:List Ent):∀(ms:List Mp) (last:Int),-1≤last→rightM l last ms=(ms.all (mapOk l)&&riseB last ms)
 | [],_,_=>rfl
 | m::r,last,h=>by
  unfold rightM riseB;rw [List.all_cons,rightT_loc,rightT_stk]
  by_cases h1:last<m.at_
  · rw [rightM_all l r m.at_ (by omega)]
    generalize r.all (mapOk l)=A;unfold mapOk upB;simp only [List.all_cons,List.all_nil,Bool.and_true];have e:decide (last<m.at_∧m.at_≤65535)=decide (0≤m.at_∧m.at_≤65535):=by
     congr 1
     exact propext ⟨fun h=>by omega,fun h=>by omega⟩
    rw [e];simp only [h1,decide_true,Bool.true_and];cases decide (0≤m.at_∧m.at_≤65535) <;> cases areB (okT l) 64 m.loc <;> cases longsB m.loc <;> cases areB (okT l) 64 m.stk <;> cases A <;> cases riseB m.at_ r <;> rfl
  · simp [h1]
theorem rightH_is (l:List Ent) (h:Hd):rightH l h=(upB 65535 [h.frm,h.to_,h.at_]&&(decide (h.cls=0)||decide (tagE l h.cls=7))):=by
 unfold rightH upB in16;have e:decide (h.cls=0∨0<h.cls∧h.cls<l.length∧tagE l h.cls=7)=(decide (h.cls=0)||decide (tagE l h.cls=7)):=by
  rw [Bool.eq_iff_iff];simp only [Bool.or_eq_true,decide_eq_true_eq];constructor
  · rintro (h | ⟨_,_,h⟩)
    · exact .inl h
    · exact .inr h
  · rintro (h1 | h1)
    · exact .inl h1
    · by_cases h0:h.cls=0
      · exact .inl h0
      · refine .inr ?_
        unfold tagE atE at h1
        by_cases hp:0≤h.cls
        · rw [if_pos hp] at h1
          have:h.cls.toNat<l.length:=by
           cases hl:l[h.cls.toNat]? with
           | none=>rw [hl] at h1;simp [ent0] at h1
           | some x=>exact (List.getElem?_eq_some_iff.1 hl).1
          refine ⟨by omega,by omega,?_⟩;unfold tagE atE;rw [if_pos hp];exact h1
        · rw [if_neg hp] at h1
          simp [ent0] at h1
 rw [e];simp only [List.all_cons,List.all_nil,Bool.and_true];cases (decide (h.cls=0)||decide (tagE l h.cls=7)) <;> cases decide (0≤h.frm∧h.frm≤65535) <;> cases decide (0≤h.to_∧h.to_≤65535) <;> cases decide (0≤h.at_∧h.at_≤65535) <;> rfl
def codeOk (l:List Ent) (c:Cd):Bool:=
 upB 64 [c.stack,c.locals]&&(decide (0<c.bytes.length)&&(decide (c.bytes.length≤4096)&&(areB (rightH l) 256 c.hs&&((decide (c.maps.length=0)||decide (utfN l sMaps≠0))&&(areB (mapOk l) 256 c.maps&&riseB (-1) c.maps)))))
theorem rightD_is (l:List Ent) (c:Cd):rightD l c=codeOk l c:=by
 unfold rightD codeOk;rw [rightM_all l _ _ (by omega)];unfold areB upB;rw [Bool.eq_iff_iff];simp only [Bool.and_eq_true,Bool.or_eq_true,decide_eq_true_eq,List.all_cons,List.all_nil,and_true,List.length_eq_zero_iff];constructor
 · rintro ⟨⟨⟨⟨a1,a2,a3,a4,a5,a6,a7,a8⟩,h2⟩,h3⟩,h4,h5⟩
   exact ⟨⟨⟨a1,a2⟩,a3,a4⟩,by omega,a6,⟨a7,h2⟩,h3,⟨a8,h4⟩,h5⟩
 · rintro ⟨⟨⟨a1,a2⟩,a3,a4⟩,a5,a6,⟨a7,h2⟩,h3,⟨a8,h4⟩,h5⟩
   exact ⟨⟨⟨⟨a1,a2,a3,a4,by omega,a6,a7,a8⟩,h2⟩,h3⟩,h4,h5⟩
def textsB (l:List Ent) (ss:List (List UInt8)):Bool:=ss.all fun s=>decide (utfN l s≠0)
theorem rightF_is (l:List Ent) (f:Fd):rightF l f=(decide (f.acc=0∨f.acc=8)&&textsB l [f.name,f.type]):=by
 unfold rightF textsB;rw [Bool.eq_iff_iff];simp
theorem rightMd_is (l:List Ent) (m:Md):rightMd l m=(accB m.acc&&(textsB l [m.name,m.type,sCode]&&codeOk l m.code)):=by
 unfold rightMd textsB accB;rw [rightD_is,Bool.eq_iff_iff];simp [and_assoc]
theorem rightK_is (c:Cl):rightK c=(checkP c.pool&&(decide (clsN c.pool c.name≠0)&&((decide (c.super=[])||decide (clsN c.pool c.super≠0))&&(areB (rightF c.pool) 256 c.fields&&areB (rightMd c.pool) 256 c.methods)))):=by
 unfold rightK areB;rw [Bool.eq_iff_iff];simp only [Bool.and_eq_true,Bool.or_eq_true,decide_eq_true_eq];constructor
 · rintro ⟨⟨⟨⟨h1,h2,h3⟩,h4,h5⟩,h6⟩,h7⟩
   exact ⟨h1,h4,h5,⟨h2,h6⟩,h3,h7⟩
 · rintro ⟨h1,h4,h5,⟨h2,h6⟩,h3,h7⟩
   exact ⟨⟨⟨⟨h1,h2,h3⟩,h4,h5⟩,h6⟩,h7⟩
theorem longsB_at:∀(l:List Ty),longsB l=true↔∀(i:Nat) (t:Ty),l[i]?=some t→t.kind=2→∃z,l[i+1]?=some z∧z.kind=0
 | []=>by simp [longsB]
 | [t]=>by
  simp only [longsB,Bool.not_eq_true',decide_eq_false_iff_not];constructor
  · intro h i x hx h2
    cases i with
    | zero=>simp at hx;subst hx;exact absurd h2 h
    | succ i=>simp at hx
  · intro h h2
    obtain ⟨z,hz,_⟩:=h 0 t rfl h2;simp at hz
 | t::y::r=>by
  have ih:=longsB_at (y::r);unfold longsB;rw [Bool.and_eq_true,ih];constructor
  · rintro ⟨h1,h2⟩ i x hx hk
    cases i with
    | zero=>
     simp at hx;subst hx;simp [hk] at h1;exact ⟨y,rfl,h1⟩
    | succ i=>exact h2 i x (by simpa using hx) hk
  · intro h
    refine ⟨?_,fun i x hx hk=>h (i+1) x (by simpa using hx) hk⟩
    by_cases hk:t.kind=2
    · obtain ⟨z,hz,hz0⟩:=h 0 t rfl hk
      simp at hz;subst hz;simp [hz0]
    · simp [hk]
theorem riseB_take:∀(ms:List Mp) (last:Int) (k:Nat) (m:Mp),ms[k]?=some m→riseB last (ms.take k)=true→(riseB last (ms.take (k+1))=decide ((((ms.take k).map Mp.at_).getLast?.getD last)<m.at_))
 | [],_,_,_,h,_=>by simp at h
 | x::r,last,0,m,h,_=>by
  simp at h;subst h;simp [riseB]
 | x::r,last,k+1,m,h,h2=>by
  simp only [List.take_succ_cons,riseB,Bool.and_eq_true] at h2 ⊢;rw [riseB_take r x.at_ k m (by simpa using h) h2.2];have h21:decide (last<x.at_)=true:=h2.1;rw [h21,Bool.true_and];simp only [List.map_cons,List.getLast?_cons,Option.getD_some]
theorem riseB_false:∀(ms:List Mp) (last:Int) (k:Nat),riseB last (ms.take k)=false→riseB last ms=false
 | [],_,k,h=>by simp [riseB] at h
 | x::r,last,0,h=>by simp [riseB] at h
 | x::r,last,k+1,h=>by
  simp only [List.take_succ_cons,riseB,Bool.and_eq_false_iff] at h ⊢
  rcases h with h | h
  · exact .inl h
  · exact .inr (riseB_false r _ k h)
def errK (c:Cl):Int:=if rightK c=false then 80 else if 32768<(bytesK c).length then 3 else 0
def printK (c:Cl):List UInt8:=if errK c=0 then bytesK c else []
def cl0:Cl:=⟨[],[],[],[],[]⟩
def parseK (bs:List UInt8):Cl×Int:=if 32768<bs.length then (cl0,3) else match readK bs with
 | none=>(cl0,80)
 | some c=>if rightK c=true∧bytesK c=bs then (c,0) else (cl0,80)
def plEx:List Ent:=[ent0,eUtf [97],⟨7,[],0,1,0⟩]
def clEx:Cl:=⟨plEx,[97],[],[],[]⟩
def bytesEx:List UInt8:=[202,254,186,190,0,0,0,52,0,3,1,0,1,97,7,0,1,0,33,0,2,0,0,0,0,0,0,0,0,0,0]
theorem errEx:errK clEx=0:=by decide +kernel
theorem printEx:printK clEx=bytesEx:=by decide +kernel
def exR (z:Nat):ClR:=⟨clEx,⟨some ⟨z,0,none⟩,3,3⟩,⟨none,0,0⟩,⟨none,0,0⟩,[]⟩
theorem lin_none {α:Type} {sz by_:Nat} {cs:α→List Value} {ok:α→Prop} {w:World}:LIn sz by_ cs ok w ⟨none,0,0⟩ []:=
 ⟨⟨rfl,.inl rfl⟩,Nat.le_refl _,by decide,fun _=>⟨rfl,rfl⟩,by simp,fun x hx=>by cases hx⟩
theorem small8_any (w:World):Calls Tryz.prog 36 #[] w fun e w'=>(∃r:ClR,e=.returned r.v∧r.c=clEx∧CIn w' r)∧Below w.heap.size w w':=by
 have hp:∀X,EIn ((w.alloc X).alloc (.cells (ev plEx).toArray 55)) (some ⟨w.heap.size+1,0,none⟩) 3 3 plEx:=fun X=>
  ⟨⟨⟨rfl,.inr ⟨_,_,rfl,es_of_block (by have:=heap_alloc_last (w.alloc X) (.cells (ev plEx).toArray 55);simpa using this)⟩⟩,by omega,by omega,fun e=>by cases e⟩,by omega,⟨fun y hy=>by
   simp [plEx] at hy
   rcases hy with rfl | rfl | rfl <;> decide,fun y hy=>by
   simp [plEx] at hy
   rcases hy with rfl | rfl | rfl <;> (refine ⟨?_,?_,?_,?_⟩ <;> decide)⟩⟩
 have HP:=hide hp;clear hp;go_enter Tryz.func36,Tryz.ntmps36;go_wp2;refine bodyPost_ret (v:=(exR (w.heap.size+1)).v) ?_ rfl ⟨⟨exR (w.heap.size+1),rfl,rfl,⟨unhide HP _,show clEx.name.length≤140737488355328 by decide,show clEx.super.length≤140737488355328 by decide,lin_none,lin_none,rfl⟩⟩,((Below.refl _ _).alloc (Nat.le_refl _) _).alloc (by simp) _⟩;exact results_cell_row Tryz.results36 _ _ w.heap.size 26 _ (0,0) _ rfl ((Below.heap_alloc _ _ _ (by simp)).trans (heap_alloc_last w _)) Tryz.underlying26 rfl (by kernel_rfl)
theorem gutf_any (w:World) (a:Option Addr) (n c:Nat) (l:List Ent) (h:Es w a n l) (s:List UInt8) (hn:n≤140737488351232) :
 Calls Tryz.prog 69 #[.slice a n c,.string ⟨s.toArray⟩] w fun e w'=>e=.returned (.int .i64 (utfN l s:Int))∧Below w.heap.size w w':=by
 have hln:=h.1;have HE:=hide h;obtain ⟨x,hx⟩:∃x,x=eUtf s:=⟨_,rfl⟩;have HX:=hide hx;have hu:utfN l s=findE l x:=by rw [hx];rfl
 rw [hu];clear h hx hu;go_enter Tryz.func69,Tryz.ntmps69;go_wp2
 go_loopw [5] (fun i wr=>∃k:Nat,1≤k∧(k≤n∨k=1)∧i=.int .i64 k∧(∀j,1≤j→j<k→l[j]?≠some x)∧Below w.heap.size w wr) (fun i _=>n-(intOf i).toNat)
 case atStart=>exact ⟨1,by omega,.inr rfl,rfl,fun j h1 h2=>by omega,Below.refl _ _⟩
 case round=>
  obtain ⟨k,hk1,hk,rfl,hno,hB⟩:=hrel;have HNO:=hide hno;have HBl:=hide hB
  by_cases hlt:k<n
  · have hlt1:(k:Int)<(n:Int):=by omega
    obtain ⟨b,o,rfl,hE⟩:=((unhide HE).below hB).2.resolve_left (by omega);obtain ⟨y,hy⟩:∃y,l[k]?=some y:=⟨_,List.getElem?_eq_getElem (by omega)⟩;obtain ⟨c0,c1,c2,c3,c4⟩:=ents_get hE hy
    by_cases hyx:y=x
    · have hys:y=eUtf s:=hyx.trans (unhide HX)
      have e7:(.string ⟨y.text.toArray⟩:Value)=.string ⟨s.toArray⟩:=by rw [hys];rfl
      have q0:y.tag=1:=by rw [hys];rfl
      have q2:y.n=0:=by rw [hys];rfl
      have q3:y.a=0:=by rw [hys];rfl
      have q4:y.b=0:=by rw [hys];rfl
      rw [q0] at c0;rw [e7] at c1;rw [q2] at c2;rw [q3] at c3;rw [q4] at c4;clear hys e7 q0 q2 q3 q4;subst hyx;have e1:Hid (findE l y=k):=by
       show findE l y=k;exact first_eq (p:=fun i=>decide (l[i]?=some y)) hk1 (by omega) (by simpa using hy) (fun j h1 h2=>by simpa using hno j h1 h2)
      clear hno hB hE hy;go_wp2;go_ret;exact ⟨by rw [unhide e1];rfl,unhide HBl⟩
    · have HCf:∀W,(binOp .eql 55 (.agg #[.int .i64 y.tag,.string ⟨y.text.toArray⟩,.int .i64 y.n,.int .i64 y.a,.int .i64 y.b]) (.agg #[.int .i64 1,.string ⟨s.toArray⟩,.int .i64 0,.int .i64 0,.int .i64 0])).run Tryz.prog W=.ok (.bool false) W:=fun W=>by
       have:=ent_cmp W y (eUtf s);rw [decide_eq_false (by rw [←unhide HX];exact hyx)] at this;exact this
      clear hno hB hE;have HN2:Hid (∀j,1≤j→j<k+1→l[j]?≠some x):=fun j h1 h2=>by
       by_cases hjk:j=k
       · subst hjk
         rw [hy];exact fun e=>hyx (by injection e)
       · exact unhide HNO j h1 (by omega)
      clear hy hyx;go_wp2;go_roundw
      case rel=>exact ⟨k+1,by omega,by omega,by go_num,unhide HN2,unhide HBl⟩
      case measure=>simp [intOf];omega
  · have e1:Hid (findE l x=0):=by
     show findE l x=0
     by_cases h0:findE l x=0
     · exact h0
     · obtain ⟨h1,h2,h3⟩:=findE_some h0
       exact absurd h3 (hno _ h1 (by omega))
    clear hno hB;go_wp2;go_ret;exact ⟨by rw [unhide e1];rfl,unhide HBl⟩
theorem class_leads {l:List Ent} (hc:checkP l=true) {k:Nat} {y:Ent} (hy:l[k]?=some y) (h7:y.tag=7):∃ka:Nat,y.a=ka∧∃z,l[ka]?=some z:=by
 have hk:=(List.getElem?_eq_some_iff.1 hy).1;have h:=((checkP_all l).1 hc).2 k hk;have ha:atE l (k:Int)=y:=by rw [atE_nat,hy];rfl
 have ho:okE l y=true:=by
  unfold rightAt at h;rw [ha] at h;split at h
  · have h0:=of_decide_eq_true h
    rw [h0] at h7;exact absurd h7 (by decide)
  · rw [Bool.and_eq_true] at h
    exact h.1
 unfold okE at ho;simp only [h7] at ho;simp at ho;have hin:=tagE_in (l:=l) (i:=y.a) (by rw [ho.1];decide);exact ⟨y.a.toNat,by omega,_,List.getElem?_eq_getElem (by omega)⟩
theorem gclass_any (w:World) (a:Option Addr) (n c:Nat) (l:List Ent) (h:Es w a n l) (hc:checkP l=true) (s:List UInt8) (hn:n≤140737488351232) :
 Calls Tryz.prog 68 #[.slice a n c,.string ⟨s.toArray⟩] w fun e w'=>e=.returned (.int .i64 (clsN l s:Int))∧Below w.heap.size w w':=by
 have hln:=h.1;have HE:=hide h;have HCK:=hide hc;obtain ⟨zs,hzs⟩:∃zs:ByteArray,zs=⟨s.toArray⟩:=⟨_,rfl⟩;rw [←hzs];have HZ:=hide hzs;clear h hc hzs;go_enter Tryz.func68,Tryz.ntmps68;go_wp2
 go_loopw [5] (fun i wr=>∃k:Nat,1≤k∧(k≤n∨k=1)∧i=.int .i64 k∧(∀j,1≤j→j<k→¬((atE l (j:Int)).tag=7∧(atE l (atE l (j:Int)).a).text=s))∧Below w.heap.size w wr) (fun i _=>n-(intOf i).toNat)
 case atStart=>exact ⟨1,by omega,.inr rfl,rfl,fun j h1 h2=>by omega,Below.refl _ _⟩
 case round=>
  obtain ⟨k,hk1,hk,rfl,hno,hB⟩:=hrel;have HNO:=hide hno;have HBl:=hide hB
  by_cases hlt:k<n
  · have hlt1:(k:Int)<(n:Int):=by omega
    obtain ⟨b,o,rfl,hE⟩:=((unhide HE).below hB).2.resolve_left (by omega);obtain ⟨y,hy⟩:∃y,l[k]?=some y:=⟨_,List.getElem?_eq_getElem (by omega)⟩;have ha:atE l (k:Int)=y:=by rw [atE_nat,hy];rfl
    obtain ⟨c0,c1,c2,c3,c4⟩:=ents_get hE hy;have next:¬(y.tag=7∧(atE l y.a).text=s)→Hid (∀j,1≤j→j<k+1→¬((atE l (j:Int)).tag=7∧(atE l (atE l (j:Int)).a).text=s)):=fun hq j h1 h2=>by
     by_cases hjk:j=k
     · subst hjk
       rw [ha];exact hq
     · exact unhide HNO j h1 (by omega)
    have NX:=hide next;clear next
    by_cases h7:y.tag=7
    · obtain ⟨ka,hka,z,hz⟩:=class_leads (unhide HCK) hy h7
      have hkl:=(List.getElem?_eq_some_iff.1 hz).1;have haz:atE l y.a=z:=by rw [hka,atE_nat,hz];rfl
      obtain ⟨d0,d1,d2,d3,d4⟩:=ents_get hE hz;rw [h7] at c0;rw [hka] at c3;have hka1:(ka:Int)<(n:Int):=by omega
      obtain ⟨zt,hzt⟩:∃zt:ByteArray,zt=⟨z.text.toArray⟩:=⟨_,rfl⟩;rw [←hzt] at d1;have i1:zt.toList=zs.toList↔z.text=s:=by rw [hzt,unhide HZ];exact str_eq _ _
      have i2:zt=zs↔z.text=s:=by rw [hzt,unhide HZ];simp
      have I1:=hide i1;have I2:=hide i2
      by_cases hts:z.text=s
      · have e1:Hid (clsN l s=k):=first_eq (p:=fun (i:Nat)=>decide ((atE l (i:Int)).tag=7∧(atE l (atE l (i:Int)).a).text=s)) hk1 (by omega) (by rw [ha,haz];simp [h7,hts]) (fun j h1 h2=>by simpa using hno j h1 h2)
        have e2:zt=zs:=i2.2 hts;clear hno hB hE hy ha NX I1 I2 i1 i2 hzt haz hz hka h7 d0 d2 d3 d4 c1 c2 c4 hts;subst e2;go_wp2;go_ret;exact ⟨by rw [unhide e1];rfl,unhide HBl⟩
      · have HN2:=unhide NX (fun h=>hts (by rw [←haz];exact h.2))
        have hb:¬zt.toList=zs.toList:=fun h=>hts (i1.1 h)
        have hb2:(zt.toList==zs.toList)=false:=by simpa using hb
        clear hno hB hE hy ha NX I1 I2 i1 i2 hzt haz hz hka h7 d0 d2 d3 d4 c1 c2 c4 hts HNO;go_wp2;go_roundw
        case rel=>exact ⟨k+1,by omega,by omega,by go_num,unhide HN2,unhide HBl⟩
        case measure=>simp [intOf];omega
    · have HN2:=unhide NX (fun h=>h7 h.1)
      have hb:(y.tag==7)=false:=by simpa using h7
      clear hno hB hE hy ha NX c1 c2 c3 c4 HNO;go_wp2;go_roundw
      case rel=>exact ⟨k+1,by omega,by omega,by go_num,unhide HN2,unhide HBl⟩
      case measure=>simp [intOf];omega
  · have e1:Hid (clsN l s=0):=by
     show clsN l s=0
     by_cases h0:clsN l s=0
     · exact h0
     · obtain ⟨h1,h2,h3⟩:=clsN_some h0
       exact absurd h3 (hno _ h1 (by omega))
    clear hno hB;go_wp2;go_ret;exact ⟨by rw [unhide e1];rfl,unhide HBl⟩
end Go.Proofs.YtlabllgifkklhaaGreatDoor
