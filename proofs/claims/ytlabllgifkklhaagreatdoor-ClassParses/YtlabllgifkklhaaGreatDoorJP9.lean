/- Joined: SqA TxA PkB PkC PkD. -/
import Derived.Test.YtlabllgifkklhaaGreatDoorJP0
import Derived.Test.YtlabllgifkklhaaGreatDoorJP5
import Derived.Test.YtlabllgifkklhaaGreatDoorJP3
import Derived.Test.YtlabllgifkklhaaGreatDoorJP2
import Derived.Deep.RegionHeld
set_option linter.unusedVariables false
set_option maxRecDepth 100000
set_option maxHeartbeats 6400000
namespace Go.Proofs.YtlabllgifkklhaaGreatDoor
open Go.RowKit
section
variable {P:Program} {ops:Array Oper} {Q:Exit→Act→World→Prop} {S:World→Prop}
def DoesIf (P:Program) (ops:Array Oper) (S:World→Prop) (o:Oper) (v:Value) (a:Act):Prop:=
 (Region.wanted o (yielded ops a.tmps)=true∧∀w,S w→∀K:Act→World→Prop,Shut (∀w',S w'→K (a.put o.dst v) w')→Oper.wp P o a w K (fun _ _ _=>False)) ∨
 (Region.wanted o (yielded ops a.tmps)=false∧v=undef)
def SeqDo (P:Program) (ops:Array Oper) (Q:Exit→Act→World→Prop) (S:World→Prop):List Oper→Act→Prop
 | [],a=>∀w,S w→Q .normal a w
 | o::rest,a=>∃v,DoesIf P ops S o v a∧SeqDo P ops Q S rest (a.put o.dst v)
theorem put_size (a:Act) (d:Option Tmp) (v:Value):(a.put d v).tmps.size=a.tmps.size:=by cases d <;> simp [Act.put]
theorem put_same {a a':Act} {d:Option Tmp} {u v:Value} (hs:a'.tmps.size=a.tmps.size) (h:a.put d u=a.put d v):a'.put d u=a'.put d v:=by
 cases d with
 | none=>rfl
 | some d=>
  by_cases hd:d<a.tmps.size
  · have e:(a.put (some d) u).tmps[d]?=(a.put (some d) v).tmps[d]?:=by rw [h]
    simp [Act.put,hd] at e;rw [e]
  · have hd':¬d<a'.tmps.size:=fun h=>hd (hs▸h)
    simp [Act.put,Array.setIfInBounds,hd']
theorem DoesIf.op {i:Nat} {o:Oper} {v:Value} {a a':Act} (hi:ops[i]?=some o) (hd:DoesIf P ops S o v a) (he:execOp a'.eval o=execOp a.eval o)
 (hw:Region.wanted o (yielded ops a'.tmps)=Region.wanted o (yielded ops a.tmps)) (hsz:a'.tmps.size=a.tmps.size) {K:Act→World→Prop} {w:World} (hS:S w)
 (h:∀w',S w'→K (a'.put o.dst v) w'):wpOp P ops Q i K a' w:=by
 unfold wpOp;simp only [hi];rw [hw]
 rcases hd with ⟨h1,h2⟩ | ⟨h1,rfl⟩
 · rw [if_pos h1]
   refine .inl ?_;have h3:=h2 w hS (fun a2 w2=>a2=a.put o.dst v∧S w2) (fun w' hw'=>⟨rfl,hw'⟩);clear h2;unfold Oper.wp at h3 ⊢;rw [he];generalize (execOp a.eval o).run P w=r at *;cases r with
   | ok n w'=>
    cases n <;> simp only [Oper.upon] at h3 ⊢
    case value u=>rw [put_same hsz h3.1];exact h _ h3.2
    case skip=>rw [put_same hsz h3.1];exact h _ h3.2
    case defer d=>
     exfalso;have e:=congrArg Act.defers h3.1;have e1:∀(b:Act) (x:Option Tmp) (u:Value),(b.put x u).defers=b.defers:=fun b x u=>by cases x <;> rfl
     rw [e1,e1] at e;have:=congrArg List.length e;simp at this
    case enter f args=>
     refine Calls.mono h3 fun e w'' he=>?_
     cases e with
     | returned u=>
      have h5:K (a'.put o.dst u) w'':=by rw [put_same hsz he.1];exact h _ he.2
      exact h5
     | panicked c=>exact he.elim
     | outgrown=>
      obtain ⟨_,_,hf⟩:=he;exact hf.elim
    case row row args=>exact Rows.mono h3 fun u w'' he=>by rw [put_same hsz he.1];exact h _ he.2
   | halt x w'=>cases x <;> simp only [Oper.upon] at h3
 · rw [if_neg (by rw [h1];simp)]
   exact h _ hS
theorem same_looks {o:Oper} {a a':Act} (hs:∀cs b,o.op≠.select cs b) (h:∀t,t∈o.looksAt ops→a'.tmps[t]?=a.tmps[t]?) :
 execOp a'.eval o=execOp a.eval o∧Region.wanted o (yielded ops a'.tmps)=Region.wanted o (yielded ops a.tmps):=by
 constructor
 · refine execOp_congr o hs fun x hx=>?_
   cases x with
   | tmp t=>
    have:=h t (List.mem_append_left _ (List.mem_filterMap.2 ⟨.tmp t,by simpa using hx,rfl⟩));simp [Act.eval,this]
   | _=>rfl
 · unfold Region.wanted
   cases hg:o.guard with
   | none=>rfl
   | some gw=>
    obtain ⟨g,want⟩:=gw;have hy:yielded ops a'.tmps g=yielded ops a.tmps g:=by
     unfold yielded;cases ht:(ops[g]?).bind (·.dst) with
     | none=>rfl
     | some t=>
      have:=h t (by simp [Oper.looksAt,hg,ht]);simp [this]
    simp only [hy]
def dstAt (ops:Array Oper) (j:Nat):Option Tmp:=(ops[j]?).bind (·.dst)
def putI (ops:Array Oper) (vs:List Value) (js:List Nat) (a:Act):Act:=js.foldl (fun a j=>a.put (dstAt ops j) (vs.getD j undef)) a
theorem putI_size (vs:List Value):∀(js:List Nat) (a:Act),(putI ops vs js a).tmps.size=a.tmps.size
 | [],a=>rfl
 | j::js,a=>by
  show (putI ops vs js _).tmps.size=_;rw [putI_size vs js,put_size]
theorem putI_at (vs:List Value) (t:Nat):∀(js:List Nat) (a:Act),(∀j∈js,dstAt ops j≠some t)→(putI ops vs js a).tmps[t]?=a.tmps[t]?
 | [],a,_=>rfl
 | j::js,a,h=>by
  show (putI ops vs js (a.put (dstAt ops j) (vs.getD j undef))).tmps[t]?=_;rw [putI_at vs t js _ (fun k hk=>h k (List.mem_cons_of_mem _ hk))];have hj:=h j (List.mem_cons_self ..)
  revert hj
  generalize dstAt ops j=d;intro hj;cases d with
  | none=>rfl
  | some d=>
   show (a.tmps.setIfInBounds d _)[t]?=_;rw [Array.getElem?_setIfInBounds_ne (fun e=>hj (by rw [e]))]
theorem putI_pull (vs:List Value) (i:Nat):∀(js:List Nat) (a:Act),js.Nodup→i∈js→(∀j∈js,j≠i→∀d,dstAt ops i=some d→dstAt ops j≠some d) →
 putI ops vs js a=putI ops vs (js.filter (fun j=>decide (j≠i))) (a.put (dstAt ops i) (vs.getD i undef))
 | [],a,_,h,_=>by simp at h
 | j::js,a,hn,hm,hd=>by
  obtain ⟨hn1,hn2⟩:=List.nodup_cons.1 hn;show putI ops vs js (a.put (dstAt ops j) (vs.getD j undef))=_
  by_cases e:j=i
  · subst e
    have hf:(j::js).filter (fun k=>decide (k≠j))=js:=by
     rw [List.filter_cons_of_neg (by simp)];exact List.filter_eq_self.2 (fun k hk=>by simp;intro e;subst e;exact hn1 hk)
    rw [hf]
  · have hm':i∈js:=(List.mem_cons.1 hm).resolve_left (fun e'=>e e'.symm)
    rw [List.filter_cons_of_pos (by simpa using e),putI_pull vs i js _ hn2 hm' (fun k hk=>hd k (List.mem_cons_of_mem _ hk))];show _=putI ops vs (js.filter _) ((a.put (dstAt ops i) _).put (dstAt ops j) _);rw [Act.put_comm a _ _ (fun d hd' e'=>hd j (List.mem_cons_self ..) e d e' hd')]
def seqOk (ops:Array Oper):Bool:=(List.range ops.size).all fun i=>match ops[i]? with
 | none=>true
 | some o=>(match o.op with | .select ..=>false | _=>true)&&o.after.all (fun e=>!Region.binds .any e||decide (e.on<i)) &&
  (List.range ops.size).all fun j=>match dstAt ops j with
   | none=>true
   | some d=>(!(o.looksAt ops).contains d||(decide (j<i)&&o.after.any (fun e=>Region.binds .any e&&e.on==j)))&&(j==i||o.dst != some d)
theorem seqOk_spec (h:seqOk ops=true) {i:Nat} {o:Oper} (ho:ops[i]?=some o) :
 (∀cs b,o.op≠.select cs b)∧(∀e∈o.after,Region.binds .any e=true→e.on<i) ∧
 ∀j d,dstAt ops j=some d→(d∈o.looksAt ops→j<i∧∃e∈o.after,Region.binds .any e=true∧e.on=j)∧(j≠i→o.dst≠some d):=by
 have hi:i<ops.size:=(Array.getElem?_eq_some_iff.1 ho).1;have h1:=List.all_eq_true.1 h i (List.mem_range.2 hi);simp only [ho,Bool.and_eq_true] at h1;obtain ⟨⟨h2,h3⟩,h4⟩:=h1;refine ⟨fun cs b e=>?_,fun e he hb=>?_,fun j d hj=>?_⟩
 · rw [e] at h2
   cases h2
 · have:=(Array.all_eq_true_iff_forall_mem.1 h3) e he
   simpa [hb] using this
 · have hjs:j<ops.size:=by
    unfold dstAt at hj;cases hoj:ops[j]? with
    | none=>rw [hoj] at hj;cases hj
    | some x=>exact (Array.getElem?_eq_some_iff.1 hoj).1
   have h5:=List.all_eq_true.1 h4 j (List.mem_range.2 hjs);simp only [hj,Bool.and_eq_true] at h5;refine ⟨fun hd=>?_,fun hne=>?_⟩
   · have h6:=h5.1
     rw [List.contains_iff_mem.2 hd] at h6;simp only [Bool.not_true,Bool.false_or,Bool.and_eq_true,decide_eq_true_eq] at h6;refine ⟨h6.1,?_⟩;obtain ⟨e,he,h7⟩:∃e∈o.after,(Region.binds .any e&&e.on==j)=true:=by
      obtain ⟨q,hq,h8⟩:=Array.any_eq_true.1 h6.2;exact ⟨_,Array.getElem_mem hq,h8⟩
     simp only [Bool.and_eq_true,beq_iff_eq] at h7;exact ⟨e,he,h7.1,h7.2⟩
   · have h6:=h5.2
     simp only [Bool.or_eq_true,beq_iff_eq,bne_iff_ne] at h6;exact h6.resolve_left hne
theorem seq_vals:∀(l:List Oper) (k:Nat) (a:Act),(∀i o,l[i]?=some o→ops[k+i]?=some o)→SeqDo P ops Q S l a →
 ∃vs:List Value,(∀i o,l[i]?=some o→DoesIf P ops S o (vs.getD (k+i) undef) (putI ops vs (List.range' k i) a))∧∀w,S w→Q .normal (putI ops vs (List.range' k l.length) a) w
 | [],k,a,_,h=>⟨[],fun i o ho=>by simp at ho,h⟩
 | o::l,k,a,hl,⟨v,h1,h2⟩=>by
  have hk:ops[k]?=some o:=hl 0 o rfl;obtain ⟨vs,h3,h4⟩:=seq_vals l (k+1) _ (fun i x hx=>by rw [show k+1+i=k+(i+1) by omega];exact hl (i+1) x (by simpa using hx)) h2
  let us:=(List.range k).map (fun _=>undef)++v::vs.drop (k+1)
  have hu:us.getD k undef=v:=by simp [us,List.getD_eq_getElem?_getD]
  have hus:∀j,k<j→us.getD j undef=vs.getD j undef:=fun j hj=>by
   simp only [us,List.getD_eq_getElem?_getD];rw [List.getElem?_append_right (by simp;omega)];simp only [List.length_map,List.length_range];obtain ⟨m,rfl⟩:∃m,j=k+1+m:=⟨j-(k+1),by omega⟩;rw [show k+1+m-k=m+1 by omega,List.getElem?_cons_succ,List.getElem?_drop]
  have hput:∀js a,(∀j∈js,k<j)→putI ops us js a=putI ops vs js a:=by
   intro js
   induction js with
   | nil=>intro a _;rfl
   | cons j js ih=>
    intro a hj;show putI ops us js (a.put _ (us.getD j undef))=putI ops vs js (a.put _ (vs.getD j undef));rw [hus j (hj j (List.mem_cons_self ..)),ih _ (fun q hq=>hj q (List.mem_cons_of_mem _ hq))]
  have hfirst:∀m a,putI ops us (List.range' k (m+1)) a=putI ops vs (List.range' (k+1) m) (a.put o.dst v):=fun m a=>by
   rw [List.range'_succ];show putI ops us _ (a.put (dstAt ops k) (us.getD k undef))=_;rw [hu,hput _ _ (fun j hj=>by have:=List.mem_range'_1.1 hj;omega)];unfold dstAt;rw [hk];rfl
  refine ⟨us,fun i x hx=>?_,fun w hw=>?_⟩
  · cases i with
    | zero=>
     simp at hx;subst hx;show DoesIf P ops S o (us.getD k undef) a;rw [hu];exact h1
    | succ i=>
     rw [hfirst,show k+(i+1)=k+1+i by omega,hus _ (by omega)];exact h3 i x (by simpa using hx)
  · rw [List.length_cons,hfirst]
    exact h4 w hw
theorem un_set {listed:Array Bool} {i n:Nat} (hi:i<listed.size) :
 ((List.range n).filter fun j=>(listed.setIfInBounds i true).getD j true==false)=((List.range n).filter fun j=>listed.getD j true==false).filter (fun j=>decide (j≠i)):=by
 rw [List.filter_filter]
 congr 1
 funext j
 by_cases e:j=i
 · subst e
   simp [hi]
 · rw [getD_set_ne true (fun h=>e h.symm)]
   simp [e]
theorem seq_any (hok:seqOk ops=true) (vs:List Value) (a0:Act) (hdo:∀i o,ops[i]?=some o→DoesIf P ops S o (vs.getD i undef) (putI ops vs (List.range i) a0))
 (hfin:∀w,S w→Q .normal (putI ops vs (List.range ops.size) a0) w) :
 ∀(fuel:Nat) (listed:Array Bool) (a:Act) (w:World),listed.size=ops.size→((List.range ops.size).filter fun j=>listed.getD j true==false).length≤fuel →
  putI ops vs ((List.range ops.size).filter fun j=>listed.getD j true==false) a=putI ops vs (List.range ops.size) a0→S w→wpAny P .any ops Q fuel listed a w:=by
 have key:∀(listed:Array Bool) (a:Act) (w:World),listed.size=ops.size→putI ops vs ((List.range ops.size).filter fun j=>listed.getD j true==false) a=putI ops vs (List.range ops.size) a0→S w →
  Region.ready .any ops listed=[]→Q .normal a w:=fun listed a w hsz hp hS hr=>by
  have hnil:((List.range ops.size).filter fun j=>listed.getD j true==false)=[]:=by
   cases hc:((List.range ops.size).filter fun j=>listed.getD j true==false) with
   | nil=>rfl
   | cons i rest=>
    exfalso;have hmem:i∈((List.range ops.size).filter fun j=>listed.getD j true==false):=by rw [hc];exact List.mem_cons_self ..
    have hmin:∀j∈((List.range ops.size).filter fun j=>listed.getD j true==false),i≤j:=by
     have hsorted:((List.range ops.size).filter fun j=>listed.getD j true==false).Pairwise (·<·):=List.Pairwise.filter _ List.pairwise_lt_range;rw [hc] at hsorted ⊢;intro j hj
     rcases List.mem_cons.1 hj with rfl | hj
     · exact Nat.le_refl _
     · exact Nat.le_of_lt ((List.pairwise_cons.1 hsorted).1 j hj)
    rw [List.mem_filter,List.mem_range] at hmem;have ho:ops[i]?=some ops[i]:=Array.getElem?_eq_getElem hmem.1;have hready:i∈Region.ready .any ops listed:=by
     refine mem_ready.2 ⟨by simpa using hmem.2,_,ho,fun e he hb=>?_⟩;have hlt:=(seqOk_spec hok ho).2.1 e he hb;have hes:e.on<listed.size:=by omega
     cases hl:listed.getD e.on false with
     | true=>rfl
     | false=>
      exfalso;have:e.on∈((List.range ops.size).filter fun j=>listed.getD j true==false):=by
       rw [List.mem_filter,List.mem_range];refine ⟨by omega,?_⟩;simp [hes] at hl ⊢;exact hl
      have:=hmin _ this;omega
    rw [hr] at hready;cases hready
  rw [hnil] at hp;have hp':a=putI ops vs (List.range ops.size) a0:=hp;rw [hp'];exact hfin w hS
 intro fuel
 induction fuel with
 | zero=>
  intro listed a w hsz hlen hp hS;have hr:Region.ready .any ops listed=[]:=by
   cases hc:Region.ready .any ops listed with
   | nil=>rfl
   | cons i rest=>
    exfalso;have hi:i∈Region.ready .any ops listed:=by rw [hc];exact List.mem_cons_self ..
    obtain ⟨h0,o,ho,_⟩:=mem_ready.1 hi;have:i∈((List.range ops.size).filter fun j=>listed.getD j true==false):=by
     rw [List.mem_filter,List.mem_range];exact ⟨(Array.getElem?_eq_some_iff.1 ho).1,by rw [h0];rfl⟩
    rw [List.eq_nil_of_length_eq_zero (Nat.le_zero.1 hlen)] at this;cases this
  exact ⟨hr,key listed a w hsz hp hS hr⟩
 | succ fuel ih=>
  intro listed a w hsz hlen hp hS;refine ⟨key listed a w hsz hp hS,fun i hi=>?_⟩;obtain ⟨h0,o,ho,hall⟩:=mem_ready.1 hi;have hin:i<ops.size:=(Array.getElem?_eq_some_iff.1 ho).1;obtain ⟨hs1,hs2,hs3⟩:=seqOk_spec hok ho;have hun:i∈((List.range ops.size).filter fun j=>listed.getD j true==false):=by
   rw [List.mem_filter,List.mem_range];exact ⟨hin,by rw [h0];rfl⟩
  have hsize:a.tmps.size=(putI ops vs (List.range i) a0).tmps.size:=by
   rw [putI_size];have:=congrArg (fun x=>x.tmps.size) hp
   simpa only [putI_size] using this
  have hN:putI ops vs (List.range ops.size) a0=putI ops vs (List.range' i (ops.size-i)) (putI ops vs (List.range i) a0):=by
   unfold putI;rw [←List.foldl_append]
   congr 1
   rw [List.range_eq_range',List.range_eq_range'];have:=List.range'_append (s:=0) (m:=i) (n:=ops.size-i) (step:=1);rw [Nat.zero_add,Nat.one_mul,show i+(ops.size-i)=ops.size by omega] at this;exact this.symm
  have hlook:∀t,t∈o.looksAt ops→a.tmps[t]?=(putI ops vs (List.range i) a0).tmps[t]?:=fun t ht=>by
   have e1:(putI ops vs ((List.range ops.size).filter fun j=>listed.getD j true==false) a).tmps[t]?=a.tmps[t]?:=putI_at vs t _ a (fun j hj hd=>by
    obtain ⟨e,he,hb,hon⟩:=((hs3 j t hd).1 ht).2;have:=hall e he hb;rw [List.mem_filter,List.mem_range] at hj;have hj2:listed.getD j true=false:=by simpa using hj.2
    rw [hon] at this;have hjs:j<listed.size:=by omega
    simp [hjs] at this hj2;rw [this] at hj2;cases hj2)
   have e2:(putI ops vs (List.range' i (ops.size-i)) (putI ops vs (List.range i) a0)).tmps[t]?=(putI ops vs (List.range i) a0).tmps[t]?:=putI_at vs t _ _ (fun j hj hd=>by
    have h1:=((hs3 j t hd).1 ht).1;have h2:=(List.mem_range'_1.1 hj).1;omega)
   rw [←e1,hp,hN,e2]
  obtain ⟨he,hw⟩:=same_looks hs1 hlook;refine (hdo i o ho).op ho he hw hsize hS (fun w' hS'=>?_);have hdst:dstAt ops i=o.dst:=by unfold dstAt;rw [ho];rfl
  have hnd:((List.range ops.size).filter fun j=>listed.getD j true==false).Nodup:=List.Pairwise.filter _ List.nodup_range;refine ih (listed.setIfInBounds i true) _ w' (by simpa using hsz) ?_ ?_ hS'
  · rw [un_set (by omega)]
    have:(((List.range ops.size).filter fun j=>listed.getD j true==false).filter (fun j=>decide (j≠i))).length<((List.range ops.size).filter fun j=>listed.getD j true==false).length:=
     List.length_filter_lt_length_iff_exists.2 ⟨i,hun,by simp⟩
    omega
  · rw [un_set (by omega),←hp,putI_pull vs i _ a hnd hun (fun j hj hne d hd=>fun hd2=>by
     rw [hdst] at hd;exact (hs3 j d hd2).2 hne hd),hdst]
theorem wp_region_seq {id:Nat} {l:List Oper} {a:Act} {w:World} (S:World→Prop) (hm:P.follows .mixedOrders=true) (hok:seqOk l.toArray=true) (hS:S w.drew)
 (h:SeqDo P l.toArray Q S l a):(Code.region id l.toArray true).wp P Q a w:=by
 refine wp_region_any hm ?_;obtain ⟨vs,h1,h2⟩:=seq_vals (ops:=l.toArray) l 0 a (fun i o ho=>by simpa using ho) h;have hfil:((List.range l.toArray.size).filter fun j=>(Array.replicate l.toArray.size false).getD j true==false)=List.range l.toArray.size:=by
  refine List.filter_eq_self.2 (fun j hj=>?_);have:=List.mem_range.1 hj;simp at this;simp [this]
 refine seq_any hok vs a (fun i o ho=>?_) (fun w hw=>?_) _ _ a _ (by simp) ?_ ?_ hS
 · have:=h1 i o (by simpa using ho)
   rw [Nat.zero_add,←List.range_eq_range'] at this;exact this
 · have:=h2 w hw
   rw [←List.range_eq_range'] at this
   simpa using this
 · rw [hfil]
   simp
 · rw [hfil]
theorem SeqDo.does {o:Oper} {l:List Oper} {a:Act} {v:Value} (hw:Region.wanted o (yielded ops a.tmps)=true)
 (hd:∀w,S w→∀K:Act→World→Prop,Shut (∀w',S w'→K (a.put o.dst v) w')→Oper.wp P o a w K (fun _ _ _=>False)) (h:SeqDo P ops Q S l (a.put o.dst v)):SeqDo P ops Q S (o::l) a:=⟨v,.inl ⟨hw,hd⟩,h⟩
theorem SeqDo.yields {o:Oper} {l:List Oper} {a:Act} {v:Value} (hw:Region.wanted o (yielded ops a.tmps)=true)
 (hd:∀w,S w→(execOp a.eval o).run P w=.ok (.value v) w) (h:SeqDo P ops Q S l (a.put o.dst v)):SeqDo P ops Q S (o::l) a:=
 ⟨v,.inl ⟨hw,fun w hS K hK=>by
  unfold Oper.wp;rw [hd w hS];exact hK.out _ hS⟩,h⟩
theorem SeqDo.skips {o:Oper} {l:List Oper} {a:Act} (hw:Region.wanted o (yielded ops a.tmps)=false) (h:SeqDo P ops Q S l (a.put o.dst undef)):SeqDo P ops Q S (o::l) a:=⟨undef,.inr ⟨hw,rfl⟩,h⟩
end
section
variable {P:Program} {ops:Array Oper} {Q:Exit→Act→World→Prop} {I:World→Prop} {ef:Nat→Bool}
def noPanic:Exit→Act→World→Prop:=fun _ _ _=>False
def ReadIf (P:Program) (ops:Array Oper) (I:World→Prop) (o:Oper) (v:Value) (a:Act):Prop:=
 (Region.wanted o (yielded ops a.tmps)=true∧∀w,I w→(execOp a.eval o).run P w=.ok (.value v) w)∨(Region.wanted o (yielded ops a.tmps)=false∧v=undef)
def Txt (P:Program) (ops:Array Oper) (Q:Exit→Act→World→Prop) (I:World→Prop) (ef:Nat→Bool):List Nat→Act→World→Prop
 | [],a,w=>Q .normal a w
 | i::l,a,w=>∃o,ops[i]?=some o∧(ef i=false→∃v,ReadIf P ops I o v a∧Txt P ops Q I ef l (a.put o.dst v) w) ∧
  (ef i=true→(Region.wanted o (yielded ops a.tmps)=true→Oper.wp P o a w (fun a' w'=>I w'∧Txt P ops Q I ef l a' w') noPanic)∧(Region.wanted o (yielded ops a.tmps)=false→Txt P ops Q I ef l (a.put o.dst undef) w))
theorem looks_put {o:Oper} {a:Act} {d:Option Tmp} {v:Value} (hs:∀cs b,o.op≠.select cs b) (h:∀t,d=some t→t∉o.looksAt ops) :
 execOp (a.put d v).eval o=execOp a.eval o∧Region.wanted o (yielded ops (a.put d v).tmps)=Region.wanted o (yielded ops a.tmps):=
 same_looks hs fun t ht=>by
  cases d with
  | none=>rfl
  | some d=>
   show (a.tmps.setIfInBounds d v)[t]?=a.tmps[t]?;rw [Array.getElem?_setIfInBounds_ne (fun e=>h d rfl (by rw [e];exact ht))]
theorem ReadIf.put {o:Oper} {a:Act} {d:Option Tmp} {u v:Value} (hs:∀cs b,o.op≠.select cs b) (h:∀t,d=some t→t∉o.looksAt ops):ReadIf P ops I o v (a.put d u)↔ReadIf P ops I o v a:=by
 obtain ⟨h1,h2⟩:=looks_put (a:=a) (v:=u) hs h;unfold ReadIf;rw [h1,h2]
def Ahead (ops:Array Oper) (ef:Nat→Bool) (i:Nat) (o:Oper) (j:Nat):Prop:=
 ef j=false∧(∀t,dstAt ops j=some t→t∉o.looksAt ops∧o.dst≠some t)∧∀oj,ops[j]?=some oj→(∀cs b,oj.op≠.select cs b)∧∀t,o.dst=some t→t∉oj.looksAt ops
theorem Txt.pull {i:Nat} {o:Oper} {post:List Nat} {w:World} (ho:ops[i]?=some o) (hs:∀cs b,o.op≠.select cs b):∀(pre:List Nat) (a:Act),(∀j∈pre,Ahead ops ef i o j)→Txt P ops Q I ef (pre++i::post) a w →
 (ef i=false→∃v,ReadIf P ops I o v a∧Txt P ops Q I ef (pre++post) (a.put o.dst v) w) ∧
 (ef i=true→(Region.wanted o (yielded ops a.tmps)=true→Oper.wp P o a w (fun a' w'=>I w'∧Txt P ops Q I ef (pre++post) a' w') noPanic)∧(Region.wanted o (yielded ops a.tmps)=false→Txt P ops Q I ef (pre++post) (a.put o.dst undef) w))
 | [],a,_,h=>by
  obtain ⟨o',ho',h1,h2⟩:=h;rw [ho] at ho';injection ho' with ho'
  subst ho';exact ⟨h1,h2⟩
 | j::pre,a,hp,h=>by
  obtain ⟨oj,hoj,h1,_⟩:=h;obtain ⟨hj1,hj2,hj3⟩:=hp j (List.mem_cons_self ..);obtain ⟨hj4,hj5⟩:=hj3 oj hoj;have hdst:dstAt ops j=oj.dst:=by unfold dstAt;rw [hoj];rfl
  rw [hdst] at hj2;obtain ⟨u,hu,hT⟩:=h1 hj1;obtain ⟨i1,i2⟩:=Txt.pull ho hs pre _ (fun k hk=>hp k (List.mem_cons_of_mem _ hk)) hT;have comm:∀x,(a.put oj.dst u).put o.dst x=(a.put o.dst x).put oj.dst u:=fun x=>Act.put_comm a _ _ (fun t ht e=>(hj2 t ht).2 e)
  have hl1:∀t,oj.dst=some t→t∉o.looksAt ops:=fun t ht=>(hj2 t ht).1
  have hback:∀(b:Act) (w':World),ReadIf P ops I oj u b→Txt P ops Q I ef (pre++post) (b.put oj.dst u) w'→Txt P ops Q I ef (j::pre++post) b w':=fun b w' g1 g2=>
   ⟨oj,hoj,fun _=>⟨u,g1,g2⟩,fun e=>by rw [hj1] at e;cases e⟩
  refine ⟨fun e=>?_,fun e=>⟨fun hw=>?_,fun hw=>?_⟩⟩
  · obtain ⟨v,hv,hT2⟩:=i1 e
    rw [comm] at hT2;exact ⟨v,(ReadIf.put hs hl1).1 hv,hback _ _ ((ReadIf.put hj4 hj5).2 hu) hT2⟩
  · have hw':Region.wanted o (yielded ops (a.put oj.dst u).tmps)=true:=by rw [(looks_put hs hl1).2];exact hw
    have h3:=(i2 e).1 hw';unfold Oper.wp at h3 ⊢;rw [(looks_put hs hl1).1] at h3;generalize (execOp a.eval o).run P w=r at *;have key:∀x w',I w'∧Txt P ops Q I ef (pre++post) ((a.put oj.dst u).put o.dst x) w'→I w'∧Txt P ops Q I ef (j::pre++post) (a.put o.dst x) w':=fun x w' hx=>by
     rw [comm] at hx;exact ⟨hx.1,hback _ _ ((ReadIf.put hj4 hj5).2 hu) hx.2⟩
    cases r with
    | ok n w'=>
     cases n <;> simp only [Oper.upon] at h3 ⊢
     case value x=>exact key _ _ h3
     case skip=>exact key _ _ h3
     case defer x=>
      have comm2:({ a.put oj.dst u with defers:=x::(a.put oj.dst u).defers }:Act).put o.dst undef=(({ a with defers:=x::a.defers }:Act).put o.dst undef).put oj.dst u:=by
       rw [←Act.put_comm _ _ _ (fun t ht e=>(hj2 t ht).2 e)];cases oj.dst <;> rfl
      rw [comm2] at h3;refine ⟨h3.1,hback _ _ ?_ h3.2⟩;refine (ReadIf.put hj4 hj5).2 ?_;exact hu
     case enter f args=>
      refine Calls.mono h3 fun e w'' he=>?_
      cases e with
      | returned x=>exact key _ _ he
      | panicked c=>exact he.elim
      | outgrown=>exact he
     case row row args=>exact Rows.mono h3 fun x w'' he=>key _ _ he
    | halt x w'=>cases x <;> first | exact h3 | exact h3.elim
  · have hw':Region.wanted o (yielded ops (a.put oj.dst u).tmps)=false:=by rw [(looks_put hs hl1).2];exact hw
    have h3:=(i2 e).2 hw';rw [comm] at h3;exact hback _ _ ((ReadIf.put hj4 hj5).2 hu) h3
def depsOn (ops:Array Oper) (i:Nat) (s:List Nat):Bool:=match ops[i]? with
 | none=>false
 | some o=>o.after.any fun e=>Region.binds .any e&&s.contains e.on
def segOk (ops:Array Oper) (ef:Nat→Bool):List Nat→List Nat→List Nat→Bool
 | _,_,[]=>true
 | E,seg,i::l=>(match E with | []=>true | e::_=>depsOn ops i (e::seg))&&(if ef i then segOk ops ef (i::E) [] l else segOk ops ef E (i::seg) l)
def opOk (ops:Array Oper) (i:Nat):Bool:=match ops[i]? with
 | none=>false
 | some o=>(match o.op with | .select ..=>false | _=>true) &&
  (List.range ops.size).all fun j=>match dstAt ops j with
   | none=>true
   | some d=>(!(o.looksAt ops).contains d||o.after.any (fun e=>Region.binds .any e&&e.on==j))&&(j==i||o.dst != some d)
def topOk (ops:Array Oper):List Nat→List Nat→Bool
 | _,[]=>true
 | seen,i::l=>(match ops[i]? with | none=>false | some o=>o.after.all fun e=>!Region.binds .any e||seen.contains e.on)&&topOk ops (i::seen) l
def txtOk (ops:Array Oper) (ef:Nat→Bool) (π:List Nat):Bool:=
 decide (π.length=ops.size∧π.Nodup)&&π.all (fun i=>decide (i<ops.size))&&(List.range ops.size).all (fun i=>π.contains i&&opOk ops i)&&segOk ops ef [] [] π&&topOk ops [] π
def Closed (ops:Array Oper) (L:Nat→Prop):Prop:=∀i o,ops[i]?=some o→L i→∀e∈o.after,Region.binds .any e=true→L e.on
def Waits (ops:Array Oper) (L:Nat→Prop) (i:Nat):Prop:=∀o,ops[i]?=some o→∀e∈o.after,Region.binds .any e=true→L e.on
theorem depsOn_spec {i:Nat} {s:List Nat} {L:Nat→Prop} (h:depsOn ops i s=true) (hw:Waits ops L i):∃k∈s,L k:=by
 unfold depsOn at h;cases ho:ops[i]? with
 | none=>rw [ho] at h;cases h
 | some o=>
  simp only [ho] at h;obtain ⟨q,hq,h8⟩:=Array.any_eq_true.1 h;rw [Bool.and_eq_true] at h8;exact ⟨_,List.contains_iff_mem.1 h8.2,hw o ho _ (Array.getElem_mem hq) h8.1⟩
theorem segOk_spec {L:Nat→Prop} (hc:Closed ops L):∀(l E seg:List Nat),segOk ops ef E seg l=true→(∀k∈seg,L k→∀e∈E,L e)→(∀e E',E=e::E'→L e→∀x∈E',L x) →
 ∀pre i post,l=pre++i::post→Waits ops L i→(∀e∈E,L e)∧∀j∈pre,ef j=true→L j
 | [],E,seg,_,_,_,pre,i,post,e,_=>by cases pre <;> cases e
 | x::l,E,seg,h,h1,h2,pre,i,post,e,hw=>by
  unfold segOk at h;rw [Bool.and_eq_true] at h;have head:Waits ops L x→∀e∈E,L e:=fun hx=>by
   cases E with
   | nil=>intro e he;cases he
   | cons e0 E'=>
    obtain ⟨k,hk,hL⟩:=depsOn_spec h.1 hx
    rcases List.mem_cons.1 hk with rfl | hk
    · intro e he
      rcases List.mem_cons.1 he with rfl | he
      · exact hL
      · exact h2 _ _ rfl hL e he
    · exact h1 k hk hL
  have hwx:L x→Waits ops L x:=fun hx o ho=>hc x o ho hx
  cases pre with
  | nil=>
   simp at e;obtain ⟨rfl,rfl⟩:=e;exact ⟨head hw,fun j hj=>by cases hj⟩
  | cons y pre=>
   simp at e;obtain ⟨rfl,rfl⟩:=e
   by_cases hx:ef x=true
   · have h3:=h.2
     rw [if_pos hx] at h3;obtain ⟨g1,g2⟩:=segOk_spec hc _ _ _ h3 (fun k hk=>by cases hk) (fun e E' he hL=>by injection he with he1 he2;subst he1 he2;exact head (hwx hL)) pre i post rfl hw;refine ⟨fun e he=>g1 e (List.mem_cons_of_mem _ he),fun j hj hj2=>?_⟩
     rcases List.mem_cons.1 hj with rfl | hj
     · exact g1 _ (List.mem_cons_self ..)
     · exact g2 j hj hj2
   · have h3:=h.2
     rw [if_neg hx] at h3;obtain ⟨g1,g2⟩:=segOk_spec hc _ _ _ h3 (fun k hk hL=>by
      rcases List.mem_cons.1 hk with rfl | hk
      · exact head (hwx hL)
      · exact h1 k hk hL) h2 pre i post rfl hw
     refine ⟨g1,fun j hj hj2=>?_⟩
     rcases List.mem_cons.1 hj with rfl | hj
     · exact absurd hj2 hx
     · exact g2 j hj hj2
theorem topOk_spec:∀(l seen:List Nat),topOk ops seen l=true→∀pre i post,l=pre++i::post→∀o,ops[i]?=some o→∀e∈o.after,Region.binds .any e=true→e.on∈pre∨e.on∈seen
 | [],seen,_,pre,i,post,e,_,_,_,_,_=>by cases pre <;> cases e
 | x::l,seen,h,pre,i,post,e,o,ho,q,hq,hb=>by
  unfold topOk at h;rw [Bool.and_eq_true] at h;cases pre with
  | nil=>
   simp at e;obtain ⟨rfl,rfl⟩:=e;have h1:=h.1;simp only [ho] at h1;have:=(Array.all_eq_true_iff_forall_mem.1 h1) q hq;rw [hb] at this;exact .inr (List.contains_iff_mem.1 (by simpa using this))
  | cons y pre=>
   simp at e;obtain ⟨rfl,rfl⟩:=e
   rcases topOk_spec _ (x::seen) h.2 pre i post rfl o ho q hq hb with g | g
   · exact .inl (List.mem_cons_of_mem _ g)
   · rcases List.mem_cons.1 g with g | g
     · exact .inl (by rw [g];exact List.mem_cons_self ..)
     · exact .inr g
theorem opOk_spec {i:Nat} {o:Oper} (h:opOk ops i=true) (ho:ops[i]?=some o) :
 (∀cs b,o.op≠.select cs b)∧∀j d,dstAt ops j=some d→(d∈o.looksAt ops→∃e∈o.after,Region.binds .any e=true∧e.on=j)∧(j≠i→o.dst≠some d):=by
 unfold opOk at h;simp only [ho,Bool.and_eq_true] at h;obtain ⟨h2,h4⟩:=h;refine ⟨fun cs b e=>?_,fun j d hj=>?_⟩
 · rw [e] at h2
   cases h2
 · have hjs:j<ops.size:=by
    unfold dstAt at hj;cases hoj:ops[j]? with
    | none=>rw [hoj] at hj;cases hj
    | some x=>exact (Array.getElem?_eq_some_iff.1 hoj).1
   have h5:=List.all_eq_true.1 h4 j (List.mem_range.2 hjs);simp only [hj,Bool.and_eq_true] at h5;refine ⟨fun hd=>?_,fun hne=>?_⟩
   · have h6:=h5.1
     rw [List.contains_iff_mem.2 hd] at h6;simp only [Bool.not_true,Bool.false_or] at h6;obtain ⟨q,hq,h8⟩:=Array.any_eq_true.1 h6;simp only [Bool.and_eq_true,beq_iff_eq] at h8;exact ⟨_,Array.getElem_mem hq,h8.1,h8.2⟩
   · have h6:=h5.2
     simp only [Bool.or_eq_true,beq_iff_eq,bne_iff_ne] at h6;exact h6.resolve_left hne
def remT (π:List Nat) (listed:Array Bool):List Nat:=π.filter fun j=>listed.getD j true==false
theorem remT_set {π:List Nat} {listed:Array Bool} {i:Nat} (hi:i<listed.size):remT π (listed.setIfInBounds i true)=(remT π listed).filter (fun j=>decide (j≠i)):=by
 unfold remT;rw [List.filter_filter]
 congr 1
 funext j
 by_cases e:j=i
 · subst e
   simp [hi]
 · rw [getD_set_ne true (fun h=>e h.symm)]
   simp [e]
theorem listed_iff {listed:Array Bool} {j:Nat} (hj:j<listed.size):listed.getD j true=listed.getD j false:=by simp [hj]
theorem txt_any {π:List Nat} (hok:txtOk ops ef π=true):∀(fuel:Nat) (listed:Array Bool) (a:Act) (w:World),listed.size=ops.size→(remT π listed).length≤fuel→Closed ops (fun j=>listed.getD j false=true)→Txt P ops Q I ef (remT π listed) a w→I w→wpAny P .any ops Q fuel listed a w:=by
 unfold txtOk at hok;simp only [Bool.and_eq_true,decide_eq_true_eq] at hok;obtain ⟨⟨⟨⟨⟨hlen,hnd⟩,hltb⟩,hall⟩,hseg⟩,htop⟩:=hok;have hmem:∀i,i<ops.size→i∈π∧opOk ops i=true:=fun i hi=>by
  have:=List.all_eq_true.1 hall i (List.mem_range.2 hi);rw [Bool.and_eq_true] at this;exact ⟨List.contains_iff_mem.1 this.1,this.2⟩
 have hlt:∀i∈π,i<ops.size:=fun i hi=>by simpa using List.all_eq_true.1 hltb i hi
 have hrem:∀(listed:Array Bool) i,listed.size=ops.size→(i∈remT π listed↔i<ops.size∧listed.getD i true=false):=fun listed i hsz=>by
  unfold remT;rw [List.mem_filter];constructor
  · rintro ⟨h1,h2⟩
    exact ⟨hlt i h1,by simpa using h2⟩
  · rintro ⟨h1,h2⟩
    exact ⟨(hmem i h1).1,by simpa using h2⟩
 -- the first that is left is ready
 have hfirst:∀(listed:Array Bool),listed.size=ops.size→Region.ready .any ops listed=[]→remT π listed=[]:=fun listed hsz hr=>by
  cases hc:remT π listed with
  | nil=>rfl
  | cons i rest=>
   exfalso;have hi:=(hrem listed i hsz).1 (by rw [hc];exact List.mem_cons_self ..);obtain ⟨pre,post,hpp,hpre⟩:∃pre post,π=pre++i::post∧∀j∈pre,listed.getD j true=true:=by
    have:=List.filter_eq_cons_iff.1 hc;obtain ⟨l1,l2,e,h1,h2,_⟩:=this;exact ⟨l1,l2,e,fun j hj=>by simpa using h1 j hj⟩
   have ho:ops[i]?=some ops[i]:=Array.getElem?_eq_getElem hi.1;have hready:i∈Region.ready .any ops listed:=by
    refine mem_ready.2 ⟨hi.2,_,ho,fun e he hb=>?_⟩
    rcases topOk_spec π [] htop pre i post hpp _ ho e he hb with g | g
    · have h1:=hpre _ g
      have h2:e.on<listed.size:=by rw [hsz];exact hlt _ (by rw [hpp];exact List.mem_append_left _ g)
      rw [←listed_iff h2];exact h1
    · cases g
   rw [hr] at hready;cases hready
 intro fuel
 induction fuel with
 | zero=>
  intro listed a w hsz hl hcl hT hI;have hn:remT π listed=[]:=List.eq_nil_of_length_eq_zero (Nat.le_zero.1 hl);have hr:Region.ready .any ops listed=[]:=by
   cases hc:Region.ready .any ops listed with
   | nil=>rfl
   | cons i rest=>
    exfalso;have hi:i∈Region.ready .any ops listed:=by rw [hc];exact List.mem_cons_self ..
    obtain ⟨h0,o,ho,_⟩:=mem_ready.1 hi;have:=(hrem listed i hsz).2 ⟨(Array.getElem?_eq_some_iff.1 ho).1,h0⟩;rw [hn] at this;cases this
  rw [hn] at hT;exact ⟨hr,hT⟩
 | succ fuel ih=>
  intro listed a w hsz hl hcl hT hI;refine ⟨fun hr=>by rw [hfirst listed hsz hr] at hT;exact hT,fun i hi=>?_⟩;obtain ⟨h0,o,ho,hw⟩:=mem_ready.1 hi;have hin:i<ops.size:=(Array.getElem?_eq_some_iff.1 ho).1;have hir:=(hrem listed i hsz).2 ⟨hin,h0⟩;obtain ⟨hs1,hs2⟩:=opOk_spec (hmem i hin).2 ho
  -- around i
  obtain ⟨p1,p2,hpp⟩:=List.append_of_mem (hmem i hin).1;have hrs:remT π listed=remT p1 listed++i::remT p2 listed:=by
   unfold remT;rw [hpp,List.filter_append,List.filter_cons_of_pos (by rw [h0];rfl)]
  have hni:i∉p1∧i∉p2:=by
   have:=hnd;rw [hpp] at this;have h1:=List.nodup_append.1 this;have h2:=List.nodup_cons.1 h1.2.1;exact ⟨fun h=>h1.2.2 i h i (List.mem_cons_self ..) rfl,h2.1⟩
  have hwait:Waits ops (fun j=>listed.getD j false=true) i:=fun o' ho' e he hb=>by
   rw [ho] at ho';injection ho' with ho'
   subst ho';exact hw e he hb
  obtain ⟨_,hact⟩:=segOk_spec hcl π [] [] hseg (fun k hk=>by cases hk) (fun e E' h=>by cases h) p1 i p2 hpp hwait;have hahead:∀j∈remT p1 listed,Ahead ops ef i o j:=fun j hj=>by
   have hj1:j∈p1:=(List.mem_filter.1 hj).1;have hj2:listed.getD j true=false:=by simpa using (List.mem_filter.1 hj).2
   have hjs:j<ops.size:=hlt j (by rw [hpp];exact List.mem_append_left _ hj1);have hjn:j≠i:=fun e=>hni.1 (e▸hj1)
   have hjl:¬listed.getD j false=true:=by rw [←listed_iff (by omega),hj2];simp
   refine ⟨?_,fun t ht=>⟨fun hl=>?_,(hs2 j t ht).2 hjn⟩,fun oj hoj=>?_⟩
   · cases hef:ef j with
     | false=>rfl
     | true=>exact absurd (hact j hj1 hef) hjl
   · obtain ⟨e,he,hb,hon⟩:=(hs2 j t ht).1 hl
     have:=hw e he hb;rw [hon] at this;exact hjl this
   · obtain ⟨g1,g2⟩:=opOk_spec (hmem j hjs).2 hoj
     refine ⟨g1,fun t ht hl=>?_⟩;obtain ⟨e,he,hb,hon⟩:=(g2 i t (by unfold dstAt;rw [ho];exact ht)).1 hl;obtain ⟨q1,q2,hq⟩:=List.append_of_mem hj1
     rcases topOk_spec π [] htop q1 j (q2++i::p2) (by rw [hpp,hq];simp) oj hoj e he hb with g | g
     · rw [hon] at g
       exact hni.1 (by rw [hq];exact List.mem_append_left _ g)
     · cases g
  rw [hrs] at hT;obtain ⟨hR,hE⟩:=Txt.pull ho hs1 _ a hahead hT;have hcl':Closed ops (fun j=>(listed.setIfInBounds i true).getD j false=true):=fun k ok hok hk e he hb=>by
   have hup:∀j,listed.getD j false=true→(listed.setIfInBounds i true).getD j false=true:=fun j hj=>by
    by_cases ej:j=i
    · subst ej
      have:j<listed.size:=by omega
      simp [this]
    · rw [getD_set_ne false (fun h=>ej h.symm)]
      exact hj
   by_cases ek:k=i
   · subst ek
     exact hup _ (hwait ok hok e he hb)
   · have hk':listed.getD k false=true:=by
      have h5:(listed.setIfInBounds i true).getD k false=true:=hk;rw [getD_set_ne false (fun h=>ek h.symm)] at h5;exact h5
     exact hup _ (hcl k ok hok hk' e he hb)
  have hnext:∀a' w',I w'→Txt P ops Q I ef (remT p1 listed++remT p2 listed) a' w'→wpAny P .any ops Q fuel (listed.setIfInBounds i true) a' w':=fun a' w' hI' hT'=>by
   have e1:remT π (listed.setIfInBounds i true)=remT p1 listed++remT p2 listed:=by
    rw [remT_set (by omega),hrs,List.filter_append,List.filter_cons_of_neg (by simp)]
    congr 1
    · exact List.filter_eq_self.2 (fun j hj=>by simp;exact fun e=>hni.1 (e▸(List.mem_filter.1 hj).1))
    · exact List.filter_eq_self.2 (fun j hj=>by simp;exact fun e=>hni.2 (e▸(List.mem_filter.1 hj).1))
   refine ih _ a' w' (by simpa using hsz) ?_ hcl' (by rw [e1];exact hT') hI';rw [e1];rw [hrs] at hl;simp at hl ⊢;omega
  unfold wpOp;simp only [ho];cases hef:ef i with
  | false=>
   obtain ⟨v,hv,hT2⟩:=hR hef
   rcases hv with ⟨h1,h2⟩ | ⟨h1,rfl⟩
   · rw [if_pos h1]
     refine .inl ?_;unfold Oper.wp;rw [h2 w hI];exact hnext _ _ hI hT2
   · rw [if_neg (by rw [h1];simp)]
     exact hnext _ _ hI hT2
  | true=>
   obtain ⟨g1,g2⟩:=hE hef;cases hwt:Region.wanted o (yielded ops a.tmps) with
   | true=>
    rw [if_pos rfl];refine .inl ?_;have h3:=g1 hwt;unfold Oper.wp at h3 ⊢;generalize (execOp a.eval o).run P w=r at *;cases r with
    | ok n w'=>
     cases n <;> simp only [Oper.upon] at h3 ⊢
     case value x=>exact hnext _ _ h3.1 h3.2
     case skip=>exact hnext _ _ h3.1 h3.2
     case defer x=>exact hnext _ _ h3.1 h3.2
     case enter f args=>
      refine Calls.mono h3 fun e w'' he=>?_
      cases e with
      | returned x=>exact hnext _ _ he.1 he.2
      | panicked c=>exact he.elim
      | outgrown=>
       obtain ⟨_,_,hf⟩:=he;exact hf.elim
     case row row args=>exact Rows.mono h3 fun x w'' he=>hnext _ _ he.1 he.2
    | halt x w'=>cases x <;> first | exact h3 | exact h3.elim
   | false=>
    rw [if_neg (by simp)];exact hnext _ _ hI (g2 hwt)
theorem wp_region_txt {id:Nat} {l:List Oper} {a:Act} {w:World} (I:World→Prop) (acts π:List Nat) (hm:P.follows .mixedOrders=true) (hok:txtOk l.toArray (fun i=>acts.contains i) π=true) (hI:I w.drew)
 (h:Txt P l.toArray Q I (fun i=>acts.contains i) π a w.drew):(Code.region id l.toArray true).wp P Q a w:=by
 refine wp_region_any hm ?_;have hall:remT π (Array.replicate l.toArray.size false)=π:=by
  have hok':=hok;unfold txtOk at hok';simp only [Bool.and_eq_true,decide_eq_true_eq] at hok';obtain ⟨⟨⟨⟨_,hltb⟩,_⟩,_⟩,_⟩:=hok';refine List.filter_eq_self.2 (fun j hj=>?_);have:j<l.toArray.size:=by simpa using List.all_eq_true.1 hltb j hj
  simp at this;simp [this]
 refine txt_any hok _ _ a _ (by simp) ?_ (fun i o ho hi=>?_) (by rw [hall];exact h) hI
 · rw [hall]
   unfold txtOk at hok;simp only [Bool.and_eq_true,decide_eq_true_eq] at hok;exact Nat.le_of_eq hok.1.1.1.1.1
 · exfalso
   have hlt:=(Array.getElem?_eq_some_iff.1 ho).1;simp at hlt;simp [hlt] at hi
theorem Txt.reads {i:Nat} {o:Oper} {ol:List Oper} {l:List Nat} {a:Act} {w:World} {v:Value} (ho:ol[i]?=some o) (he:ef i=false) (hw:Region.wanted o (yielded ol.toArray a.tmps)=true)
 (hd:∀w,I w→(execOp a.eval o).run P w=.ok (.value v) w) (h:Txt P ol.toArray Q I ef l (a.put o.dst v) w):Txt P ol.toArray Q I ef (i::l) a w:=
 ⟨o,by simpa using ho,fun _=>⟨v,.inl ⟨hw,hd⟩,h⟩,fun e=>(by rw [he] at e;cases e)⟩
theorem Txt.skips {i:Nat} {o:Oper} {ol:List Oper} {l:List Nat} {a:Act} {w:World} (ho:ol[i]?=some o) (hw:Region.wanted o (yielded ol.toArray a.tmps)=false) (h:Txt P ol.toArray Q I ef l (a.put o.dst undef) w):Txt P ol.toArray Q I ef (i::l) a w:=
 ⟨o,by simpa using ho,fun _=>⟨undef,.inr ⟨hw,rfl⟩,h⟩,fun _=>⟨fun e=>(by rw [hw] at e;cases e),fun _=>h⟩⟩
theorem Txt.acts {i:Nat} {o:Oper} {ol:List Oper} {l:List Nat} {a:Act} {w:World} (ho:ol[i]?=some o) (he:ef i=true) (hw:Region.wanted o (yielded ol.toArray a.tmps)=true)
 (h:∀K:Act→World→Prop,Shut (∀a' w',I w'→Txt P ol.toArray Q I ef l a' w'→K a' w')→Oper.wp P o a w K noPanic):Txt P ol.toArray Q I ef (i::l) a w:=
 ⟨o,by simpa using ho,fun e=>(by rw [he] at e;cases e),fun _=>⟨fun _=>h _ (fun a' w' h1 h2=>⟨h1,h2⟩),fun e=>(by rw [hw] at e;cases e)⟩⟩
theorem Txt.done {a:Act} {w:World} (h:Q .normal a w):Txt P ops Q I ef [] a w:=h
end
theorem ktagAt_any (w:World) (a:Option Addr) (n c:Nat) (l:List Ent) (h:Es w a n l) (i:Int) (hi:-9223372036854775808≤i∧i≤9223372036854775807) (hn:n≤140737488351232) :
 Calls Tryz.prog 134 #[.slice a n c,.int .i64 i] w fun e w'=>e=.returned (.int .i64 (tagE l i))∧w'=w:=by
 by_cases h0:i<0
 · have e1:tagE l i=0:=by unfold tagE atE;rw [if_neg (by omega)];rfl
   rw [e1];clear e1 h;go_enter Tryz.func134,Tryz.ntmps134;go_wp2;go_ret;exact ⟨rfl,rfl⟩
 · by_cases h1:(n:Int)≤i
   · have e1:tagE l i=0:=by
      unfold tagE atE;rw [if_pos (by omega),List.getElem?_eq_none (by rw [h.1];omega)];rfl
     rw [e1];clear e1 h;go_enter Tryz.func134,Tryz.ntmps134;go_wp2;go_ret;exact ⟨rfl,rfl⟩
   · obtain ⟨k,rfl⟩:∃k:Nat,i=k:=⟨i.toNat,by omega⟩
     obtain ⟨b,o,rfl,hE⟩:=h.2.resolve_left (by omega);obtain ⟨x,hx⟩:∃x,l[k]?=some x:=⟨_,List.getElem?_eq_getElem (by rw [h.1];omega)⟩;obtain ⟨c0,_,_,_,_⟩:=ents_get hE hx;have e1:tagE l (k:Int)=x.tag:=by
      unfold tagE atE;rw [if_pos (by omega),Int.toNat_natCast,hx];rfl
     rw [e1];generalize x.tag=T at *;clear e1 hE hx h;go_enter Tryz.func134,Tryz.ntmps134;go_wp2;go_ret;exact ⟨rfl,rfl⟩
theorem ents_at {w:World} {b o:Nat} {l:List Ent} (h:EntsAt w (some ⟨b,o,none⟩) l) {k:Nat} (hk:k<l.length) :
 w.cell? ⟨b,o+k*5,none⟩=some (.int .i64 (atE l (k:Int)).tag)∧w.cell? ⟨b,o+k*5+1,none⟩=some (.string ⟨(atE l (k:Int)).text.toArray⟩)∧w.cell? ⟨b,o+k*5+2,none⟩=some (.int .i64 (atE l (k:Int)).n)∧w.cell? ⟨b,o+k*5+3,none⟩=some (.int .i64 (atE l (k:Int)).a)∧w.cell? ⟨b,o+k*5+4,none⟩=some (.int .i64 (atE l (k:Int)).b):=by
 have e:l[k]?=some (atE l (k:Int)):=by rw [atE_nat,List.getElem?_eq_getElem hk];rfl
 exact ents_get h e
theorem knumbers_any (w:World) (t:Int) :
 Calls Tryz.prog 135 #[.int .i64 t] w fun e w'=>e=.returned (.int .i64 (if t=5 then 2 else 1))∧w'=w:=by
 by_cases h5:t=5
 · subst h5
   go_enter Tryz.func135,Tryz.ntmps135;go_wp2;go_ret;exact ⟨rfl,rfl⟩
 · rw [if_neg h5]
   have h5':(t==5)=false:=by simpa using h5
   clear h5;go_enter Tryz.func135,Tryz.ntmps135;go_wp2;go_ret;exact ⟨rfl,rfl⟩
theorem kisGap_any (w:World) (a:Option Addr) (n c:Nat) (l:List Ent) (h:Es w a n l) (k:Nat) (hk:k<n) (hn:n≤140737488351232) :
 Calls Tryz.prog 106 #[.slice a n c,.int .i64 (k:Int)] w fun e w'=>e=.returned (.bool (gapE l k))∧w'=w:=by
 cases k with
 | zero=>
  have e1:gapE l 0=true:=rfl;rw [e1];clear h e1;go_enter Tryz.func106,Tryz.ntmps106;go_wp2;go_ret;exact ⟨rfl,rfl⟩
 | succ k=>
  rw [gapE_succ];obtain ⟨b,o,rfl,hE⟩:=h.2.resolve_left (by omega);obtain ⟨c0,_,_,_,_⟩:=ents_at hE (k:=k) (by have:=h.1;omega);obtain ⟨T,hT⟩:∃T,(atE l (k:Int)).tag=T:=⟨_,rfl⟩;rw [hT] at c0 ⊢;have hk0:(((k+1:Nat):Int)==0)=false:=by
   rw [beq_eq_false_iff_ne];omega
  have hk1:((k+1:Nat):Int)-1=(k:Int):=by omega
  have hk2:(k:Int)<(n:Int):=by omega
  have hk3:(0:Int)≤(k:Int):=by omega
  have e5:decide (T=5)=(T==5):=by rw [Bool.eq_iff_iff];simp
  rw [e5];obtain ⟨K,hK⟩:∃K:Int,K=((k+1:Nat):Int):=⟨_,rfl⟩;rw [←hK] at hk0 hk1 ⊢;have hK1:0≤K:=by omega
  have hK2:K≤140737488351232:=by omega
  clear hT hE h hK e5;go_enter Tryz.func106,Tryz.ntmps106;go_wp2;go_ret;exact ⟨rfl,rfl⟩
theorem khasRoom_any (w:World) (a:Option Addr) (n c:Nat) (l:List Ent) (h:Es w a n l) (k:Nat) (hk:k<n) (hn:n≤140737488351232) :
 Calls Tryz.prog 111 #[.slice a n c,.int .i64 (k:Int)] w fun e w'=>e=.returned (.bool (decide ((k:Int)+(if (atE l (k:Int)).tag=5 then 2 else 1)≤(n:Int))))∧w'=w:=by
 obtain ⟨b,o,rfl,hE⟩:=h.2.resolve_left (by omega);obtain ⟨c0,_,_,_,_⟩:=ents_at hE (k:=k) (by have:=h.1;omega);have HN:=hide (knumbers_any w (atE l (k:Int)).tag);obtain ⟨M,hM⟩:∃M:Int,M=(if (atE l (k:Int)).tag=5 then 2 else 1):=⟨_,rfl⟩;rw [←hM] at HN ⊢;have hM1:1≤M:=by rw [hM];split <;> omega
 have hM2:M≤2:=by rw [hM];split <;> omega
 have hk2:(k:Int)<(n:Int):=by omega
 have hk3:(0:Int)≤(k:Int):=by omega
 clear hM;generalize (atE l (k:Int)).tag=T at *;clear hE h;go_enter Tryz.func111,Tryz.ntmps111;go_wp2_with fail;refine (unhide HN).mono ?_;rintro e w1 ⟨rfl,e0⟩;have e0':=e0.symm;clear e0;subst e0';go_wp2;go_ret;exact ⟨rfl,rfl⟩
theorem wrap32_eq (n:Int) (hn:-9223372036854775808≤n∧n≤9223372036854775807):(wrap64 (wrap32 n)==n)=decide (-2147483648≤n∧n≤2147483647):=by
 rw [Bool.eq_iff_iff,beq_iff_eq,decide_eq_true_eq];unfold wrap64 wrap32;omega
theorem kfits_any (w:World) (t n:Int) (hn:-9223372036854775808≤n∧n≤9223372036854775807) :
 Calls Tryz.prog 110 #[.int .i64 t,.int .i64 n] w fun e w'=>e=.returned (.bool (fitsE t n))∧w'=w:=by
 unfold fitsE
 by_cases h3:t=3
 · subst h3
   go_enter Tryz.func110,Tryz.ntmps110;go_wp2;go_ret;exact ⟨by rw [wrap32_eq n hn];rfl,rfl⟩
 · have h3':(t==3)=false:=by simpa using h3
   have h3'':(t != 3)=true:=by simpa using h3
   rw [decide_eq_true h3];clear h3;go_enter Tryz.func110,Tryz.ntmps110;go_wp2;go_ret;exact ⟨rfl,rfl⟩
theorem kisText_any (w:World) (s:List UInt8) (hs:s.length≤140737488355328) :
 Calls Tryz.prog 108 #[.string ⟨s.toArray⟩] w fun e w'=>e=.returned (.bool (textB s))∧w'=w:=by
 have hsz:(⟨s.toArray⟩:ByteArray).size=s.length:=by simp [ByteArray.size]
 have H:=hide (fun k (hk:k<s.length)=>strI s k s[k] (List.getElem?_eq_getElem hk))
 by_cases hl:255<s.length
 · have e1:textB s=false:=by
    rw [textB_eq,decide_eq_false (by omega),Bool.and_false]
   rw [e1];have hl':(255:Int)<(s.length:Int):=by omega
   clear e1 H;generalize (⟨s.toArray⟩:ByteArray)=st at *;go_enter Tryz.func108,Tryz.ntmps108;go_wp2;go_ret;exact ⟨rfl,rfl⟩
 have hl':¬(255:Int)<(s.length:Int):=by omega
 obtain ⟨T,hT⟩:∃T,T=textB s:=⟨_,rfl⟩;rw [←hT];rw [textB_eq,decide_eq_true (show s.length≤255 by omega),Bool.and_true] at hT;have HT:=hide hT;generalize (⟨s.toArray⟩:ByteArray)=st at *;clear hT;go_enter Tryz.func108,Tryz.ntmps108;go_wp2
 go_loopw [9] (fun i wr=>∃k:Nat,k≤s.length∧i=.int .i64 k∧(∀j b,j<k→s[j]?=some b→okB b=true)∧wr=w) (fun i _=>s.length-(intOf i).toNat)
 case atStart=>exact ⟨0,by omega,rfl,fun j b h=>by omega,rfl⟩
 case round=>
  obtain ⟨k,hk,rfl,hall,e0⟩:=hrel;have e0':=e0.symm;clear e0;subst e0'
  by_cases hlt:k<s.length
  · have hlt1:(k:Int)<(s.length:Int):=by omega
    have hidx:=unhide H k hlt;have hks:s[k]?=some s[k]:=List.getElem?_eq_getElem hlt;obtain ⟨b,hb⟩:∃b,b=s[k]:=⟨_,rfl⟩;rw [←hb] at hidx hks
    by_cases h1:b.toNat<33
    · have e1:Hid (T=false):=by
       rw [unhide HT];rw [List.all_eq_false];exact ⟨b,List.mem_of_getElem? hks,by unfold okB;simp;omega⟩
      have h1':(b.toNat:Int)<33:=by omega
      clear hall hks hb h1;generalize b.toNat=B at *;go_wp2;go_ret;exact ⟨by rw [unhide e1];rfl,rfl⟩
    · by_cases h2:126<b.toNat
      · have e1:Hid (T=false):=by
         rw [unhide HT];rw [List.all_eq_false];exact ⟨b,List.mem_of_getElem? hks,by unfold okB;simp;omega⟩
        have h1':¬(b.toNat:Int)<33:=by omega
        have h2':(126:Int)<(b.toNat:Int):=by omega
        clear hall hks hb h1 h2;generalize b.toNat=B at *;go_wp2;go_ret;exact ⟨by rw [unhide e1];rfl,rfl⟩
      · have HA:Hid (∀j b,j<k+1→s[j]?=some b→okB b=true):=fun j b' hj hb'=>by
         by_cases hjk:j=k
         · subst hjk
           rw [hks] at hb';injection hb' with hb'
           subst hb';unfold okB;simp;omega
         · exact hall j b' (by omega) hb'
        have h1':¬(b.toNat:Int)<33:=by omega
        have h2':¬(126:Int)<(b.toNat:Int):=by omega
        clear hall hks hb h1 h2;generalize b.toNat=B at *;go_wp2;go_roundw
        case rel=>exact ⟨k+1,by omega,by go_num,unhide HA,by first | rfl | trivial⟩
        case measure=>simp [intOf];omega
  · obtain rfl:k=s.length:=by omega
    have e1:Hid (T=true):=by
     rw [unhide HT];rw [List.all_eq_true];intro x hx;obtain ⟨j,hj⟩:=List.mem_iff_getElem?.1 hx;exact hall j x ((List.getElem?_eq_some_iff.1 hj).1) hj
    clear hall H;generalize s.length=n at *;go_wp2;go_ret;exact ⟨by rw [unhide e1];rfl,rfl⟩
theorem k3_bel (w:World) (X Y Z:Obj):Below w.heap.size w (((w.alloc X).alloc Y).alloc Z):=(two_bel w X Y).alloc (by simp;omega) _
theorem k3_mid (w:World) (X Y Z:Obj):(((w.alloc X).alloc Y).alloc Z).heap[w.heap.size+1]?=some Y:=(heap_alloc_old _ _ (by simp)).trans (heap_alloc2_new w X Y)
theorem kjust_any (w:World) (x:Ent) :
 Calls Tryz.prog 107 #[entV x] w fun e w'=>e=.returned (entV (justE x))∧Below w.heap.size w w':=by
 obtain ⟨tag,text,n,a,b⟩:=x;unfold entV;simp only
 by_cases t1:tag=1
 case pos=>
  subst t1;have e1:justE ⟨1,text,n,a,b⟩=⟨1,text,0,0,0⟩:=rfl;rw [e1];simp only;clear e1;generalize (⟨text.toArray⟩:ByteArray)=st at *;go_enter Tryz.func107,Tryz.ntmps107;go_wp2;refine bodyPost_ret (v:=.agg #[.int .i64 1,.string st,.int .i64 0,.int .i64 0,.int .i64 0]) ?_ rfl ⟨rfl,k3_bel w _ _ _⟩;exact results_cell_row Tryz.results107 _ _ (w.heap.size+1) 55 _ (0,0) _ rfl (k3_mid w _ _ _) Tryz.underlying55 rfl sizeEnt
 by_cases t3:tag=3
 case pos=>
  subst t3;have e1:justE ⟨3,text,n,a,b⟩=⟨3,[],n,0,0⟩:=rfl;rw [e1];simp only;clear e1;generalize (⟨text.toArray⟩:ByteArray)=st at *;go_enter Tryz.func107,Tryz.ntmps107;go_wp2;refine bodyPost_ret (v:=.agg #[.int .i64 3,.string ⟨#[]⟩,.int .i64 n,.int .i64 0,.int .i64 0]) ?_ rfl ⟨rfl,k3_bel w _ _ _⟩;exact results_cell_row Tryz.results107 _ _ (w.heap.size+1) 55 _ (0,0) _ rfl (k3_mid w _ _ _) Tryz.underlying55 rfl sizeEnt
 by_cases t5:tag=5
 case pos=>
  subst t5;have e1:justE ⟨5,text,n,a,b⟩=⟨5,[],n,0,0⟩:=rfl;rw [e1];simp only;clear e1;generalize (⟨text.toArray⟩:ByteArray)=st at *;go_enter Tryz.func107,Tryz.ntmps107;go_wp2;refine bodyPost_ret (v:=.agg #[.int .i64 5,.string ⟨#[]⟩,.int .i64 n,.int .i64 0,.int .i64 0]) ?_ rfl ⟨rfl,k3_bel w _ _ _⟩;exact results_cell_row Tryz.results107 _ _ (w.heap.size+1) 55 _ (0,0) _ rfl (k3_mid w _ _ _) Tryz.underlying55 rfl sizeEnt
 by_cases t9:tag=9
 case pos=>
  subst t9;have e1:justE ⟨9,text,n,a,b⟩=⟨9,[],0,a,b⟩:=rfl;rw [e1];simp only;clear e1;generalize (⟨text.toArray⟩:ByteArray)=st at *;go_enter Tryz.func107,Tryz.ntmps107;go_wp2;refine bodyPost_ret (v:=.agg #[.int .i64 9,.string ⟨#[]⟩,.int .i64 0,.int .i64 a,.int .i64 b]) ?_ rfl ⟨rfl,k3_bel w _ _ _⟩;exact results_cell_row Tryz.results107 _ _ (w.heap.size+1) 55 _ (0,0) _ rfl (k3_mid w _ _ _) Tryz.underlying55 rfl sizeEnt
 by_cases t10:tag=10
 case pos=>
  subst t10;have e1:justE ⟨10,text,n,a,b⟩=⟨10,[],0,a,b⟩:=rfl;rw [e1];simp only;clear e1;generalize (⟨text.toArray⟩:ByteArray)=st at *;go_enter Tryz.func107,Tryz.ntmps107;go_wp2;refine bodyPost_ret (v:=.agg #[.int .i64 10,.string ⟨#[]⟩,.int .i64 0,.int .i64 a,.int .i64 b]) ?_ rfl ⟨rfl,k3_bel w _ _ _⟩;exact results_cell_row Tryz.results107 _ _ (w.heap.size+1) 55 _ (0,0) _ rfl (k3_mid w _ _ _) Tryz.underlying55 rfl sizeEnt
 by_cases t12:tag=12
 case pos=>
  subst t12;have e1:justE ⟨12,text,n,a,b⟩=⟨12,[],0,a,b⟩:=rfl;rw [e1];simp only;clear e1;generalize (⟨text.toArray⟩:ByteArray)=st at *;go_enter Tryz.func107,Tryz.ntmps107;go_wp2;refine bodyPost_ret (v:=.agg #[.int .i64 12,.string ⟨#[]⟩,.int .i64 0,.int .i64 a,.int .i64 b]) ?_ rfl ⟨rfl,k3_bel w _ _ _⟩;exact results_cell_row Tryz.results107 _ _ (w.heap.size+1) 55 _ (0,0) _ rfl (k3_mid w _ _ _) Tryz.underlying55 rfl sizeEnt
 by_cases t7:tag=7
 case pos=>
  subst t7;have e1:justE ⟨7,text,n,a,b⟩=⟨7,[],0,a,0⟩:=rfl;rw [e1];simp only;clear e1;generalize (⟨text.toArray⟩:ByteArray)=st at *;go_enter Tryz.func107,Tryz.ntmps107;go_wp2;refine bodyPost_ret (v:=.agg #[.int .i64 7,.string ⟨#[]⟩,.int .i64 0,.int .i64 a,.int .i64 0]) ?_ rfl ⟨rfl,k3_bel w _ _ _⟩;exact results_cell_row Tryz.results107 _ _ (w.heap.size+1) 55 _ (0,0) _ rfl (k3_mid w _ _ _) Tryz.underlying55 rfl sizeEnt
 have e1:justE ⟨tag,text,n,a,b⟩=ent0:=by
  unfold justE;simp only;rw [if_neg t1,if_neg (by omega),if_neg (by omega),if_neg t7]
 rw [e1];unfold ent0;simp only;have b1:(tag==1)=false:=by simpa using t1
 have b3:(tag==3)=false:=by simpa using t3
 have b5:(tag==5)=false:=by simpa using t5
 have b9:(tag==9)=false:=by simpa using t9
 have b10:(tag==10)=false:=by simpa using t10
 have b12:(tag==12)=false:=by simpa using t12
 have b7:(tag==7)=false:=by simpa using t7
 clear e1 t1 t3 t5 t7 t9 t10 t12;generalize (⟨text.toArray⟩:ByteArray)=st at *;go_enter Tryz.func107,Tryz.ntmps107;go_wp2;refine bodyPost_ret (v:=.agg #[.int .i64 0,.string ⟨#[]⟩,.int .i64 0,.int .i64 0,.int .i64 0]) ?_ rfl ⟨rfl,k3_bel w _ _ _⟩;exact results_cell_row Tryz.results107 _ _ (w.heap.size+1) 55 _ (0,0) _ rfl (k3_mid w _ _ _) Tryz.underlying55 rfl sizeEnt
theorem kleads_any (w:World) (a:Option Addr) (n c:Nat) (l:List Ent) (h:Es w a n l) (x:Ent) (hx:EntFit x) (hn:n≤140737488351232) :
 Calls Tryz.prog 109 #[.slice a n c,entV x] w fun e w'=>e=.returned (.bool (leadsE l x))∧Below w.heap.size w w':=by
 have HA:Hid (∀W,Below w.heap.size w W→Calls Tryz.prog 134 #[.slice a n c,.int .i64 x.a] W fun e w'=>e=.returned (.int .i64 (tagE l x.a))∧w'=W):=fun W f=>ktagAt_any W a n c l (h.below f) x.a hx.2.2.1 hn
 have HB:Hid (∀W,Below w.heap.size w W→Calls Tryz.prog 134 #[.slice a n c,.int .i64 x.b] W fun e w'=>e=.returned (.int .i64 (tagE l x.b))∧w'=W):=fun W f=>ktagAt_any W a n c l (h.below f) x.b hx.2.2.2 hn
 unfold leadsE;generalize tagE l x.a=TA at *;generalize tagE l x.b=TB at *;obtain ⟨tag,text,nn,aa,bb⟩:=x;unfold entV;simp only at HA HB ⊢;clear h hx;have dec:∀(x y:Int),decide (x=y)=(x==y):=fun x y=>by rw [Bool.eq_iff_iff];simp
 simp only [dec];have b0:Below w.heap.size w (w.alloc (.cells #[.int .i64 tag,.string ⟨text.toArray⟩,.int .i64 nn,.int .i64 aa,.int .i64 bb] 55)):=(Below.refl _ _).alloc (Nat.le_refl _) _;have B0:=hide b0;clear b0 dec;generalize (⟨text.toArray⟩:ByteArray)=st at *
 by_cases t9:tag=9
 case pos=>
  subst t9;rw [if_pos (by omega)]
  by_cases h7:TA=7
  · subst h7
    go_enter Tryz.func109,Tryz.ntmps109;go_wp2_with fail;refine (unhide HA _ (unhide B0)).mono ?_;rintro e w1 ⟨rfl,e0⟩;have e0':=e0.symm;clear e0;subst e0';go_wp2_with fail;refine (unhide HB _ (unhide B0)).mono ?_;rintro e w1 ⟨rfl,e0⟩;have e0':=e0.symm;clear e0;subst e0';go_wp2;go_ret;exact ⟨rfl,unhide B0⟩
  · have h7':(TA==7)=false:=by simpa using h7
    rw [h7',Bool.false_and];clear h7;go_enter Tryz.func109,Tryz.ntmps109;go_wp2_with fail;refine (unhide HA _ (unhide B0)).mono ?_;rintro e w1 ⟨rfl,e0⟩;have e0':=e0.symm;clear e0;subst e0';go_wp2;go_ret;exact ⟨rfl,unhide B0⟩
 by_cases t10:tag=10
 case pos=>
  subst t10;rw [if_pos (by omega)]
  by_cases h7:TA=7
  · subst h7
    go_enter Tryz.func109,Tryz.ntmps109;go_wp2_with fail;refine (unhide HA _ (unhide B0)).mono ?_;rintro e w1 ⟨rfl,e0⟩;have e0':=e0.symm;clear e0;subst e0';go_wp2_with fail;refine (unhide HB _ (unhide B0)).mono ?_;rintro e w1 ⟨rfl,e0⟩;have e0':=e0.symm;clear e0;subst e0';go_wp2;go_ret;exact ⟨rfl,unhide B0⟩
  · have h7':(TA==7)=false:=by simpa using h7
    rw [h7',Bool.false_and];clear h7;go_enter Tryz.func109,Tryz.ntmps109;go_wp2_with fail;refine (unhide HA _ (unhide B0)).mono ?_;rintro e w1 ⟨rfl,e0⟩;have e0':=e0.symm;clear e0;subst e0';go_wp2;go_ret;exact ⟨rfl,unhide B0⟩
 rw [if_neg (by omega)]
 by_cases t12:tag=12
 case pos=>
  subst t12;rw [if_pos rfl]
  by_cases h1:TB=1
  · subst h1
    go_enter Tryz.func109,Tryz.ntmps109;go_wp2_with fail;refine (unhide HB _ (unhide B0)).mono ?_;rintro e w1 ⟨rfl,e0⟩;have e0':=e0.symm;clear e0;subst e0';go_wp2_with fail;refine (unhide HA _ (unhide B0)).mono ?_;rintro e w1 ⟨rfl,e0⟩;have e0':=e0.symm;clear e0;subst e0';go_wp2;go_ret;exact ⟨rfl,unhide B0⟩
  · have h1':(TB==1)=false:=by simpa using h1
    rw [h1',Bool.false_and];clear h1;go_enter Tryz.func109,Tryz.ntmps109;go_wp2_with fail;refine (unhide HB _ (unhide B0)).mono ?_;rintro e w1 ⟨rfl,e0⟩;have e0':=e0.symm;clear e0;subst e0';go_wp2;go_ret;exact ⟨rfl,unhide B0⟩
 rw [if_neg t12]
 by_cases t7:tag=7
 case pos=>
  subst t7;rw [if_pos rfl];go_enter Tryz.func109,Tryz.ntmps109;go_wp2_with fail;refine (unhide HA _ (unhide B0)).mono ?_;rintro e w1 ⟨rfl,e0⟩;have e0':=e0.symm;clear e0;subst e0';go_wp2;go_ret;exact ⟨rfl,unhide B0⟩
 rw [if_neg t7];have b9:(tag==9)=false:=by simpa using t9
 have b10:(tag==10)=false:=by simpa using t10
 have b12:(tag==12)=false:=by simpa using t12
 have b7:(tag==7)=false:=by simpa using t7
 clear t7 t9 t10 t12;go_enter Tryz.func109,Tryz.ntmps109;go_wp2;go_ret;exact ⟨rfl,unhide B0⟩
theorem kisRight_one (w:World) (a:Option Addr) (n c:Nat) (l:List Ent) (h:Es w a n l) (k:Nat) (hk:k<n) (hn:n≤140737488351232) (hf:EntFit (atE l (k:Int))) (ht:(atE l (k:Int)).text.length≤140737488355328)
 (b1 b2 b3 b4 b5 b6:Bool) (h1:((atE l (k:Int)).tag != 0)=b1) (h2:decide (atE l (k:Int)=justE (atE l (k:Int)))=b2) (h3:textB (atE l (k:Int)).text=b3) (h4:leadsE l (atE l (k:Int))=b4) (h5:fitsE (atE l (k:Int)).tag (atE l (k:Int)).n=b5)
 (h6:decide ((k:Int)+(if (atE l (k:Int)).tag=5 then 2 else 1)≤(n:Int))=b6) (hg:gapE l k=false) :
 Calls Tryz.prog 82 #[.slice a n c,.int .i64 (k:Int)] w fun e w'=>e=.returned (.bool (b1&&b2&&b3&&b4&&b5&&b6))∧Below w.heap.size w w':=by
 obtain ⟨b,o,rfl,hE⟩:=h.2.resolve_left (by omega);obtain ⟨c0,c1,c2,c3,c4⟩:=ents_at hE (k:=k) (by have:=h.1;omega);obtain ⟨x,hx⟩:∃x,atE l (k:Int)=x:=⟨_,rfl⟩;have G:Hid (∀W,Below w.heap.size w W→Calls Tryz.prog 106 #[.slice (some ⟨b,o,none⟩) n c,.int .i64 (k:Int)] W fun e w'=>e=.returned (.bool false)∧w'=W):=fun W f=>by
  have:=kisGap_any W _ n c l (h.below f) k hk hn;rw [hg] at this;exact this
 have J2:∀W,(binOp .eql 55 (entV x) (entV (justE x))).run Tryz.prog W=.ok (.bool b2) W:=fun W=>by
  have:=ent_cmp W x (justE x);rw [←hx,h2] at this;rw [←hx];exact this
 have J:Hid (∀W,Calls Tryz.prog 107 #[entV x] W fun e w'=>e=.returned (entV (justE x))∧Below W.heap.size W w'):=fun W=>kjust_any W x
 have X:Hid (∀W,Calls Tryz.prog 108 #[.string ⟨x.text.toArray⟩] W fun e w'=>e=.returned (.bool b3)∧w'=W):=fun W=>by
  have:=kisText_any W (atE l (k:Int)).text ht;rw [h3,hx] at this;exact this
 have L:Hid (∀W,Below w.heap.size w W→Calls Tryz.prog 109 #[.slice (some ⟨b,o,none⟩) n c,entV x] W fun e w'=>e=.returned (.bool b4)∧Below W.heap.size W w'):=fun W f=>by
  have:=kleads_any W _ n c l (h.below f) (atE l (k:Int)) hf hn;rw [h4,hx] at this;exact this
 have F:Hid (∀W,Calls Tryz.prog 110 #[.int .i64 x.tag,.int .i64 x.n] W fun e w'=>e=.returned (.bool b5)∧w'=W):=fun W=>by
  have:=kfits_any W (atE l (k:Int)).tag (atE l (k:Int)).n hf.2.1;rw [h5,hx] at this;exact this
 have R:Hid (∀W,Below w.heap.size w W→Calls Tryz.prog 111 #[.slice (some ⟨b,o,none⟩) n c,.int .i64 (k:Int)] W fun e w'=>e=.returned (.bool b6)∧w'=W):=fun W f=>by
  have:=khasRoom_any W _ n c l (h.below f) k hk hn;rw [h6] at this;exact this
 rw [hx] at c0 c1 c2 c3 c4 h1;obtain ⟨tag,text,nn,aa,bb⟩:=x;generalize justE ⟨tag,text,nn,aa,bb⟩=y at *;obtain ⟨jt,js,jn,ja,jb⟩:=y;simp only [entV] at J J2 L X F c0 c1 c2 c3 c4 h1;generalize (⟨text.toArray⟩:ByteArray)=st at *;generalize (⟨js.toArray⟩:ByteArray)=sj at *;clear hE h hx hf ht h2 h3 h4 h5 h6 hg;have hk2:(k:Int)<(n:Int):=by omega
 have hk3:(0:Int)≤(k:Int):=by omega
 have b0:Below w.heap.size w (w.alloc (.cells #[.int .i64 tag,.string st,.int .i64 nn,.int .i64 aa,.int .i64 bb] 55)):=(Below.refl _ _).alloc (Nat.le_refl _) _;have hX:=heap_alloc_last w (.cells #[.int .i64 tag,.string st,.int .i64 nn,.int .i64 aa,.int .i64 bb] 55);have G1:=hide (unhide G _ b0);have HX:=hide hX;have B0:=hide b0;clear G b0 hX hk;go_enter Tryz.func82,Tryz.ntmps82;go_wp2_with fail;refine (unhide G1).mono ?_;rintro e w1 ⟨rfl,e0⟩;have e0':=e0.symm;clear e0;subst e0';clear G1 c0 c1 c2 c3 c4;go_wp2;generalize w.alloc (.cells #[.int .i64 tag,.string st,.int .i64 nn,.int .i64 aa,.int .i64 bb] 55)=w1 at *;have KC:∀W,Below w1.heap.size w1 W→W.cell? ⟨w.heap.size,0,none⟩=some (.int .i64 tag)∧W.cell? ⟨w.heap.size,1,none⟩=some (.string st)∧W.cell? ⟨w.heap.size,2,none⟩=some (.int .i64 nn)∧W.cell? ⟨w.heap.size,3,none⟩=some (.int .i64 aa)∧W.cell? ⟨w.heap.size,4,none⟩=some (.int .i64 bb):=fun W f=>by
  have hc:=(f.block _ (lt_of_heap (unhide HX))).trans (unhide HX);exact ⟨by rw [cell_of_row _ _ _ _ _ _ hc];rfl,by rw [cell_of_row _ _ _ _ _ _ hc];rfl,by rw [cell_of_row _ _ _ _ _ _ hc];rfl,by rw [cell_of_row _ _ _ _ _ _ hc];rfl,by rw [cell_of_row _ _ _ _ _ _ hc];rfl⟩
 obtain ⟨SS,hSS⟩:∃SS:World→Prop,SS=fun W=>Hid (Below w1.heap.size w1 W)∧W.cell? ⟨w.heap.size,0,none⟩=some (.int .i64 tag)∧W.cell? ⟨w.heap.size,1,none⟩=some (.string st)∧W.cell? ⟨w.heap.size,2,none⟩=some (.int .i64 nn)∧W.cell? ⟨w.heap.size,3,none⟩=some (.int .i64 aa)∧W.cell? ⟨w.heap.size,4,none⟩=some (.int .i64 bb):=⟨_,rfl⟩
 have KI:Hid (∀W,Below w1.heap.size w1 W→SS W):=fun W f=>by rw [hSS];exact ⟨f,KC W f⟩
 have KE:∀W,SS W→W.cell? ⟨w.heap.size,0,none⟩=some (.int .i64 tag)∧W.cell? ⟨w.heap.size,1,none⟩=some (.string st)∧W.cell? ⟨w.heap.size,2,none⟩=some (.int .i64 nn)∧W.cell? ⟨w.heap.size,3,none⟩=some (.int .i64 aa)∧W.cell? ⟨w.heap.size,4,none⟩=some (.int .i64 bb):=fun W h=>by
  rw [hSS] at h;exact h.2
 have KW:Hid (∀W,SS W→Below w1.heap.size w1 W):=fun W h=>by
  rw [hSS] at h;exact h.1
 have KB:Hid (∀W,SS W→Below w.heap.size w W):=fun W h=>(unhide B0).trans ((unhide KW W h).mono (unhide B0).size)
 have KS:Hid (∀W W',SS W→Below W.heap.size W W'→SS W'):=fun W W' h f=>unhide KI W' ((unhide KW W h).trans (f.mono (unhide KW W h).size))
 clear hSS KC HX;have KE':=hide KE;clear KE;refine wp_region_seq SS (by kernel_rfl) (by kernel_rfl) (unhide KI _ (Below.drew (Below.refl _ _))) ?_;have h1':(tag==0)=!b1:=by
  rw [←h1];cases hq:(tag==0) <;> simp [bne,hq]
 cases b1
 case false=>
  repeat (first
   | (refine SeqDo.skips (by rfl) ?_;simp only [Act.put,List.setIfInBounds_toArray,List.set_cons_zero,List.set_cons_succ])
   | (refine SeqDo.yields (v:=?_) (by rfl) ?_ ?_;rotate_left;(focus ((intro W hSW;obtain ⟨q0,q1,q2,q3,q4⟩:=unhide KE' W hSW;go_simp) <;> with_reducible rfl));simp only [Act.put,List.setIfInBounds_toArray,List.set_cons_zero,List.set_cons_succ])
   | (refine SeqDo.does (v:=.agg #[.int .i64 jt,.string sj,.int .i64 jn,.int .i64 ja,.int .i64 jb]) (by rfl) (fun W hSW KK hKK=>?_) ?_;(focus (go_simp;go_wp2_with (go_at_call 107;refine (unhide J _).mono ?_;rintro e W' ⟨rfl,fJ⟩);exact hKK.out _ (unhide KS _ _ hSW fJ)));simp only [Act.put,List.setIfInBounds_toArray,List.set_cons_zero,List.set_cons_succ])
   | (refine SeqDo.does (v:=.bool b3) (by rfl) (fun W hSW KK hKK=>?_) ?_;(focus (go_simp;go_wp2_with (go_at_call 108;refine (unhide X _).mono ?_;rintro e W' ⟨rfl,rfl⟩);exact hKK.out _ hSW));simp only [Act.put,List.setIfInBounds_toArray,List.set_cons_zero,List.set_cons_succ])
   | (refine SeqDo.does (v:=.bool b4) (by rfl) (fun W hSW KK hKK=>?_) ?_;(focus (go_simp;go_wp2_with (go_at_call 109;refine (unhide L _ (unhide KB _ hSW)).mono ?_;rintro e W' ⟨rfl,fJ⟩);exact hKK.out _ (unhide KS _ _ hSW fJ)));simp only [Act.put,List.setIfInBounds_toArray,List.set_cons_zero,List.set_cons_succ])
   | (refine SeqDo.does (v:=.bool b5) (by rfl) (fun W hSW KK hKK=>?_) ?_;(focus (go_simp;go_wp2_with (go_at_call 110;refine (unhide F _).mono ?_;rintro e W' ⟨rfl,rfl⟩);exact hKK.out _ hSW));simp only [Act.put,List.setIfInBounds_toArray,List.set_cons_zero,List.set_cons_succ])
   | (refine SeqDo.does (v:=.bool b6) (by rfl) (fun W hSW KK hKK=>?_) ?_;(focus (go_simp;go_wp2_with (go_at_call 111;refine (unhide R _ (unhide KB _ hSW)).mono ?_;rintro e W' ⟨rfl,rfl⟩);exact hKK.out _ hSW));simp only [Act.put,List.setIfInBounds_toArray,List.set_cons_zero,List.set_cons_succ]))
  intro W hSW;go_wp2;go_ret;exact ⟨rfl,unhide KB _ hSW⟩
 cases b2
 case false=>
  repeat (first
   | (refine SeqDo.skips (by rfl) ?_;simp only [Act.put,List.setIfInBounds_toArray,List.set_cons_zero,List.set_cons_succ])
   | (refine SeqDo.yields (v:=?_) (by rfl) ?_ ?_;rotate_left;(focus ((intro W hSW;obtain ⟨q0,q1,q2,q3,q4⟩:=unhide KE' W hSW;go_simp) <;> with_reducible rfl));simp only [Act.put,List.setIfInBounds_toArray,List.set_cons_zero,List.set_cons_succ])
   | (refine SeqDo.does (v:=.agg #[.int .i64 jt,.string sj,.int .i64 jn,.int .i64 ja,.int .i64 jb]) (by rfl) (fun W hSW KK hKK=>?_) ?_;(focus (go_simp;go_wp2_with (go_at_call 107;refine (unhide J _).mono ?_;rintro e W' ⟨rfl,fJ⟩);exact hKK.out _ (unhide KS _ _ hSW fJ)));simp only [Act.put,List.setIfInBounds_toArray,List.set_cons_zero,List.set_cons_succ])
   | (refine SeqDo.does (v:=.bool b3) (by rfl) (fun W hSW KK hKK=>?_) ?_;(focus (go_simp;go_wp2_with (go_at_call 108;refine (unhide X _).mono ?_;rintro e W' ⟨rfl,rfl⟩);exact hKK.out _ hSW));simp only [Act.put,List.setIfInBounds_toArray,List.set_cons_zero,List.set_cons_succ])
   | (refine SeqDo.does (v:=.bool b4) (by rfl) (fun W hSW KK hKK=>?_) ?_;(focus (go_simp;go_wp2_with (go_at_call 109;refine (unhide L _ (unhide KB _ hSW)).mono ?_;rintro e W' ⟨rfl,fJ⟩);exact hKK.out _ (unhide KS _ _ hSW fJ)));simp only [Act.put,List.setIfInBounds_toArray,List.set_cons_zero,List.set_cons_succ])
   | (refine SeqDo.does (v:=.bool b5) (by rfl) (fun W hSW KK hKK=>?_) ?_;(focus (go_simp;go_wp2_with (go_at_call 110;refine (unhide F _).mono ?_;rintro e W' ⟨rfl,rfl⟩);exact hKK.out _ hSW));simp only [Act.put,List.setIfInBounds_toArray,List.set_cons_zero,List.set_cons_succ])
   | (refine SeqDo.does (v:=.bool b6) (by rfl) (fun W hSW KK hKK=>?_) ?_;(focus (go_simp;go_wp2_with (go_at_call 111;refine (unhide R _ (unhide KB _ hSW)).mono ?_;rintro e W' ⟨rfl,rfl⟩);exact hKK.out _ hSW));simp only [Act.put,List.setIfInBounds_toArray,List.set_cons_zero,List.set_cons_succ]))
  intro W hSW;go_wp2;go_ret;exact ⟨rfl,unhide KB _ hSW⟩
 cases b3
 case false=>
  repeat (first
   | (refine SeqDo.skips (by rfl) ?_;simp only [Act.put,List.setIfInBounds_toArray,List.set_cons_zero,List.set_cons_succ])
   | (refine SeqDo.yields (v:=?_) (by rfl) ?_ ?_;rotate_left;(focus ((intro W hSW;obtain ⟨q0,q1,q2,q3,q4⟩:=unhide KE' W hSW;go_simp) <;> with_reducible rfl));simp only [Act.put,List.setIfInBounds_toArray,List.set_cons_zero,List.set_cons_succ])
   | (refine SeqDo.does (v:=.agg #[.int .i64 jt,.string sj,.int .i64 jn,.int .i64 ja,.int .i64 jb]) (by rfl) (fun W hSW KK hKK=>?_) ?_;(focus (go_simp;go_wp2_with (go_at_call 107;refine (unhide J _).mono ?_;rintro e W' ⟨rfl,fJ⟩);exact hKK.out _ (unhide KS _ _ hSW fJ)));simp only [Act.put,List.setIfInBounds_toArray,List.set_cons_zero,List.set_cons_succ])
   | (refine SeqDo.does (v:=.bool false) (by rfl) (fun W hSW KK hKK=>?_) ?_;(focus (go_simp;go_wp2_with (go_at_call 108;refine (unhide X _).mono ?_;rintro e W' ⟨rfl,rfl⟩);exact hKK.out _ hSW));simp only [Act.put,List.setIfInBounds_toArray,List.set_cons_zero,List.set_cons_succ])
   | (refine SeqDo.does (v:=.bool b4) (by rfl) (fun W hSW KK hKK=>?_) ?_;(focus (go_simp;go_wp2_with (go_at_call 109;refine (unhide L _ (unhide KB _ hSW)).mono ?_;rintro e W' ⟨rfl,fJ⟩);exact hKK.out _ (unhide KS _ _ hSW fJ)));simp only [Act.put,List.setIfInBounds_toArray,List.set_cons_zero,List.set_cons_succ])
   | (refine SeqDo.does (v:=.bool b5) (by rfl) (fun W hSW KK hKK=>?_) ?_;(focus (go_simp;go_wp2_with (go_at_call 110;refine (unhide F _).mono ?_;rintro e W' ⟨rfl,rfl⟩);exact hKK.out _ hSW));simp only [Act.put,List.setIfInBounds_toArray,List.set_cons_zero,List.set_cons_succ])
   | (refine SeqDo.does (v:=.bool b6) (by rfl) (fun W hSW KK hKK=>?_) ?_;(focus (go_simp;go_wp2_with (go_at_call 111;refine (unhide R _ (unhide KB _ hSW)).mono ?_;rintro e W' ⟨rfl,rfl⟩);exact hKK.out _ hSW));simp only [Act.put,List.setIfInBounds_toArray,List.set_cons_zero,List.set_cons_succ]))
  intro W hSW;go_wp2;go_ret;exact ⟨rfl,unhide KB _ hSW⟩
 cases b4
 case false=>
  repeat (first
   | (refine SeqDo.skips (by rfl) ?_;simp only [Act.put,List.setIfInBounds_toArray,List.set_cons_zero,List.set_cons_succ])
   | (refine SeqDo.yields (v:=?_) (by rfl) ?_ ?_;rotate_left;(focus ((intro W hSW;obtain ⟨q0,q1,q2,q3,q4⟩:=unhide KE' W hSW;go_simp) <;> with_reducible rfl));simp only [Act.put,List.setIfInBounds_toArray,List.set_cons_zero,List.set_cons_succ])
   | (refine SeqDo.does (v:=.agg #[.int .i64 jt,.string sj,.int .i64 jn,.int .i64 ja,.int .i64 jb]) (by rfl) (fun W hSW KK hKK=>?_) ?_;(focus (go_simp;go_wp2_with (go_at_call 107;refine (unhide J _).mono ?_;rintro e W' ⟨rfl,fJ⟩);exact hKK.out _ (unhide KS _ _ hSW fJ)));simp only [Act.put,List.setIfInBounds_toArray,List.set_cons_zero,List.set_cons_succ])
   | (refine SeqDo.does (v:=.bool true) (by rfl) (fun W hSW KK hKK=>?_) ?_;(focus (go_simp;go_wp2_with (go_at_call 108;refine (unhide X _).mono ?_;rintro e W' ⟨rfl,rfl⟩);exact hKK.out _ hSW));simp only [Act.put,List.setIfInBounds_toArray,List.set_cons_zero,List.set_cons_succ])
   | (refine SeqDo.does (v:=.bool false) (by rfl) (fun W hSW KK hKK=>?_) ?_;(focus (go_simp;go_wp2_with (go_at_call 109;refine (unhide L _ (unhide KB _ hSW)).mono ?_;rintro e W' ⟨rfl,fJ⟩);exact hKK.out _ (unhide KS _ _ hSW fJ)));simp only [Act.put,List.setIfInBounds_toArray,List.set_cons_zero,List.set_cons_succ])
   | (refine SeqDo.does (v:=.bool b5) (by rfl) (fun W hSW KK hKK=>?_) ?_;(focus (go_simp;go_wp2_with (go_at_call 110;refine (unhide F _).mono ?_;rintro e W' ⟨rfl,rfl⟩);exact hKK.out _ hSW));simp only [Act.put,List.setIfInBounds_toArray,List.set_cons_zero,List.set_cons_succ])
   | (refine SeqDo.does (v:=.bool b6) (by rfl) (fun W hSW KK hKK=>?_) ?_;(focus (go_simp;go_wp2_with (go_at_call 111;refine (unhide R _ (unhide KB _ hSW)).mono ?_;rintro e W' ⟨rfl,rfl⟩);exact hKK.out _ hSW));simp only [Act.put,List.setIfInBounds_toArray,List.set_cons_zero,List.set_cons_succ]))
  intro W hSW;go_wp2;go_ret;exact ⟨rfl,unhide KB _ hSW⟩
 cases b5
 case false=>
  repeat (first
   | (refine SeqDo.skips (by rfl) ?_;simp only [Act.put,List.setIfInBounds_toArray,List.set_cons_zero,List.set_cons_succ])
   | (refine SeqDo.yields (v:=?_) (by rfl) ?_ ?_;rotate_left;(focus ((intro W hSW;obtain ⟨q0,q1,q2,q3,q4⟩:=unhide KE' W hSW;go_simp) <;> with_reducible rfl));simp only [Act.put,List.setIfInBounds_toArray,List.set_cons_zero,List.set_cons_succ])
   | (refine SeqDo.does (v:=.agg #[.int .i64 jt,.string sj,.int .i64 jn,.int .i64 ja,.int .i64 jb]) (by rfl) (fun W hSW KK hKK=>?_) ?_;(focus (go_simp;go_wp2_with (go_at_call 107;refine (unhide J _).mono ?_;rintro e W' ⟨rfl,fJ⟩);exact hKK.out _ (unhide KS _ _ hSW fJ)));simp only [Act.put,List.setIfInBounds_toArray,List.set_cons_zero,List.set_cons_succ])
   | (refine SeqDo.does (v:=.bool true) (by rfl) (fun W hSW KK hKK=>?_) ?_;(focus (go_simp;go_wp2_with (go_at_call 108;refine (unhide X _).mono ?_;rintro e W' ⟨rfl,rfl⟩);exact hKK.out _ hSW));simp only [Act.put,List.setIfInBounds_toArray,List.set_cons_zero,List.set_cons_succ])
   | (refine SeqDo.does (v:=.bool true) (by rfl) (fun W hSW KK hKK=>?_) ?_;(focus (go_simp;go_wp2_with (go_at_call 109;refine (unhide L _ (unhide KB _ hSW)).mono ?_;rintro e W' ⟨rfl,fJ⟩);exact hKK.out _ (unhide KS _ _ hSW fJ)));simp only [Act.put,List.setIfInBounds_toArray,List.set_cons_zero,List.set_cons_succ])
   | (refine SeqDo.does (v:=.bool false) (by rfl) (fun W hSW KK hKK=>?_) ?_;(focus (go_simp;go_wp2_with (go_at_call 110;refine (unhide F _).mono ?_;rintro e W' ⟨rfl,rfl⟩);exact hKK.out _ hSW));simp only [Act.put,List.setIfInBounds_toArray,List.set_cons_zero,List.set_cons_succ])
   | (refine SeqDo.does (v:=.bool b6) (by rfl) (fun W hSW KK hKK=>?_) ?_;(focus (go_simp;go_wp2_with (go_at_call 111;refine (unhide R _ (unhide KB _ hSW)).mono ?_;rintro e W' ⟨rfl,rfl⟩);exact hKK.out _ hSW));simp only [Act.put,List.setIfInBounds_toArray,List.set_cons_zero,List.set_cons_succ]))
  intro W hSW;go_wp2;go_ret;exact ⟨rfl,unhide KB _ hSW⟩
 cases b6
 case false=>
  repeat (first
   | (refine SeqDo.skips (by rfl) ?_;simp only [Act.put,List.setIfInBounds_toArray,List.set_cons_zero,List.set_cons_succ])
   | (refine SeqDo.yields (v:=?_) (by rfl) ?_ ?_;rotate_left;(focus ((intro W hSW;obtain ⟨q0,q1,q2,q3,q4⟩:=unhide KE' W hSW;go_simp) <;> with_reducible rfl));simp only [Act.put,List.setIfInBounds_toArray,List.set_cons_zero,List.set_cons_succ])
   | (refine SeqDo.does (v:=.agg #[.int .i64 jt,.string sj,.int .i64 jn,.int .i64 ja,.int .i64 jb]) (by rfl) (fun W hSW KK hKK=>?_) ?_;(focus (go_simp;go_wp2_with (go_at_call 107;refine (unhide J _).mono ?_;rintro e W' ⟨rfl,fJ⟩);exact hKK.out _ (unhide KS _ _ hSW fJ)));simp only [Act.put,List.setIfInBounds_toArray,List.set_cons_zero,List.set_cons_succ])
   | (refine SeqDo.does (v:=.bool true) (by rfl) (fun W hSW KK hKK=>?_) ?_;(focus (go_simp;go_wp2_with (go_at_call 108;refine (unhide X _).mono ?_;rintro e W' ⟨rfl,rfl⟩);exact hKK.out _ hSW));simp only [Act.put,List.setIfInBounds_toArray,List.set_cons_zero,List.set_cons_succ])
   | (refine SeqDo.does (v:=.bool true) (by rfl) (fun W hSW KK hKK=>?_) ?_;(focus (go_simp;go_wp2_with (go_at_call 109;refine (unhide L _ (unhide KB _ hSW)).mono ?_;rintro e W' ⟨rfl,fJ⟩);exact hKK.out _ (unhide KS _ _ hSW fJ)));simp only [Act.put,List.setIfInBounds_toArray,List.set_cons_zero,List.set_cons_succ])
   | (refine SeqDo.does (v:=.bool true) (by rfl) (fun W hSW KK hKK=>?_) ?_;(focus (go_simp;go_wp2_with (go_at_call 110;refine (unhide F _).mono ?_;rintro e W' ⟨rfl,rfl⟩);exact hKK.out _ hSW));simp only [Act.put,List.setIfInBounds_toArray,List.set_cons_zero,List.set_cons_succ])
   | (refine SeqDo.does (v:=.bool false) (by rfl) (fun W hSW KK hKK=>?_) ?_;(focus (go_simp;go_wp2_with (go_at_call 111;refine (unhide R _ (unhide KB _ hSW)).mono ?_;rintro e W' ⟨rfl,rfl⟩);exact hKK.out _ hSW));simp only [Act.put,List.setIfInBounds_toArray,List.set_cons_zero,List.set_cons_succ]))
  intro W hSW;go_wp2;go_ret;exact ⟨rfl,unhide KB _ hSW⟩
 repeat (first
  | (refine SeqDo.skips (by rfl) ?_;simp only [Act.put,List.setIfInBounds_toArray,List.set_cons_zero,List.set_cons_succ])
  | (refine SeqDo.yields (v:=?_) (by rfl) ?_ ?_;rotate_left;(focus ((intro W hSW;obtain ⟨q0,q1,q2,q3,q4⟩:=unhide KE' W hSW;go_simp) <;> with_reducible rfl));simp only [Act.put,List.setIfInBounds_toArray,List.set_cons_zero,List.set_cons_succ])
  | (refine SeqDo.does (v:=.agg #[.int .i64 jt,.string sj,.int .i64 jn,.int .i64 ja,.int .i64 jb]) (by rfl) (fun W hSW KK hKK=>?_) ?_;(focus (go_simp;go_wp2_with (go_at_call 107;refine (unhide J _).mono ?_;rintro e W' ⟨rfl,fJ⟩);exact hKK.out _ (unhide KS _ _ hSW fJ)));simp only [Act.put,List.setIfInBounds_toArray,List.set_cons_zero,List.set_cons_succ])
  | (refine SeqDo.does (v:=.bool true) (by rfl) (fun W hSW KK hKK=>?_) ?_;(focus (go_simp;go_wp2_with (go_at_call 108;refine (unhide X _).mono ?_;rintro e W' ⟨rfl,rfl⟩);exact hKK.out _ hSW));simp only [Act.put,List.setIfInBounds_toArray,List.set_cons_zero,List.set_cons_succ])
  | (refine SeqDo.does (v:=.bool true) (by rfl) (fun W hSW KK hKK=>?_) ?_;(focus (go_simp;go_wp2_with (go_at_call 109;refine (unhide L _ (unhide KB _ hSW)).mono ?_;rintro e W' ⟨rfl,fJ⟩);exact hKK.out _ (unhide KS _ _ hSW fJ)));simp only [Act.put,List.setIfInBounds_toArray,List.set_cons_zero,List.set_cons_succ])
  | (refine SeqDo.does (v:=.bool true) (by rfl) (fun W hSW KK hKK=>?_) ?_;(focus (go_simp;go_wp2_with (go_at_call 110;refine (unhide F _).mono ?_;rintro e W' ⟨rfl,rfl⟩);exact hKK.out _ hSW));simp only [Act.put,List.setIfInBounds_toArray,List.set_cons_zero,List.set_cons_succ])
  | (refine SeqDo.does (v:=.bool true) (by rfl) (fun W hSW KK hKK=>?_) ?_;(focus (go_simp;go_wp2_with (go_at_call 111;refine (unhide R _ (unhide KB _ hSW)).mono ?_;rintro e W' ⟨rfl,rfl⟩);exact hKK.out _ hSW));simp only [Act.put,List.setIfInBounds_toArray,List.set_cons_zero,List.set_cons_succ]))
 intro W hSW;go_wp2;go_ret;exact ⟨rfl,unhide KB _ hSW⟩
theorem Es.at {w:World} {a:Option Addr} {n:Nat} {l:List Ent} (h:Es w a n l) {k:Nat} (hk:k<n):l[k]?=some (atE l (k:Int)):=by
 rw [atE_nat,List.getElem?_eq_getElem (by rw [h.1];exact hk)];rfl
theorem kisRight_any (w:World) (a:Option Addr) (n c:Nat) (l:List Ent) (h:Es w a n l) (k:Nat) (hk:k<n) (hn:n≤140737488351232) (hf:(∀x∈l,x.text.length≤140737488355328)∧∀x∈l,EntFit x) :
 Calls Tryz.prog 82 #[.slice a n c,.int .i64 (k:Int)] w fun e w'=>e=.returned (.bool (rightAt l k))∧Below w.heap.size w w':=by
 have hm:=List.mem_of_getElem? (h.at hk);cases hg:gapE l k
 case false=>
  have H:=kisRight_one w a n c l h k hk hn (hf.2 _ hm) (hf.1 _ hm) _ _ _ _ _ _ rfl rfl rfl rfl rfl rfl hg;have e1:rightAt l k=(((atE l (k:Int)).tag != 0)&&decide (atE l (k:Int)=justE (atE l (k:Int)))&&textB (atE l (k:Int)).text&&leadsE l (atE l (k:Int))&&fitsE (atE l (k:Int)).tag (atE l (k:Int)).n&&decide ((k:Int)+(if (atE l (k:Int)).tag=5 then 2 else 1)≤(n:Int))):=by
   unfold rightAt;rw [if_neg (by rw [hg];simp),okE_code];have e2:((atE l (k:Int)).tag != 0)=decide ((atE l (k:Int)).tag≠0):=by
    rw [Bool.eq_iff_iff];simp
   have e3:(decide ((atE l (k:Int)).tag≠5)||decide (k+1<l.length))=decide ((k:Int)+(if (atE l (k:Int)).tag=5 then 2 else 1)≤(n:Int)):=by
    have hl:=h.1
    by_cases h5:(atE l (k:Int)).tag=5
    · rw [if_pos h5,decide_eq_false (by simpa using h5),Bool.false_or]
      exact decide_eq_decide.2 (by omega)
    · rw [if_neg h5,decide_eq_true h5,Bool.true_or]
      exact (decide_eq_true (by omega)).symm
   rw [e2,e3]
  rw [e1];exact H
 case true=>
  have e1:rightAt l k=decide (atE l (k:Int)=ent0):=by
   unfold rightAt;rw [if_pos hg]
  rw [e1];obtain ⟨b,o,rfl,hE⟩:=h.2.resolve_left (by omega);obtain ⟨c0,c1,c2,c3,c4⟩:=ents_at hE (k:=k) (by have:=h.1;omega);obtain ⟨x,hx⟩:∃x,atE l (k:Int)=x:=⟨_,rfl⟩;have G:Hid (∀W,Below w.heap.size w W→Calls Tryz.prog 106 #[.slice (some ⟨b,o,none⟩) n c,.int .i64 (k:Int)] W fun e w'=>e=.returned (.bool true)∧w'=W):=fun W f=>by
   have:=kisGap_any W _ n c l (h.below f) k hk hn;rw [hg] at this;exact this
  have J2:∀W,(binOp .eql 55 (entV x) (entV ent0)).run Tryz.prog W=.ok (.bool (decide (x=ent0))) W:=fun W=>ent_cmp W x ent0
  rw [hx] at c0 c1 c2 c3 c4 ⊢;generalize decide (x=ent0)=D at *;obtain ⟨tag,text,nn,aa,bb⟩:=x;unfold ent0 at J2;simp only [entV] at J2 c0 c1 c2 c3 c4;generalize (⟨text.toArray⟩:ByteArray)=st at *;clear hE h hx hg e1 hm;have hk2:(k:Int)<(n:Int):=by omega
  have hk3:(0:Int)≤(k:Int):=by omega
  have b0:Below w.heap.size w (w.alloc (.cells #[.int .i64 tag,.string st,.int .i64 nn,.int .i64 aa,.int .i64 bb] 55)):=(Below.refl _ _).alloc (Nat.le_refl _) _;have G1:=hide (unhide G _ b0);have B0:=hide b0;clear G b0 hk;go_enter Tryz.func82,Tryz.ntmps82;go_wp2_with fail;refine (unhide G1).mono ?_;rintro e w1 ⟨rfl,e0⟩;have e0':=e0.symm;clear e0;subst e0';clear G1 c0 c1 c2 c3 c4;go_wp2;go_ret;exact ⟨rfl,unhide B0⟩
theorem kCheck_any (w:World) (a:Option Addr) (n c:Nat) (l:List Ent) (h:Es w a n l) (hn:n≤140737488351232) (hf:(∀x∈l,x.text.length≤140737488355328)∧∀x∈l,EntFit x) :
 Calls Tryz.prog 49 #[.slice a n c] w fun e w'=>e=.returned (.int .i64 (if checkP l=true then 0 else 70))∧Below w.heap.size w w':=by
 have hln:=h.1;obtain ⟨T,hT⟩:∃T:Int,T=if checkP l=true then 0 else 70:=⟨_,rfl⟩
 rw [←hT]
 by_cases h1:n<1
 case pos=>
  have e1:Hid (T=70):=by
   rw [hT,if_neg (fun e=>by have:=((checkP_all l).1 e).1;omega)];rfl
  have h1':(n:Int)<1:=by omega
  clear h hT;go_enter Tryz.func49,Tryz.ntmps49;go_wp2;go_ret;exact ⟨by rw [unhide e1];rfl,Below.refl _ _⟩
 by_cases h2:1024<n
 case pos=>
  have e1:Hid (T=70):=by
   rw [hT,if_neg (fun e=>by have:=((checkP_all l).1 e).1;omega)];rfl
  have h1':¬(n:Int)<1:=by omega
  have h2':(1024:Int)<(n:Int):=by omega
  clear h hT;go_enter Tryz.func49,Tryz.ntmps49;go_wp2;go_ret;exact ⟨by rw [unhide e1];rfl,Below.refl _ _⟩
 have h1':¬(n:Int)<1:=by omega
 have h2':¬(1024:Int)<(n:Int):=by omega
 have HT:=hide hT;have H:=hide h;clear hT h;go_enter Tryz.func49,Tryz.ntmps49;go_wp2
 go_loopw [14] (fun i wr=>∃k:Nat,k≤n∧i=.int .i64 k∧(∀j,j<k→rightAt l j=true)∧Below w.heap.size w wr) (fun i _=>n-(intOf i).toNat)
 case atStart=>exact ⟨0,by omega,rfl,fun j h=>by omega,Below.refl _ _⟩
 case round=>
  obtain ⟨k,hk,rfl,hall,hB⟩:=hrel;have HA:=hide hall;have HB:=hide hB;clear hall
  by_cases hlt:k<n
  · have hlt1:(k:Int)<(n:Int):=by omega
    have HR:=hide (kisRight_any wr a n c l ((unhide H).below hB) k hlt hn hf);clear hB;cases hr:rightAt l k
    case false=>
     rw [hr] at HR;have e1:Hid (T=70):=by
      rw [unhide HT,if_neg (fun e=>by
       have:=((checkP_all l).1 e).2 k (by omega);rw [hr] at this;cases this)]
      rfl
     clear hr;go_wp2_with fail;refine (unhide HR).mono ?_;rintro e w1 ⟨rfl,f1⟩;have F1:=hide ((unhide HB).trans (f1.mono (unhide HB).size));clear f1 HR;go_wp2;go_ret;exact ⟨by rw [unhide e1];rfl,unhide F1⟩
    case true=>
     rw [hr] at HR;have HN:Hid (∀j,j<k+1→rightAt l j=true):=fun j hj=>by
      by_cases e:j=k
      · subst e;exact hr
      · exact unhide HA j (by omega)
     clear hr;go_wp2_with fail;refine (unhide HR).mono ?_;rintro e w1 ⟨rfl,f1⟩;have F1:=hide ((unhide HB).trans (f1.mono (unhide HB).size));clear f1 HR;go_wp2;go_roundw
     case rel=>exact ⟨k+1,by omega,by go_num,unhide HN,unhide F1⟩
     case measure=>simp [intOf];omega
  · have e1:Hid (T=0):=by
     rw [unhide HT,if_pos ((checkP_all l).2 ⟨by omega,fun i hi=>unhide HA i (by omega)⟩)];rfl
    clear hB;go_wp2;go_ret;exact ⟨by rw [unhide e1];rfl,unhide HB⟩
end Go.Proofs.YtlabllgifkklhaaGreatDoor
