/- Joined: GtI TxB. -/
import Derived.Test.YtlabllgifkklhaaGreatDoorJP24
import Derived.Test.YtlabllgifkklhaaGreatDoorJP27
import Derived.Test.YtlabllgifkklhaaGreatDoorJP28
import Derived.Test.YtlabllgifkklhaaGreatDoorJClF
import Derived.Test.YtlabllgifkklhaaGreatDoorJP9
set_option linter.unusedVariables false
set_option maxRecDepth 100000
set_option maxHeartbeats 3200000
namespace Go.Proofs.YtlabllgifkklhaaGreatDoor
open Go.RowKit
def GParseOk:Prop:=∀(w:World) (a:Option Addr) (n c:Nat) (bs:List UInt8),Arg w a n c bs→(n≤6000∨32768<n)→n≤140737488351232→Calls Tryz.prog 17 #[.slice a n c] w (parse_post w (parseK bs))
theorem arg_sub8 {w:World} {a:Option Addr} {n c:Nat} {bs:List UInt8} (h:Arg w a n c bs) {m:Nat} (hm:m≤n) (h0:0<m):Arg w a m c (bs.take m):=by
 refine ⟨⟨by rw [List.length_take,h.bs.1];omega,?_⟩,Nat.le_trans hm h.room,h.most,fun e=>?_⟩
 · rcases h.bs.2 with h1 | ⟨b,o,e,h1⟩
   · exact .inl (by omega)
   · exact .inr ⟨b,o,e,bytes_take h1 m⟩
 · obtain ⟨h1,h2⟩:=h.nil e
   omega
theorem bytesOf_arg8 {w:World} {a:Option Addr} {n c:Nat} {l:List UInt8} (h:Arg w a n c l):BytesOf w a n c l:=by
 cases a with
 | none=>
  obtain ⟨h1,h2⟩:=h.nil rfl;exact .inl ⟨h.bs.1,h.room,h.most,.inl ⟨rfl,h1,h2⟩⟩
 | some ad=>
  rcases h.bs.2 with h0 | ⟨b,o,e,h1⟩
  · exact .inr ⟨h.bs.1,h0,h.most,ad,rfl⟩
  · injection e with e
    subst e;exact .inl ⟨h.bs.1,h.room,h.most,.inr ⟨b,o,rfl,h1⟩⟩
theorem parses_tab (GQ:GParseOk) (w:World) (hT:Tab8 w) (a:Option Addr) (n c:Nat) (bs:List UInt8) (h:Arg w a n c bs) (hn:n≤140737488351232) :
 Calls Tryz.prog 4 #[.slice a n c] w fun e w'=>e=.returned (.bool true)∧Below w.heap.size w w':=by
 have hroom:=h.room;have HSC:Hid (∀W (x y:ClR),CIn W x→CIn W y→x.c=y.c→Calls Tryz.prog 13 #[x.v,y.v] W fun e w'=>e=.returned (.bool true)∧Below W.heap.size W w'):=hide fun W x y hx hy e=>SameClass_same W x y hx hy e
 have HW:Hid (∀W,Below w.heap.size w W→Calls Tryz.prog 14 #[] W fun e w'=>e=.returned (.bool true)∧Below W.heap.size W w'):=hide fun W f=>works8_tab printOk W (hT.below f)
 have HPA:Hid (∀W a m c bs,Below w.heap.size w W→Arg W a m c bs→m≤140737488351232→Calls Tryz.prog 16 #[.slice a m c] W (parse_post W (parseK bs))):=hide fun W a m c bs f hA hm=>parseOk W a m c bs (hT.below f) hA hm
 have hll:bs.length=n:=h.bs.1;have HH:=hide h;clear h;go_enter Tryz.func4,Tryz.ntmps4;go_upto_region 1 with fail
 go_cut [15] from 8 (fun v wr=>v=.bool (decide (6000<n∧n≤32768))∧wr=w)
 case first=>
  by_cases h1:6000<n
  · have i1:(6000:Int)<(n:Int):=by omega
    by_cases h2:n≤32768
    · have i2:(n:Int)≤32768:=by omega
      have hd:decide (6000<n∧n≤32768)=true:=decide_eq_true ⟨h1,h2⟩;have HD:=hide hd;clear hd;go_wp2;go_meet;exact ⟨by rw [unhide HD],rfl⟩
    · have i2:¬(n:Int)≤32768:=by omega
      have hd:decide (6000<n∧n≤32768)=false:=decide_eq_false fun h=>h2 h.2
      have HD:=hide hd;clear hd;go_wp2;go_meet;exact ⟨by rw [unhide HD],rfl⟩
  · have i1:¬(6000:Int)<(n:Int):=by omega
    have hd:decide (6000<n∧n≤32768)=false:=decide_eq_false fun h=>h1 h.1
    have HD:=hide hd;clear hd;go_wp2;go_meet;exact ⟨by rw [unhide HD],rfl⟩
 case rest=>
 obtain ⟨rfl,hw⟩:=hcut;have hw':=hw.symm;subst hw'
 go_upto_if 15 with fail
 go_cut [0] from 8 (fun v wr=>∃(m:Nat) (B:List UInt8),v=.slice a m c∧Arg w a m c B∧(m≤6000∨32768<m)∧m≤140737488351232∧wr=w)
 case first=>
  by_cases h1:6000<n∧n≤32768
  · have i3:(6000:Int)≤(c:Int):=by omega
    have i1:(6000:Int)<(n:Int):=by omega
    have hA:=hide (arg_sub8 (unhide HH) (m:=6000) (by omega) (by omega));rw [decide_eq_true h1];clear h1;go_wp2;go_meet;exact ⟨6000,bs.take 6000,rfl,unhide hA,.inl (Nat.le_refl _),by decide,rfl⟩
  · have hh:n≤6000∨32768<n:=by omega
    rw [decide_eq_false h1];clear h1;go_wp2;go_meet;exact ⟨n,bs,rfl,unhide HH,hh,hn,rfl⟩
 case rest=>
 obtain ⟨m,BB0,rfl,hA,hm6,hmm,hw⟩:=hcut;have hw':=hw.symm;subst hw';have hbl:(BB0).length=m:=hA.bs.1;have HB:=hide (Bytes_any w a (BB0) m c (by omega) (bytesOf_arg8 hA));have HA:=hide hA;have HG:Hid (∀W,Below w.heap.size w W→Calls Tryz.prog 17 #[.slice a m c] W (parse_post W (parseK (BB0)))):=hide fun W f=>GQ W a m c (BB0) (hA.below f) (by omega) (by omega)
 obtain ⟨BB,hBB⟩:∃BB,BB=BB0:=⟨_,rfl⟩;rw [←hBB] at HB HA HG hbl;clear hA hroom hBB hm6 hn hll HH;go_wp2_with fail;refine (unhide HB).mono ?_;rintro e w1 ⟨v,rfl,o1,f1⟩;obtain ⟨oa,oc,rfl,_⟩:=own_form o1;have A1:=arg_of_own hbl o1;have HP:=hide (unhide HPA w1 oa m oc BB f1 A1 (by omega));have HF1:=hide (And.intro f1 A1);clear HB o1 f1 A1;go_wp2_with fail;refine (unhide HP).mono ?_;rintro e w2 ⟨⟨⟨⟨pl,nm,sp,fl,ml⟩,⟨pa,pn,pc⟩,⟨fa,fn,fc⟩,⟨ma,mn,mc⟩,mr⟩,rfl,hc,hi⟩,f2⟩;have b3:Below w2.heap.size w2 (w2.alloc (.cells #[.slice pa pn pc,.string ⟨nm.toArray⟩,.string ⟨sp.toArray⟩,.slice fa fn fc,.slice ma mn mc] 26)):=(Below.refl _ _).alloc (Nat.le_refl _) _;have q3:=heap_alloc_new w2 (.cells #[.slice pa pn pc,.string ⟨nm.toArray⟩,.string ⟨sp.toArray⟩,.slice fa fn fc,.slice ma mn mc] 26);obtain ⟨w3,hw3⟩:∃w3,w3=w2.alloc (.cells #[.slice pa pn pc,.string ⟨nm.toArray⟩,.string ⟨sp.toArray⟩,.slice fa fn fc,.slice ma mn mc] 26):=⟨_,rfl⟩;rw [←hw3] at b3 q3;have F3:Below w.heap.size w w3:=((unhide HF1).1.trans (f2.mono (unhide HF1).1.size)).trans (b3.mono (((unhide HF1).1.trans (f2.mono (unhide HF1).1.size))).size);have A3:=((unhide HF1).2.below f2).below b3;have i3_:=hi.below b3;obtain ⟨pp,hpp⟩:∃pp,pp=w2.heap.size:=⟨_,rfl⟩;rw [←hpp] at q3;have HW3:=hide hw3;have HPPP:=hide hpp;have HQ:=hide (unhide HG w3 F3);have HF3:=hide (And.intro F3 (And.intro A3 (And.intro i3_ (And.intro q3 hc))));clear HP HF1 hc hi f2 b3 q3 hw3 F3 A3 i3_ hpp;unfold ClR.v Sl.v;simp only;go_upto_region 5 with fail
 rw [←unhide HW3,←unhide HPPP];clear HW3 HPPP;go_wp2_with fail;refine (unhide HQ).mono ?_;rintro e w4 ⟨⟨⟨⟨pl2,nm2,sp2,fl2,ml2⟩,⟨pa2,pn2,pc2⟩,⟨fa2,fn2,fc2⟩,⟨ma2,mn2,mc2⟩,mr2⟩,rfl,hc2,hi2⟩,f4⟩;obtain ⟨F3,A3,i3_,q3,hc⟩:=unhide HF3;have b5:Below w4.heap.size w4 (w4.alloc (.cells #[.slice pa2 pn2 pc2,.string ⟨nm2.toArray⟩,.string ⟨sp2.toArray⟩,.slice fa2 fn2 fc2,.slice ma2 mn2 mc2] 26)):=(Below.refl _ _).alloc (Nat.le_refl _) _;have q5:=heap_alloc_new w4 (.cells #[.slice pa2 pn2 pc2,.string ⟨nm2.toArray⟩,.string ⟨sp2.toArray⟩,.slice fa2 fn2 fc2,.slice ma2 mn2 mc2] 26);obtain ⟨w5,hw5⟩:∃w5,w5=w4.alloc (.cells #[.slice pa2 pn2 pc2,.string ⟨nm2.toArray⟩,.string ⟨sp2.toArray⟩,.slice fa2 fn2 fc2,.slice ma2 mn2 mc2] 26):=⟨_,rfl⟩;rw [←hw5] at b5 q5;have f35:=f4.trans (b5.mono f4.size);have F5:=F3.trans (f35.mono F3.size);have q35:=(f35.block _ (lt_of_heap q3)).trans q3;obtain ⟨pd,hpd⟩:∃pd,pd=w4.heap.size:=⟨_,rfl⟩;rw [←hpd] at q5;have x0:w5.cell? ⟨pp,0,none⟩=some (.slice pa pn pc):=bx_cell q35 0 _ rfl;have x1:w5.cell? ⟨pp,1,none⟩=some (.string ⟨nm.toArray⟩):=bx_cell q35 1 _ rfl;have x2:w5.cell? ⟨pp,2,none⟩=some (.string ⟨sp.toArray⟩):=bx_cell q35 2 _ rfl;have x3:w5.cell? ⟨pp,3,none⟩=some (.slice fa fn fc):=bx_cell q35 3 _ rfl;have x4:w5.cell? ⟨pp,4,none⟩=some (.slice ma mn mc):=bx_cell q35 4 _ rfl;have y0:w5.cell? ⟨pd,0,none⟩=some (.slice pa2 pn2 pc2):=bx_cell q5 0 _ rfl;have y1:w5.cell? ⟨pd,1,none⟩=some (.string ⟨nm2.toArray⟩):=bx_cell q5 1 _ rfl;have y2:w5.cell? ⟨pd,2,none⟩=some (.string ⟨sp2.toArray⟩):=bx_cell q5 2 _ rfl;have y3:w5.cell? ⟨pd,3,none⟩=some (.slice fa2 fn2 fc2):=bx_cell q5 3 _ rfl;have y4:w5.cell? ⟨pd,4,none⟩=some (.slice ma2 mn2 mc2):=bx_cell q5 4 _ rfl;have HS:=hide (unhide HSC w5 ⟨⟨pl,nm,sp,fl,ml⟩,⟨pa,pn,pc⟩,⟨fa,fn,fc⟩,⟨ma,mn,mc⟩,mr⟩ ⟨⟨pl2,nm2,sp2,fl2,ml2⟩,⟨pa2,pn2,pc2⟩,⟨fa2,fn2,fc2⟩,⟨ma2,mn2,mc2⟩,mr2⟩ (i3_.below f35) (hi2.below b5) (hc.trans hc2.symm));unfold ClR.v Sl.v at HS;simp only at HS;have HSB:Hid (∀W,Below w5.heap.size w5 W→Calls Tryz.prog 11 #[.slice oa m oc,.slice a m c] W fun e w'=>e=.returned (.bool (decide (BB=BB)))∧w'=W):=hide fun W f=>SameBytes_n W oa a BB BB m m oc c (bs_at8 ((A3.below f35).below f).bs) (bs_at8 (((unhide HA).below F5).below f).bs) hbl hbl
 rw [decide_eq_true rfl] at HSB;have HW5:=hide hw5;have HPD:=hide hpd;have HF5:=hide F5;clear HQ HF3 hc i3_ hc2 hi2 f4 b5 q5 hw5 f35 F5 q35 F3 A3 q3 hpd;generalize (parseK BB).2=E at *;unfold ClR.v Sl.v;simp only;go_upto_region 6 with fail
 rw [←unhide HW5,←unhide HPD];clear HW5 HPD;go_wp2_with fail;refine (unhide HS).mono ?_;rintro e w6 ⟨rfl,f6⟩;clear x0 x1 x2 x3 x4 y0 y1 y2 y3 y4 HS;have HB6:=hide (unhide HSB w6 f6);have HF6:=hide ((unhide HF5).trans (f6.mono (unhide HF5).size));clear f6 HSB;go_wp2_with fail;refine (unhide HB6).mono ?_;rintro e wz ⟨rfl,ez⟩;have ez':=ez.symm;clear ez;subst ez';have HWW:=hide (unhide HW _ (unhide HF6));go_wp2_with fail;refine (unhide HWW).mono ?_;rintro e w8 ⟨rfl,f8⟩;have HF8:=hide ((unhide HF6).trans (f8.mono (unhide HF6).size));clear f8;go_wp2;go_ret;exact ⟨rfl,unhide HF8⟩
section
variable {P:Program} {ops:Array Oper} {Q:Exit→Act→World→Prop} {G:World→World→Prop} {R:Nat→Value→World→Prop}
def Tells (P:Program) (ops:Array Oper) (G:World→World→Prop) (r:Value→World→Prop) (o:Oper) (a:Act) (w:World):Prop:=
 (Region.wanted o (yielded ops a.tmps)=true∧∀K:Act→World→Prop,Shut (∀v w',G w w'→r v w'→K (a.put o.dst v) w')→Oper.wp P o a w K (fun _ _ _=>False)) ∨
 (Region.wanted o (yielded ops a.tmps)=false∧r undef w)
def ForDeps (R:Nat→Value→World→Prop) (w:World) (K:Act→Prop):List (Nat×Option Tmp)→Act→Prop
 | [],a=>K a
 | (j,d)::l,a=>∀v,R j v w→ForDeps R w K l (a.put d v)
def Obls (P:Program) (ops:Array Oper) (G:World→World→Prop) (R:Nat→Value→World→Prop) (w0:World) (a0:Act):List Oper→List (List (Nat×Option Tmp))→Nat→Prop
 | o::l,d::ds,i=>(∀w,G w0 w→ForDeps R w (fun a=>Tells P ops G (R i) o a w) d a0)∧Obls P ops G R w0 a0 l ds (i+1)
 | [],[],_=>True
 | _,_,_=>False
theorem Obls.at {w0:World} {a0:Act}:∀(l:List Oper) (ds:List (List (Nat×Option Tmp))) (k:Nat),Obls P ops G R w0 a0 l ds k→∀i o,l[i]?=some o→∀w,G w0 w→ForDeps R w (fun a=>Tells P ops G (R (k+i)) o a w) (ds.getD i []) a0
 | [],_,_,_,i,o,h=>by simp at h
 | o::l,[],k,h,_,_,_=>h.elim
 | o::l,d::ds,k,h,i,x,hx=>by
  cases i with
  | zero=>
   simp at hx;subst hx;exact h.1
  | succ i=>
   have:=Obls.at l ds (k+1) h.2 i x (by simpa using hx);rw [show k+1+i=k+(i+1) by omega] at this
   simpa using this
theorem put_defers (a:Act) (d:Option Tmp) (v:Value):(a.put d v).defers=a.defers:=by cases d <;> rfl
theorem put_at (a:Act) (d:Tmp) (v:Value) (h:d<a.tmps.size):(a.put (some d) v).tmps[d]?=some v:=by simp [Act.put,h]
theorem put_off (a:Act) (d:Option Tmp) (v:Value) {t:Tmp} (h:d≠some t):(a.put d v).tmps[t]?=a.tmps[t]?:=by
 cases d with
 | none=>rfl
 | some d=>
  show (a.tmps.setIfInBounds d _)[t]?=_;rw [Array.getElem?_setIfInBounds_ne (fun e=>h (by rw [e]))]
theorem ForDeps.at {K:Act→Prop} {w:World} (a:Act):∀(l:List (Nat×Option Tmp)) (b:Act),b.tmps.size=a.tmps.size→(∀x∈l,∃v,R x.1 v w∧∀d,x.2=some d→a.tmps[d]?=some v)→ForDeps R w K l b →
 ∃b',K b'∧b'.tmps.size=b.tmps.size∧b'.defers=b.defers∧∀t,((∃x∈l,x.2=some t)∧b'.tmps[t]?=a.tmps[t]?)∨((∀x∈l,x.2≠some t)∧b'.tmps[t]?=b.tmps[t]?)
 | [],b,_,_,h=>⟨b,h,rfl,rfl,fun t=>.inr ⟨fun x hx=>(by cases hx),rfl⟩⟩
 | (j,d)::l,b,hs,hv,h=>by
  obtain ⟨v,h1,h2⟩:=hv (j,d) (List.mem_cons_self ..);obtain ⟨b',g1,g2,g3,g4⟩:=ForDeps.at a l (b.put d v) (by rw [put_size,hs]) (fun x hx=>hv x (List.mem_cons_of_mem _ hx)) (h v h1);refine ⟨b',g1,by rw [g2,put_size],by rw [g3,put_defers],fun t=>?_⟩
  rcases g4 t with ⟨⟨x,hx,e⟩,g5⟩ | ⟨g5,g6⟩
  · exact .inl ⟨⟨x,List.mem_cons_of_mem _ hx,e⟩,g5⟩
  · by_cases e:d=some t
    · subst e
      have h3:=h2 t rfl;have h4:t<a.tmps.size:=(Array.getElem?_eq_some_iff.1 h3).1;refine .inl ⟨⟨_,List.mem_cons_self ..,rfl⟩,?_⟩;rw [g6,put_at _ _ _ (by rw [hs];exact h4),h3]
    · refine .inr ⟨fun x hx=>?_,by rw [g6,put_off _ _ _ e]⟩
      rcases List.mem_cons.1 hx with rfl | hx
      · exact e
      · exact g5 x hx
theorem Tells.op {i:Nat} {o:Oper} {r:Value→World→Prop} {a b:Act} {w:World} (hi:ops[i]?=some o) (hd:Tells P ops G r o b w) (he:execOp a.eval o=execOp b.eval o)
 (hw:Region.wanted o (yielded ops a.tmps)=Region.wanted o (yielded ops b.tmps)) (hsz:a.tmps.size=b.tmps.size) {K:Act→World→Prop} (hg:G w w)
 (h:∀v w',G w w'→r v w'→K (a.put o.dst v) w'):wpOp P ops Q i K a w:=by
 unfold wpOp;simp only [hi];rw [hw]
 rcases hd with ⟨h1,h2⟩ | ⟨h1,h2⟩
 · rw [if_pos h1]
   refine .inl ?_;have h3:=h2 (fun a2 w2=>∃v,a2=b.put o.dst v∧G w w2∧r v w2) (fun v w' g1 g2=>⟨v,rfl,g1,g2⟩);clear h2;unfold Oper.wp at h3 ⊢;rw [he];generalize (execOp b.eval o).run P w=x at *;cases x with
   | ok n w'=>
    cases n <;> simp only [Oper.upon] at h3 ⊢
    case value u=>obtain ⟨v,e,g1,g2⟩:=h3;rw [put_same hsz e];exact h _ _ g1 g2
    case skip=>obtain ⟨v,e,g1,g2⟩:=h3;rw [put_same hsz e];exact h _ _ g1 g2
    case defer d=>
     exfalso;obtain ⟨v,e0,_⟩:=h3;have e:=congrArg Act.defers e0;rw [put_defers,put_defers] at e;have:=congrArg List.length e;simp at this
    case enter f args=>
     refine Calls.mono h3 fun e w'' he=>?_
     cases e with
     | returned u=>
      obtain ⟨v,e,g1,g2⟩:=he;have h5:K (a.put o.dst u) w'':=by rw [put_same hsz e];exact h _ _ g1 g2
      exact h5
     | panicked c=>exact he.elim
     | outgrown=>
      obtain ⟨_,_,hf⟩:=he;exact hf.elim
    case row row args=>exact Rows.mono h3 fun u w'' he=>by obtain ⟨v,e,g1,g2⟩:=he;rw [put_same hsz e];exact h _ _ g1 g2
   | halt x w'=>cases x <;> simp only [Oper.upon] at h3
 · rw [if_neg (by rw [h1];simp)]
   exact h _ _ hg h2
def waitsFor (o:Oper) (j:Nat):Bool:=o.after.any fun e=>Region.binds .any e&&e.on==j
theorem waitsFor_spec {o:Oper} {j:Nat} (h:waitsFor o j=true):∃e∈o.after,Region.binds .any e=true∧e.on=j:=by
 obtain ⟨q,hq,h8⟩:=Array.any_eq_true.1 h;simp only [Bool.and_eq_true,beq_iff_eq] at h8;exact ⟨_,Array.getElem_mem hq,h8.1,h8.2⟩
def telOk (ops:Array Oper) (m:Nat) (ds:List (List (Nat×Option Tmp))) (fin:List (Nat×Option Tmp)):Bool:=
 ((List.range ops.size).all fun i=>match ops[i]? with
  | none=>true
  | some o=>(match o.op with | .select ..=>false | _=>true)&&o.after.all (fun e=>!Region.binds .any e||decide (e.on<i))&&(match o.dst with | some d=>decide (d<m)&&fin.contains (i,some d) | none=>true) &&
   ((ds.getD i []).all fun x=>waitsFor o x.1&&dstAt ops x.1==x.2) &&
   ((List.range ops.size).all fun j=>match ops[j]? with
    | none=>true
    | some oj=>match oj.dst with
     | none=>true
     | some d=>(!(o.looksAt ops).contains d||(ds.getD i []).contains (j,some d)||waitsFor oj i||j==i)&&(j==i||o.dst != some d))) &&
 fin.all fun x=>decide (x.1<ops.size)&&dstAt ops x.1==x.2
structure TelOp (ops:Array Oper) (m:Nat) (ds:List (List (Nat×Option Tmp))) (fin:List (Nat×Option Tmp)) (i:Nat) (o:Oper):Prop where
 sel:∀cs b,o.op≠.select cs b
 back:∀e∈o.after,Region.binds .any e=true→e.on<i
 dst:∀d,o.dst=some d→d<m∧(i,some d)∈fin
 deps:∀x∈ds.getD i [],waitsFor o x.1=true∧dstAt ops x.1=x.2
 looks:∀j oj d,ops[j]?=some oj→oj.dst=some d→d∈o.looksAt ops→(j,some d)∈ds.getD i []∨waitsFor oj i=true∨j=i
 apart:∀j oj d,ops[j]?=some oj→oj.dst=some d→j≠i→o.dst≠some d
theorem telOk_spec {m:Nat} {ds:List (List (Nat×Option Tmp))} {fin:List (Nat×Option Tmp)} (h:telOk ops m ds fin=true) {i:Nat} {o:Oper} (ho:ops[i]?=some o):TelOp ops m ds fin i o:=by
 have hi:i<ops.size:=(Array.getElem?_eq_some_iff.1 ho).1;unfold telOk at h;rw [Bool.and_eq_true] at h;have h1:=List.all_eq_true.1 h.1 i (List.mem_range.2 hi);simp only [ho,Bool.and_eq_true] at h1;obtain ⟨⟨⟨⟨h2,h3⟩,h4⟩,h5⟩,h6⟩:=h1;have hj:∀j oj d,ops[j]?=some oj→oj.dst=some d→((!(o.looksAt ops).contains d||(ds.getD i []).contains (j,some d)||waitsFor oj i||j==i)&&(j==i||o.dst != some d))=true:=fun j oj d hoj hd=>by
  have hjs:j<ops.size:=(Array.getElem?_eq_some_iff.1 hoj).1;have:=List.all_eq_true.1 h6 j (List.mem_range.2 hjs);simp only [hoj,hd] at this;exact this
 refine ⟨fun cs b e=>?_,fun e he hb=>?_,fun d hd=>?_,fun x hx=>?_,fun j oj d hoj hd hl=>?_,fun j oj d hoj hd hne=>?_⟩
 · rw [e] at h2
   cases h2
 · have:=(Array.all_eq_true_iff_forall_mem.1 h3) e he
   simpa [hb] using this
 · rw [hd] at h4
   simp only [Bool.and_eq_true,decide_eq_true_eq] at h4;exact ⟨h4.1,List.contains_iff_mem.1 h4.2⟩
 · have:=List.all_eq_true.1 h5 x hx
   simpa using this
 · have h7:=hj j oj d hoj hd
   rw [Bool.and_eq_true,List.contains_iff_mem.2 hl] at h7;have h8:=h7.1;simp only [Bool.not_true,Bool.false_or,Bool.or_eq_true,beq_iff_eq] at h8
   rcases h8 with (h8 | h8) | h8
   · exact .inl (List.contains_iff_mem.1 h8)
   · exact .inr (.inl h8)
   · exact .inr (.inr h8)
 · have h7:=hj j oj d hoj hd
   rw [Bool.and_eq_true] at h7;have h8:=h7.2;simp only [Bool.or_eq_true,beq_iff_eq,bne_iff_ne] at h8;exact h8.resolve_left hne
structure Held9 (ops:Array Oper) (R:Nat→Value→World→Prop) (a0:Act) (listed:Array Bool) (a:Act) (w:World):Prop where
 defers:a.defers=a0.defers
 size:a.tmps.size=a0.tmps.size
 off:∀t,(∀j,listed.getD j false=true→dstAt ops j≠some t)→a.tmps[t]?=a0.tmps[t]?
 on:∀j o,ops[j]?=some o→listed.getD j false=true→∃v,R j v w∧∀d,o.dst=some d→a.tmps[d]?=some v
 shut:∀j o,ops[j]?=some o→listed.getD j false=true→∀e∈o.after,Region.binds .any e=true→listed.getD e.on false=true
theorem tells_any {m:Nat} {ds:List (List (Nat×Option Tmp))} {fin:List (Nat×Option Tmp)} (hok:telOk ops m ds fin=true) {a0:Act} {w0:World} (hm:a0.tmps.size=m)
 (hrefl:∀w,G w w) (htrans:∀u v w,G u v→G v w→G u w) (hst:∀j v w w',R j v w→G w w'→R j v w')
 (hdo:∀i o,ops[i]?=some o→∀w,G w0 w→ForDeps R w (fun a=>Tells P ops G (R i) o a w) (ds.getD i []) a0) (hfin:∀w,G w0 w→ForDeps R w (fun a=>Q .normal a w) fin a0) :
 ∀(fuel:Nat) (listed:Array Bool) (a:Act) (w:World),listed.size=ops.size→((List.range ops.size).filter fun j=>listed.getD j true==false).length≤fuel →
  G w0 w→Held9 ops R a0 listed a w→wpAny P .any ops Q fuel listed a w:=by
 have hdstAt:∀j o,ops[j]?=some o→dstAt ops j=o.dst:=fun j o ho=>by unfold dstAt;rw [ho];rfl
 have key:∀(listed:Array Bool) (a:Act) (w:World),listed.size=ops.size→G w0 w→Held9 ops R a0 listed a w→Region.ready .any ops listed=[]→Q .normal a w:=fun listed a w hsz hg hH hr=>by
  have hall:∀i,i<ops.size→listed.getD i false=true:=by
   intro i
   induction i using Nat.strongRecOn with
   | _ i ih=>
    intro hi;cases hl:listed.getD i false with
    | true=>rfl
    | false=>
     exfalso;have ho:ops[i]?=some ops[i]:=Array.getElem?_eq_getElem hi;have hready:i∈Region.ready .any ops listed:=by
      refine mem_ready.2 ⟨?_,_,ho,fun e he hb=>?_⟩
      · have his:i<listed.size:=by omega
        simp [his] at hl ⊢;exact hl
      · have hlt:=(telOk_spec hok ho).back e he hb
        exact ih _ hlt (by omega)
     rw [hr] at hready;cases hready
  have hf2:∀x∈fin,x.1<ops.size∧dstAt ops x.1=x.2:=fun x hx=>by
   have h:=hok;unfold telOk at h;rw [Bool.and_eq_true] at h;have:=List.all_eq_true.1 h.2 x hx
   simpa using this
  obtain ⟨b',g1,g2,g3,g4⟩:=ForDeps.at a fin a0 hH.size.symm (fun x hx=>by
   obtain ⟨h1,h2⟩:=hf2 x hx;have ho:ops[x.1]?=some ops[x.1]:=Array.getElem?_eq_getElem h1;obtain ⟨v,h3,h4⟩:=hH.on x.1 _ ho (hall _ h1);exact ⟨v,h3,fun d hd=>h4 d (by rw [←hdstAt _ _ ho,h2,hd])⟩) (hfin w hg)
  have hab:b'=a:=by
   obtain ⟨bt,bd⟩:=b';obtain ⟨at_,ad⟩:=a;have e1:bt=at_:=by
    refine Array.ext_getElem? fun t=>?_
    rcases g4 t with ⟨_,e⟩ | ⟨h1,e⟩
    · exact e
    · have:=hH.off t (fun j hj hd=>by
       have hjs:j<ops.size:=by
        by_cases hlt:j<ops.size
        · exact hlt
        · have:¬j<listed.size:=by omega
          simp [this] at hj
       have ho:ops[j]?=some ops[j]:=Array.getElem?_eq_getElem hjs;rw [hdstAt _ _ ho] at hd;exact h1 _ ((telOk_spec hok ho).dst t hd).2 rfl)
      exact e.trans this.symm
   have e2:bd=ad:=g3.trans hH.defers.symm;rw [e1,e2]
  rw [hab] at g1;exact g1
 intro fuel
 induction fuel with
 | zero=>
  intro listed a w hsz hlen hg hH;have hr:Region.ready .any ops listed=[]:=by
   cases hc:Region.ready .any ops listed with
   | nil=>rfl
   | cons i rest=>
    exfalso;have hi:i∈Region.ready .any ops listed:=by rw [hc];exact List.mem_cons_self ..
    obtain ⟨h0,o,ho,_⟩:=mem_ready.1 hi;have:i∈((List.range ops.size).filter fun j=>listed.getD j true==false):=by
     rw [List.mem_filter,List.mem_range];exact ⟨(Array.getElem?_eq_some_iff.1 ho).1,by rw [h0];rfl⟩
    rw [List.eq_nil_of_length_eq_zero (Nat.le_zero.1 hlen)] at this;cases this
  exact ⟨hr,key listed a w hsz hg hH hr⟩
 | succ fuel ih=>
  intro listed a w hsz hlen hg hH;refine ⟨key listed a w hsz hg hH,fun i hi=>?_⟩;obtain ⟨h0,o,ho,hall⟩:=mem_ready.1 hi;have hin:i<ops.size:=(Array.getElem?_eq_some_iff.1 ho).1;have hT:=telOk_spec hok ho;have hil:listed.getD i false=false:=by
   have:i<listed.size:=by omega
   simp [this] at h0 ⊢;exact h0
  obtain ⟨b,g1,g2,g3,g4⟩:=ForDeps.at a (ds.getD i []) a0 hH.size.symm (fun x hx=>by
   obtain ⟨h1,h2⟩:=hT.deps x hx;obtain ⟨e,he,hb,hon⟩:=waitsFor_spec h1;have hl:=hall e he hb;rw [hon] at hl;have hxs:x.1<ops.size:=by have:=hT.back e he hb;omega
   have hox:ops[x.1]?=some ops[x.1]:=Array.getElem?_eq_getElem hxs;obtain ⟨v,h3,h4⟩:=hH.on x.1 _ hox hl;exact ⟨v,h3,fun d hd=>h4 d (by rw [←hdstAt _ _ hox,h2,hd])⟩) (hdo i o ho w hg)
  have hlook:∀t,t∈o.looksAt ops→a.tmps[t]?=b.tmps[t]?:=fun t ht=>by
   rcases g4 t with ⟨_,e⟩ | ⟨h1,e⟩
   · exact e.symm
   · rw [e]
     refine hH.off t (fun j hj hd=>?_);have hjs:j<ops.size:=by
      by_cases hlt:j<ops.size
      · exact hlt
      · have:¬j<listed.size:=by omega
        simp [this] at hj
     have hoj:ops[j]?=some ops[j]:=Array.getElem?_eq_getElem hjs;rw [hdstAt _ _ hoj] at hd
     rcases hT.looks j _ t hoj hd ht with h2 | h2 | h2
     · exact h1 _ h2 rfl
     · obtain ⟨e,he,hb,hon⟩:=waitsFor_spec h2
       have h3:=hH.shut j _ hoj hj e he hb;rw [hon,hil] at h3;cases h3
     · rw [h2,hil] at hj
       cases hj
  obtain ⟨he,hw⟩:=same_looks hT.sel hlook;refine g1.op ho he hw (by rw [hH.size,g2]) (hrefl w) (fun v w' hgw hr=>?_);have hun:i∈((List.range ops.size).filter fun j=>listed.getD j true==false):=by
   rw [List.mem_filter,List.mem_range];exact ⟨hin,by rw [h0];rfl⟩
  have hset:∀j,(listed.setIfInBounds i true).getD j false=true→j=i∨listed.getD j false=true:=fun j hj=>by
   by_cases e:j=i
   · exact .inl e
   · rw [getD_set_ne false (fun h=>e h.symm)] at hj
     exact .inr hj
  refine ih (listed.setIfInBounds i true) _ w' (by simpa using hsz) ?_ (htrans _ _ _ hg hgw) ⟨by rw [put_defers,hH.defers],by rw [put_size,hH.size],fun t ht=>?_,fun j oj hoj hj=>?_,fun j oj hoj hj e he hb=>?_⟩
  · rw [un_set (by omega)]
    have:(((List.range ops.size).filter fun j=>listed.getD j true==false).filter (fun j=>decide (j≠i))).length<((List.range ops.size).filter fun j=>listed.getD j true==false).length:=
     List.length_filter_lt_length_iff_exists.2 ⟨i,hun,by simp⟩
    omega
  · have hi1:o.dst≠some t:=by
     rw [←hdstAt i o ho];exact ht i (by
      have:i<listed.size:=by omega
      simp [this])
    rw [put_off _ _ _ hi1];exact hH.off t (fun j hj=>ht j (by
     by_cases e:j=i
     · rw [e,hil] at hj;cases hj
     · rw [getD_set_ne false (fun h=>e h.symm)];exact hj))
  · rcases hset j hj with rfl | hl
    · rw [ho] at hoj
      injection hoj with hoj
      subst hoj;exact ⟨v,hr,fun d hd=>by rw [hd];exact put_at _ _ _ (by rw [hH.size,hm];exact (hT.dst d hd).1)⟩
    · obtain ⟨u,h1,h2⟩:=hH.on j oj hoj hl
      refine ⟨u,hst _ _ _ _ h1 hgw,fun d hd=>?_⟩;rw [put_off _ _ _ (hT.apart j oj d hoj hd (fun e=>by rw [e,hil] at hl;cases hl))];exact h2 d hd
  · have hup:∀k,listed.getD k false=true→(listed.setIfInBounds i true).getD k false=true:=fun k hk=>by
     by_cases ek:k=i
     · rw [ek,hil] at hk;cases hk
     · rw [getD_set_ne false (fun h=>ek h.symm)];exact hk
    rcases hset j hj with rfl | hl
    · rw [ho] at hoj
      injection hoj with hoj
      subst hoj;exact hup _ (hall e he hb)
    · exact hup _ (hH.shut j oj hoj hl e he hb)
def rAt:List (Value→World→Prop)→Nat→Value→World→Prop
 | [],_=>fun _ _=>True
 | r::_,0=>r
 | _::l,j+1=>rAt l j
theorem rAt_stays {l:List (Value→World→Prop)} (h:∀r∈l,∀v w w',r v w→G w w'→r v w'):∀j v w w',rAt l j v w→G w w'→rAt l j v w':=by
 induction l with
 | nil=>intro j v w w' _ _;trivial
 | cons r l ih=>
  intro j v w w' h1 h2;cases j with
  | zero=>exact h r (List.mem_cons_self ..) v w w' h1 h2
  | succ j=>exact ih (fun x hx=>h x (List.mem_cons_of_mem _ hx)) j v w w' h1 h2
theorem wp_region_tells {id:Nat} {l:List Oper} {a:Act} {w:World} (G:World→World→Prop) (Rs:List (Value→World→Prop)) (m:Nat) (ds:List (List (Nat×Option Tmp))) (fin:List (Nat×Option Tmp))
 (hm:P.follows .mixedOrders=true) (hok:telOk l.toArray m ds fin=true) (hsz:a.tmps.size=m) (hrefl:∀w,G w w) (htrans:∀u v w,G u v→G v w→G u w) (hst:∀r∈Rs,∀v w w',r v w→G w w'→r v w')
 (hdo:Obls P l.toArray G (rAt Rs) w.drew a l ds 0) (hfin:∀w',G w.drew w'→ForDeps (rAt Rs) w' (fun a=>Q .normal a w') fin a):(Code.region id l.toArray true).wp P Q a w:=by
 refine wp_region_any hm ?_;refine tells_any (R:=rAt Rs) (w0:=w.drew) hok hsz hrefl htrans (rAt_stays hst) (fun i o ho w' hg=>?_) hfin _ _ a _ (by simp) ?_ (hrefl _) ⟨rfl,rfl,fun t _=>rfl,fun j o ho hj=>?_,fun j o ho hj=>?_⟩
 · have:=Obls.at l ds 0 hdo i o (by simpa using ho) w' hg
   rwa [Nat.zero_add] at this
 · exact Nat.le_trans (List.length_filter_le ..) (by simp)
 · have hlt:=(Array.getElem?_eq_some_iff.1 ho).1
   simp at hlt;simp [hlt] at hj
 · have hlt:=(Array.getElem?_eq_some_iff.1 ho).1
   simp at hlt;simp [hlt] at hj
theorem Tells.does {r:Value→World→Prop} {o:Oper} {a:Act} {w:World} (hw:Region.wanted o (yielded ops a.tmps)=true)
 (h:∀K:Act→World→Prop,Shut (∀v w',G w w'→r v w'→K (a.put o.dst v) w')→Oper.wp P o a w K (fun _ _ _=>False)):Tells P ops G r o a w:=.inl ⟨hw,h⟩
theorem Tells.yields {r:Value→World→Prop} {o:Oper} {a:Act} {w:World} {v:Value} (hw:Region.wanted o (yielded ops a.tmps)=true) (hg:G w w)
 (h:(execOp a.eval o).run P w=.ok (.value v) w) (hr:r v w):Tells P ops G r o a w:=.inl ⟨hw,fun K hK=>by
 unfold Oper.wp;rw [h];exact hK.out _ _ hg hr⟩
theorem Tells.skips {r:Value→World→Prop} {o:Oper} {a:Act} {w:World} (hw:Region.wanted o (yielded ops a.tmps)=false) (hr:r undef w):Tells P ops G r o a w:=.inr ⟨hw,hr⟩
end
end Go.Proofs.YtlabllgifkklhaaGreatDoor
