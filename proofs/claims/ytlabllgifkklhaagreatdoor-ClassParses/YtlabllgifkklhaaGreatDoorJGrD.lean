/- The document's class: its writer: types. -/
import Derived.Test.YtlabllgifkklhaaGreatDoorJP26
set_option linter.unusedVariables false
set_option maxRecDepth 100000
set_option maxHeartbeats 6400000
namespace Go.Proofs.YtlabllgifkklhaaGreatDoor
open Go.RowKit
theorem str0 (w:World) (s:List UInt8) (h:¬s=[]):¬(⟨s.toArray⟩:ByteArray).toList=[]∧¬(⟨s.toArray⟩:ByteArray)=⟨#[]⟩:=by
 constructor
 · intro e
   rw [ByteArray.toList_eq] at e;exact h (by simpa using e)
 · intro e
   injection e with e
   apply h
   simpa using e
theorem isEmpty9 (s:List UInt8):decide (s=[])=s.isEmpty:=by cases s <;> simp
def Ks (X:Nat) (w w':World):Prop:=∀(k:Nat) (Z:Array Value) (T:TypeId),k≠X→T≠5→w.heap[k]?=some (.cells Z T (0,0))→w'.heap[k]?=some (.cells Z T (0,0))
theorem Ks.trans {X:Nat} {w w1 w2:World} (f:Ks X w w1) (g:Ks X w1 w2):Ks X w w2:=fun k Z T hx ht hk=>g k Z T hx ht (f k Z T hx ht hk)
theorem Ks.of_kx {X:Nat} {w w1:World} (f:Kx X w w1):Ks X w w1:=fun k Z T hx ht hk=>(f k (lt_of_heap hk) hx).trans hk
theorem Ks.of_below {X:Nat} {w w1:World} (f:Below w.heap.size w w1):Ks X w w1:=fun k Z T hx ht hk=>(f.block k (lt_of_heap hk)).trans hk
def types_post (X B:Nat) (p:Sl) (w:World) (b:List UInt8) (bad:Bool) (l:List Ent) (loc:Bool) (ts:List Ty) (e:Ending) (w':World):Prop:=
 ∃b',e=.returned (.tuple #[])∧Gw X B p b' (bad||!rightT l loc ts) w'∧((bad||!rightT l loc ts)=false→b'=b++typesB l loc ts)∧b'.length≤b.length+5+3*ts.length∧Below B w w'∧Ks X w w'
theorem gwtypes_any (wc:World) (X B:Nat) (p:Sl) (l:List Ent) (G:Gx wc B p l) (b:List UInt8) (bad:Bool) (w:World) (hW:Below wc.heap.size wc w) (h:Gw X B p b bad w) (s:Sl) (ts:List Ty) (loc:Bool) (hL:TysIn wc s ts) (hn:s.n≤14000) (hs:b.length≤50000000) :
 Calls Tryz.prog 70 #[.pointer (some ⟨X,0,none⟩),s.v,.bool loc] w (types_post X B p w b bad l loc ts):=by
 obtain ⟨la,n,lc⟩:=s;have hln:ts.length=n:=hL.ls.1;simp only at hn;have HLs:=hide hL.ls;have HFit:=hide hL.each;have HG:=hide G;have hfew:=G.few.1;obtain ⟨oa,oc,ob1,orow⟩:=h.blk;have HM:Hid (∀v,Calls Tryz.prog 29 #[.pointer (some ⟨X,0,none⟩),.bool v] w fun e w'=>e=.returned (.tuple #[])∧w'=w.setCell ⟨X,2,none⟩ (.bool (bad||!v))):=hide fun v=>gwmust_at X _ _ bad w ob1 v
 have H0:=hide (And.intro h (And.intro hW (And.intro ob1 orow)));have hB:=h.hB;have hBX:=h.hX;have hXl:=h.X_lt;have hcB:=G.hB;unfold Sl.v;simp only;clear h hW ob1 orow G hL;go_enter Tryz.func70,Tryz.ntmps70;go_wp2_with fail;refine (unhide HM _).mono ?_;rintro e w1 ⟨rfl,e1⟩;have e1':w1=w.setCell ⟨X,2,none⟩ (.bool (bad||!decide (n≤64))):=by rw [e1,show decide ((n:Int)≤64)=decide (n≤64) from decide_eq_decide.2 (by omega)]
 clear e1;obtain ⟨bad0,hbad0⟩:∃bad0,(bad||!decide (n≤64))=bad0:=⟨_,rfl⟩;rw [hbad0] at e1';obtain ⟨h,hW,ob1,orow⟩:=unhide H0;have h1:=h.mark bad0;have g1:=GF.mark h 2 (.bool bad0);rw [←e1'] at h1 g1;have hwy:w.heap.size≤w1.heap.size:=g1.size;have ob2:w1.heap[X]?=some (.cells #[.slice p.a p.n p.c,.slice oa b.length oc,.bool bad0] 65 (0,0)):=by rw [e1'];exact heap_setCell_same w X 2 _ _ _ ob1
 have orow1:Orw byc 5 1 w1 B (.slice oa b.length oc) b:=orow.keep fun k Z _ hk=>g1.1 k (lt_of_heap hk) fun e=>by
  subst e;rw [ob1] at hk;injection hk with hk
  injection hk with _ hk
  cases hk
 have hW1:Below wc.heap.size wc w1:=hW.trans (g1.2.mono hcB);obtain ⟨w2,e2,f2,y2⟩:∃w2,w1.alloc (.cells #[.slice p.a p.n p.c,.slice none 0 0,.bool false] 65)=w2∧Below w1.heap.size w1 w2∧w2.heap[w1.heap.size]?=some (.cells #[.slice p.a p.n p.c,.slice none 0 0,.bool false] 65 (0,0)):=⟨_,rfl,(Below.refl _ _).alloc (Nat.le_refl _) _,heap_alloc_new w1 _⟩;have hXl1:X<w1.heap.size:=lt_of_heap ob2;have T2:TI wc w2 X B w1.heap.size p oa b.length oc w2 bad0 [] false:=⟨hBX,hXl1,hcB,(f2.block _ hXl1).trans ob2,fun k _ _=>rfl,⟨Nat.le_refl _,none,0,y2,Orw.nil _ _ _ _ _⟩,Below.refl _ _,hW1.trans (f2.mono hW1.size)⟩;have c0:w1.cell? ⟨X,0,none⟩=some (.slice p.a p.n p.c):=bx_cell ob2 0 _ rfl;have hB1:B≤w1.heap.size:=h1.hB;have hrlt:∀k,(Value.slice oa b.length oc).ownBlock=some k→k<w1.heap.size∧k≠X:=fun k hk=>⟨(orow1.lt k hk).2,fun e=>by
  obtain ⟨Z,hZ⟩:=orw_block orow1 hk;rw [e,ob2] at hZ;injection hZ with hZ
  injection hZ with _ hZ
  cases hZ⟩
 have H1:=hide (And.intro T2 (And.intro g1 (And.intro orow1 (And.intro f2 (And.intro hbad0 hrlt)))));have HS:=hide (TV.start l loc ts bad0);clear h hW ob1 orow h1 g1 ob2 orow1 hW1 f2 y2 T2 hbad0 e1' hrlt;go_wp2;clear e2 c0;generalize w1.heap.size=Y at H1 hB1 hXl1 hwy ⊢
 go_loopw [6,8] (fun vm vi wr=>∃(k m:Nat) (ob:Bool) (ib:List UInt8) (ibad:Bool),vi=.int .i64 k∧vm=.int .i64 m∧k≤n+1∧TV l loc ts bad0 k m ob ib ibad∧TI wc w2 X B Y p oa b.length oc wr ob ib ibad) (fun _ vi _=>n+2-(intOf vi).toNat)
 case atStart=>exact ⟨0,0,bad0,[],false,rfl,rfl,by omega,unhide HS,(unhide H1).1⟩
 case round=>
  obtain ⟨k,m,ob,ib,ibad,rfl,rfl,hk,hV,hT⟩:=hrel
  by_cases hlt:k<n
  · have hlt1:(k:Int)<(n:Int):=by omega
    have hk0:(0:Int)≤(k:Int):=by omega
    obtain ⟨b1,o1,h1a,hr1⟩:=Ls.row (unhide HLs) (w':=wc) (by show n≠0;omega);subst h1a;obtain ⟨t,ht⟩:∃t,ts[k]?=some t:=⟨_,List.getElem?_eq_getElem (by omega)⟩;have q:=hr1 hT.came k t ht;have c0:=q.zero;have c1:=q 1 _ rfl;have hfit:=(unhide HFit t (List.mem_of_getElem? ht)).1;unfold fitI at hfit;obtain ⟨wl,el,fl,ll⟩:∃wl,wr.alloc (.cells #[.int .i64 t.kind,.string ⟨t.name.toArray⟩] 143)=wl∧Below wr.heap.size wr wl∧wl.heap[wr.heap.size]?=some (.cells #[.int .i64 t.kind,.string ⟨t.name.toArray⟩] 143 (0,0)):=⟨_,rfl,(Below.refl _ _).alloc (Nat.le_refl _) _,heap_alloc_new wr _⟩;have Tl:=hT.on fl;have hm:=hV.2.2.2;have hil:=hV.2.2.1;have d0:wl.cell? ⟨wr.heap.size,0,none⟩=some (.int .i64 t.kind):=bx_cell ll 0 _ rfl;have d1:wl.cell? ⟨wr.heap.size,1,none⟩=some (.string ⟨t.name.toArray⟩):=bx_cell ll 1 _ rfl;have hrX:X<wr.heap.size:=lt_of_heap hT.ox;have HYw:Y<wr.heap.size:=hT.inn.X_lt;have HMl:Hid (∀v,Calls Tryz.prog 29 #[.pointer (some ⟨X,0,none⟩),.bool v] wl fun e w'=>e=.returned (.tuple #[])∧TI wc w2 X B Y p oa b.length oc w' (ob||!v) ib ibad∧w'.heap[wr.heap.size]?=some (.cells #[.int .i64 t.kind,.string ⟨t.name.toArray⟩] 143 (0,0))):=hide fun v=>(gwmust_at X _ _ ob wl Tl.ox v).mono (by
     rintro e w' ⟨rfl,rfl⟩;exact ⟨rfl,Tl.must _,(Below.heap_setCell _ _ _ _ (by simp only;omega)).trans ll⟩)
    have HV:=hide hV;have HT:=hide ht;have HQ:Hid (∀W,Below wc.heap.size wc W→∀(k:Nat) (x:Ty),ts[k]?=some x→RowAt W b1 (o1+k*2) (tyc x)):=hide fun W f=>hr1 f
    clear q hT fl ll Tl hV hr1
    by_cases hK0:t.kind=0
    · have hK:=hK0
      have hwY:wr.heap.size≠Y:=by omega
      have hok:okT l t=t.name.isEmpty:=by unfold okT;simp [hK,isEmpty9]
      have hty:tyB l t=[0]:=by unfold tyB;simp [hK]
      rw [hK] at c0 d0 HMl el;go_wp2_with fail;refine (unhide HMl _).mono ?_;rintro e w3 ⟨rfl,T3,l3⟩;have x0:w3.cell? ⟨wr.heap.size,0,none⟩=some (.int .i64 0):=bx_cell l3 0 _ rfl;have x1:w3.cell? ⟨wr.heap.size,1,none⟩=some (.string ⟨t.name.toArray⟩):=bx_cell l3 1 _ rfl;have bu:Below w3.heap.size w3 (w3.alloc (.cells #[.int .i64 0] 3)):=(Below.refl _ _).alloc (Nat.le_refl _) _;have HP:=hide (gwu_any Y Y p ib ibad _ ((T3.on bu).inn) 1 (by omega) (some ⟨w3.heap.size,0,none⟩) 1 1 [0] ⟨rfl,.inr ⟨_,0,rfl,fun j z hz=>by rw [Nat.zero_add];exact ints_at w3 [0] _ rfl j z hz⟩⟩ (fun z hz=>by simp at hz;subst hz;omega) (by simp;omega));rw [put_one ⟨by unfold wide;omega,by simp⟩] at HP;have HTI:=hide (And.intro (T3.on bu) ((bu.block _ (lt_of_heap l3)).trans l3));clear bu;go_wp2_with fail;refine (unhide HP).mono ?_;rintro e w4 ⟨rfl,gu,fu⟩;simp only [ne_eq,not_true_eq_false,decide_false,Bool.or_false] at gu;have T4:=(unhide HTI).1.inner gu fu;have l4:=(fu.1 _ (lt_of_heap (unhide HTI).2) hwY).trans (unhide HTI).2;clear gu fu HP HTI;have HZ:=hide T4;have HVV:=hide ((unhide HV).one (unhide HT) (ob':=ob||!t.name.isEmpty) (ibad':=ibad) (ib':=ib++bytesW 1 0) (fun h=>by have:=h.2;omega) (by rw [hok];cases ob <;> cases ibad <;> cases t.name.isEmpty <;> rfl) (fun _=>by rw [hty];rfl) (by simp [bytesW_len]));clear T4;go_wp2;go_roundw
      case rel=>exact ⟨k+1,m+1,_,_,_,by go_num,by go_num,by omega,unhide HVV,unhide HZ⟩
      case measure=>simp [intOf];omega
    by_cases hK1:t.kind=1
    · have hK:=hK1
      have hwY:wr.heap.size≠Y:=by omega
      have hok:okT l t=t.name.isEmpty:=by unfold okT;simp [hK,isEmpty9]
      have hty:tyB l t=[1]:=by unfold tyB;simp [hK]
      rw [hK] at c0 d0 HMl el;go_wp2_with fail;refine (unhide HMl _).mono ?_;rintro e w3 ⟨rfl,T3,l3⟩;have x0:w3.cell? ⟨wr.heap.size,0,none⟩=some (.int .i64 1):=bx_cell l3 0 _ rfl;have x1:w3.cell? ⟨wr.heap.size,1,none⟩=some (.string ⟨t.name.toArray⟩):=bx_cell l3 1 _ rfl;have bu:Below w3.heap.size w3 (w3.alloc (.cells #[.int .i64 1] 3)):=(Below.refl _ _).alloc (Nat.le_refl _) _;have HP:=hide (gwu_any Y Y p ib ibad _ ((T3.on bu).inn) 1 (by omega) (some ⟨w3.heap.size,0,none⟩) 1 1 [1] ⟨rfl,.inr ⟨_,0,rfl,fun j z hz=>by rw [Nat.zero_add];exact ints_at w3 [1] _ rfl j z hz⟩⟩ (fun z hz=>by simp at hz;subst hz;omega) (by simp;omega));rw [put_one ⟨by unfold wide;omega,by simp⟩] at HP;have HTI:=hide (And.intro (T3.on bu) ((bu.block _ (lt_of_heap l3)).trans l3));clear bu;go_wp2_with fail;refine (unhide HP).mono ?_;rintro e w4 ⟨rfl,gu,fu⟩;simp only [ne_eq,not_true_eq_false,decide_false,Bool.or_false] at gu;have T4:=(unhide HTI).1.inner gu fu;have l4:=(fu.1 _ (lt_of_heap (unhide HTI).2) hwY).trans (unhide HTI).2;clear gu fu HP HTI;have HZ:=hide T4;have HVV:=hide ((unhide HV).one (unhide HT) (ob':=ob||!t.name.isEmpty) (ibad':=ibad) (ib':=ib++bytesW 1 1) (fun h=>by have:=h.2;omega) (by rw [hok];cases ob <;> cases ibad <;> cases t.name.isEmpty <;> rfl) (fun _=>by rw [hty];rfl) (by simp [bytesW_len]));clear T4;go_wp2;go_roundw
      case rel=>exact ⟨k+1,m+1,_,_,_,by go_num,by go_num,by omega,unhide HVV,unhide HZ⟩
      case measure=>simp [intOf];omega
    by_cases hK3:t.kind=3
    · have hK:=hK3
      have hwY:wr.heap.size≠Y:=by omega
      have hok:okT l t=t.name.isEmpty:=by unfold okT;simp [hK,isEmpty9]
      have hty:tyB l t=[5]:=by unfold tyB;simp [hK]
      rw [hK] at c0 d0 HMl el;go_wp2_with fail;refine (unhide HMl _).mono ?_;rintro e w3 ⟨rfl,T3,l3⟩;have x0:w3.cell? ⟨wr.heap.size,0,none⟩=some (.int .i64 3):=bx_cell l3 0 _ rfl;have x1:w3.cell? ⟨wr.heap.size,1,none⟩=some (.string ⟨t.name.toArray⟩):=bx_cell l3 1 _ rfl;have bu:Below w3.heap.size w3 (w3.alloc (.cells #[.int .i64 5] 3)):=(Below.refl _ _).alloc (Nat.le_refl _) _;have HP:=hide (gwu_any Y Y p ib ibad _ ((T3.on bu).inn) 1 (by omega) (some ⟨w3.heap.size,0,none⟩) 1 1 [5] ⟨rfl,.inr ⟨_,0,rfl,fun j z hz=>by rw [Nat.zero_add];exact ints_at w3 [5] _ rfl j z hz⟩⟩ (fun z hz=>by simp at hz;subst hz;omega) (by simp;omega));rw [put_one ⟨by unfold wide;omega,by simp⟩] at HP;have HTI:=hide (And.intro (T3.on bu) ((bu.block _ (lt_of_heap l3)).trans l3));clear bu;go_wp2_with fail;refine (unhide HP).mono ?_;rintro e w4 ⟨rfl,gu,fu⟩;simp only [ne_eq,not_true_eq_false,decide_false,Bool.or_false] at gu;have T4:=(unhide HTI).1.inner gu fu;have l4:=(fu.1 _ (lt_of_heap (unhide HTI).2) hwY).trans (unhide HTI).2;clear gu fu HP HTI;have HZ:=hide T4;have HVV:=hide ((unhide HV).one (unhide HT) (ob':=ob||!t.name.isEmpty) (ibad':=ibad) (ib':=ib++bytesW 1 5) (fun h=>by have:=h.2;omega) (by rw [hok];cases ob <;> cases ibad <;> cases t.name.isEmpty <;> rfl) (fun _=>by rw [hty];rfl) (by simp [bytesW_len]));clear T4;go_wp2;go_roundw
      case rel=>exact ⟨k+1,m+1,_,_,_,by go_num,by go_num,by omega,unhide HVV,unhide HZ⟩
      case measure=>simp [intOf];omega
    by_cases hK4:t.kind=4
    · have hK:=hK4
      have hwY:wr.heap.size≠Y:=by omega
      have hok:okT l t=decide (clsN l t.name≠0):=by unfold okT;simp [hK]
      have hty:tyB l t=7::bytesW 2 (clsN l t.name:Int):=by unfold tyB;simp [hK]
      rw [hK] at c0 d0 HMl el;go_wp2_with fail;refine (unhide HMl _).mono ?_;rintro e w3 ⟨rfl,T3,l3⟩;have x0:w3.cell? ⟨wr.heap.size,0,none⟩=some (.int .i64 4):=bx_cell l3 0 _ rfl;have x1:w3.cell? ⟨wr.heap.size,1,none⟩=some (.string ⟨t.name.toArray⟩):=bx_cell l3 1 _ rfl;have bu:Below w3.heap.size w3 (w3.alloc (.cells #[.int .i64 7] 3)):=(Below.refl _ _).alloc (Nat.le_refl _) _;have HP:=hide (gwu_any Y Y p ib ibad _ ((T3.on bu).inn) 1 (by omega) (some ⟨w3.heap.size,0,none⟩) 1 1 [7] ⟨rfl,.inr ⟨_,0,rfl,fun j z hz=>by rw [Nat.zero_add];exact ints_at w3 [7] _ rfl j z hz⟩⟩ (fun z hz=>by simp at hz;subst hz;omega) (by simp;omega));rw [put_one ⟨by unfold wide;omega,by simp⟩] at HP;have HTI:=hide (And.intro (T3.on bu) ((bu.block _ (lt_of_heap l3)).trans l3));clear bu;go_wp2_with fail;refine (unhide HP).mono ?_;rintro e w4 ⟨rfl,gu,fu⟩;simp only [ne_eq,not_true_eq_false,decide_false,Bool.or_false] at gu;have T4:=(unhide HTI).1.inner gu fu;have l4:=(fu.1 _ (lt_of_heap (unhide HTI).2) hwY).trans (unhide HTI).2;clear gu fu HP HTI;have x4:w4.cell? ⟨wr.heap.size,1,none⟩=some (.string ⟨t.name.toArray⟩):=bx_cell l4 1 _ rfl;have HP:=hide (gwclass_any wc Y Y p l ⟨(unhide HG).ein,by have:=(unhide HG).hB;omega,(unhide HG).ck⟩ _ _ w4 T4.came T4.inn t.name (by simp [bytesW_len];omega));have HTI:=hide T4;clear T4 l4 l3 T3;go_wp2_with fail;refine (unhide HP).mono ?_;rintro e w5 ⟨rfl,gu,fu⟩;have T5:=(unhide HTI).inner gu fu;clear gu fu HP HTI;have HZ:=hide T5;have HVV:=hide ((unhide HV).one (unhide HT) (ob':=ob||!true) (ibad':=ibad||decide (clsN l t.name=0)) (ib':=(ib++bytesW 1 7)++bytesW 2 (clsN l t.name:Int)) (fun h=>by have:=h.2;omega) (by rw [hok];cases ob <;> cases ibad <;> by_cases h0:clsN l t.name=0 <;> simp [h0]) (fun _=>by rw [hty,List.append_assoc];rfl) (by simp [bytesW_len]));clear T5;go_wp2;go_roundw
      case rel=>exact ⟨k+1,m+1,_,_,_,by go_num,by go_num,by omega,unhide HVV,unhide HZ⟩
      case measure=>simp [intOf];omega
    by_cases hK2:t.kind=2
    · have hK:=hK2
      have hwY:wr.heap.size≠Y:=by omega
      have hok:okT l t=t.name.isEmpty:=by unfold okT;simp [hK,isEmpty9]
      have hty:tyB l t=[4]:=by unfold tyB;simp [hK]
      rw [hK] at c0 d0 HMl el;go_wp2_with fail;refine (unhide HMl _).mono ?_;rintro e w3 ⟨rfl,T3,l3⟩;have x0:w3.cell? ⟨wr.heap.size,0,none⟩=some (.int .i64 2):=bx_cell l3 0 _ rfl;have x1:w3.cell? ⟨wr.heap.size,1,none⟩=some (.string ⟨t.name.toArray⟩):=bx_cell l3 1 _ rfl;have bu:Below w3.heap.size w3 (w3.alloc (.cells #[.int .i64 4] 3)):=(Below.refl _ _).alloc (Nat.le_refl _) _;have HP:=hide (gwu_any Y Y p ib ibad _ ((T3.on bu).inn) 1 (by omega) (some ⟨w3.heap.size,0,none⟩) 1 1 [4] ⟨rfl,.inr ⟨_,0,rfl,fun j z hz=>by rw [Nat.zero_add];exact ints_at w3 [4] _ rfl j z hz⟩⟩ (fun z hz=>by simp at hz;subst hz;omega) (by simp;omega));rw [put_one ⟨by unfold wide;omega,by simp⟩] at HP;have HTI:=hide (And.intro (T3.on bu) ((bu.block _ (lt_of_heap l3)).trans l3));clear bu;go_wp2_with fail;refine (unhide HP).mono ?_;rintro e w4 ⟨rfl,gu,fu⟩;simp only [ne_eq,not_true_eq_false,decide_false,Bool.or_false] at gu;have T4:=(unhide HTI).1.inner gu fu;have l4:=(fu.1 _ (lt_of_heap (unhide HTI).2) hwY).trans (unhide HTI).2;clear gu fu HP HTI;cases loc with
      | false=>
       have HZ:=hide T4;have HVV:=hide ((unhide HV).one (unhide HT) (ob':=ob||!t.name.isEmpty) (ibad':=ibad) (ib':=ib++bytesW 1 4) (fun h=>by cases h.1) (by rw [hok];cases ob <;> cases ibad <;> cases t.name.isEmpty <;> rfl) (fun _=>by rw [hty];rfl) (by simp [bytesW_len]));clear T4;go_wp2;go_roundw
       case rel=>exact ⟨k+1,m+1,_,_,_,by go_num,by go_num,by omega,unhide HVV,unhide HZ⟩
       case measure=>simp [intOf];omega
      | true=>
       have HMk:Hid (∀W v,TI wc w2 X B Y p oa b.length oc W (ob||!t.name.isEmpty) (ib++bytesW 1 4) ibad→Calls Tryz.prog 29 #[.pointer (some ⟨X,0,none⟩),.bool v] W fun e w'=>e=.returned (.tuple #[])∧TI wc w2 X B Y p oa b.length oc w' ((ob||!t.name.isEmpty)||!v) (ib++bytesW 1 4) ibad):=hide fun W v hW=>(gwmust_at X _ _ _ W hW.ox v).mono (by
        rintro e w' ⟨rfl,rfl⟩;exact ⟨rfl,hW.must _⟩)
       obtain ⟨k1,hk2⟩:∃k1,k1=k+1:=⟨_,rfl⟩;have hk1:(k:Int)+1=(k1:Int):=by omega
       by_cases hz:k1<n
       · have hz1:(k1:Int)<(n:Int):=by omega
         have hz0:(0:Int)≤(k1:Int):=by omega
         obtain ⟨z,hzz⟩:∃z,ts[k1]?=some z:=⟨_,List.getElem?_eq_getElem (by omega)⟩;obtain ⟨zk,zn⟩:=z
         by_cases hzk:zk=0
         · subst hzk
           by_cases hzn:zn=[]
           · subst hzn
             have qz:=unhide HQ w4 T4.came k1 _ hzz;have g0:=qz.zero;have g1:=qz 1 _ rfl
             skip
             have HTI:=hide T4;have HVV:=hide ((unhide HV).two (unhide HT) (ob':=(ob||!t.name.isEmpty)||!true) (ibad':=ibad) (ib':=ib++bytesW 1 4) ⟨rfl,hK⟩ (by rw [hok,←hk2,hzz];first | (simp;done) | (simp;cases ob <;> cases ibad <;> cases t.name.isEmpty <;> simp)) (fun _=>by rw [hty];rfl) (by simp [bytesW_len]));have hk3:(k1:Int)+1=((k+2:Nat):Int):=by omega
             have HK2:=hide hk2;clear qz hzz T4 hk2;go_wp2_with fail;refine (unhide HMk _ _ (unhide HTI)).mono ?_;rintro e w5 ⟨rfl,T5⟩;have HZ:=hide T5;clear T5;go_wp2;go_roundw
             case rel=>exact ⟨k+2,m+1,_,_,_,by first | rfl | (congr 1;omega) | go_num,by go_num,by omega,unhide HVV,unhide HZ⟩
             case measure=>have:=unhide HK2;simp [intOf];omega
           · obtain ⟨y1,y2⟩:=str0 w4 zn hzn
             have qz:=unhide HQ w4 T4.came k1 _ hzz;have g0:=qz.zero;have g1:=qz 1 _ rfl;have hze:zn.isEmpty=false:=by cases zn with | nil=>exact absurd rfl hzn | cons _ _=>rfl
             have HTI:=hide T4;have HVV:=hide ((unhide HV).two (unhide HT) (ob':=(ob||!t.name.isEmpty)||!false) (ibad':=ibad) (ib':=ib++bytesW 1 4) ⟨rfl,hK⟩ (by rw [hok,←hk2,hzz];first | (simp [hzn];done) | (simp [hzn];cases ob <;> cases ibad <;> cases t.name.isEmpty <;> simp)) (fun _=>by rw [hty];rfl) (by simp [bytesW_len]));have hk3:(k1:Int)+1=((k+2:Nat):Int):=by omega
             have HK2:=hide hk2;clear qz hzz T4 hk2;go_wp2_with fail;refine (unhide HMk _ _ (unhide HTI)).mono ?_;rintro e w5 ⟨rfl,T5⟩;have HZ:=hide T5;clear T5;go_wp2;go_roundw
             case rel=>exact ⟨k+2,m+1,_,_,_,by first | rfl | (congr 1;omega) | go_num,by go_num,by omega,unhide HVV,unhide HZ⟩
             case measure=>have:=unhide HK2;simp [intOf];omega
         · have hzk':(zk==0)=false:=by simpa using hzk
           have qz:=unhide HQ w4 T4.came k1 _ hzz;have g0:=qz.zero;have g1:=qz 1 _ rfl
           skip
           have HTI:=hide T4;have HVV:=hide ((unhide HV).two (unhide HT) (ob':=(ob||!t.name.isEmpty)||!false) (ibad':=ibad) (ib':=ib++bytesW 1 4) ⟨rfl,hK⟩ (by rw [hok,←hk2,hzz];first | (simp [hzk];done) | (simp [hzk];cases ob <;> cases ibad <;> cases t.name.isEmpty <;> simp)) (fun _=>by rw [hty];rfl) (by simp [bytesW_len]));have hk3:(k1:Int)+1=((k+2:Nat):Int):=by omega
           have HK2:=hide hk2;clear qz hzz T4 hk2;go_wp2_with fail;refine (unhide HMk _ _ (unhide HTI)).mono ?_;rintro e w5 ⟨rfl,T5⟩;have HZ:=hide T5;clear T5;go_wp2;go_roundw
           case rel=>exact ⟨k+2,m+1,_,_,_,by first | rfl | (congr 1;omega) | go_num,by go_num,by omega,unhide HVV,unhide HZ⟩
           case measure=>have:=unhide HK2;simp [intOf];omega
       · have hz1:¬(k1:Int)<(n:Int):=by omega
         have hzz:ts[k1]?=none:=List.getElem?_eq_none (by omega);have HTI:=hide T4;have HVV:=hide ((unhide HV).two (unhide HT) (ob':=(ob||!t.name.isEmpty)||!false) (ibad':=ibad) (ib':=ib++bytesW 1 4) ⟨rfl,hK⟩ (by rw [hok,←hk2,hzz];simp) (fun _=>by rw [hty];rfl) (by simp [bytesW_len]));have hk3:(k1:Int)+1=((k+2:Nat):Int):=by omega
         have HK2:=hide hk2;clear hzz T4 hk2;go_wp2_with fail;refine (unhide HMk _ _ (unhide HTI)).mono ?_;rintro e w5 ⟨rfl,T5⟩;have HZ:=hide T5;clear T5;go_wp2;go_roundw
         case rel=>exact ⟨k+2,m+1,_,_,_,by first | rfl | (congr 1;omega) | go_num,by go_num,by omega,unhide HVV,unhide HZ⟩
         case measure=>have:=unhide HK2;simp [intOf];omega
    have hwY:wr.heap.size≠Y:=by omega
    have hok:okT l t=false:=by unfold okT;simp [hK0,hK1,hK2,hK3,hK4]
    have e0:(t.kind==0)=false:=by simpa using hK0
    have e1:(t.kind==1)=false:=by simpa using hK1
    have e2:(t.kind==2)=false:=by simpa using hK2
    have e3:(t.kind==3)=false:=by simpa using hK3
    have e4:(t.kind==4)=false:=by simpa using hK4
    go_wp2_with fail;refine (unhide HMl _).mono ?_;rintro e w3 ⟨rfl,T3,l3⟩;have x0:w3.cell? ⟨wr.heap.size,0,none⟩=some (.int .i64 t.kind):=bx_cell l3 0 _ rfl;have x1:w3.cell? ⟨wr.heap.size,1,none⟩=some (.string ⟨t.name.toArray⟩):=bx_cell l3 1 _ rfl;have HM2:=hide (gwmust_at X _ _ _ w3 T3.ox false);have HTI:=hide T3;clear T3;go_wp2_with fail;refine (unhide HM2).mono ?_;rintro e w5 ⟨rfl,e5⟩;have T5:=(unhide HTI).must ((ob||!t.name.isEmpty)||!false);rw [←e5] at T5;clear e5;have HZ:=hide T5;have HVV:=hide ((unhide HV).one (unhide HT) (ob':=(ob||!t.name.isEmpty)||!false) (ibad':=ibad) (ib':=ib) (fun h=>hK2 h.2) (by rw [hok];cases ob <;> cases ibad <;> simp) (fun h=>by rw [hok] at h;cases h) (by simp));clear T5;go_wp2;go_roundw
    case rel=>exact ⟨k+1,m+1,_,_,_,by go_num,by go_num,by omega,unhide HVV,unhide HZ⟩
    case measure=>simp [intOf];omega
  · have hlt1:¬(k:Int)<(n:Int):=by omega
    have hdk:ts.drop k=[]:=List.drop_eq_nil_of_le (by omega);obtain ⟨v1,v2,v3,v4⟩:=hV;rw [hdk] at v1 v2;have hmf:fitsW 2 (m:Int) false:=⟨by unfold wide;omega,by simp;omega⟩;have hgo:goT l loc []=true:=by unfold goT;rfl
    have htd:toldT loc []=[]:=by unfold toldT;rfl
    rw [hgo] at v1;rw [htd] at v2;obtain ⟨_,g1,orow1,f2,hbad0,hrlt⟩:=unhide H1;have hXY:=hT.hXY;have orow2:Orw byc 5 1 wr B (.slice oa b.length oc) b:=orow1.below fun q hq=>(hT.oth q (hrlt q hq).1 (hrlt q hq).2).trans (f2.block q (hrlt q hq).1)
    have GO:Gw X B p b ob wr:=⟨hT.hBX,oa,oc,hT.ox,orow2⟩;have bu:Below wr.heap.size wr (wr.alloc (.cells #[.int .i64 (m:Int)] 3)):=(Below.refl _ _).alloc (Nat.le_refl _) _;have HP:=hide (gwu_any X B p b ob _ (GO.below bu) 2 (by omega) (some ⟨wr.heap.size,0,none⟩) 1 1 [(m:Int)] ⟨rfl,.inr ⟨_,0,rfl,fun j z hz=>by rw [Nat.zero_add];exact ints_at wr [(m:Int)] _ rfl j z hz⟩⟩ (fun z hz=>by simp at hz;subst hz;omega) (by omega));rw [put_one hmf] at HP;have hbelow:Below B w (wr.alloc (.cells #[.int .i64 (m:Int)] 3)):=(g1.2.trans (f2.mono (by omega))).trans (hT.bel.trans (bu.mono (by have:=hT.inn.hB;omega)));have HKS:Hid (Ks X w (wr.alloc (.cells #[.int .i64 (m:Int)] 3))):=hide fun k Z T hx ht hk=>by
     have h9:=lt_of_heap hk;have h8:=hT.inn.hB;exact (bu.block k (by omega)).trans ((hT.oth k (by omega) hx).trans ((f2.block k (by omega)).trans ((g1.1 k h9 hx).trans hk)))
    have HX:=hide (And.intro hbelow (And.intro (hT.inn.below bu) (And.intro v1 (And.intro v2 (And.intro v3 hbad0)))));clear v1 v2 hmf hgo htd g1 orow1 f2 hbad0 hrlt orow2 GO bu hbelow hT hdk;go_wp2_with fail;refine (unhide HP).mono ?_;rintro e w5 ⟨rfl,g5,f5⟩;simp only [ne_eq,not_true_eq_false,decide_false,Bool.or_false] at g5;obtain ⟨bb,hbb⟩:∃bb,b++bytesW 2 (m:Int)=bb:=⟨_,rfl⟩;rw [hbb] at g5;have hlb:bb.length=b.length+2:=by rw [←hbb];simp [bytesW_len]
    have HBB:=hide hbb;clear hbb;obtain ⟨hbelow,gi,v1,v2,v3,hbad0⟩:=unhide HX;have HKS5:Hid (Ks X w w5):=hide ((unhide HKS).trans (Ks.of_kx f5.1));have gi5:Gw Y Y p ib ibad w5:=gi.keep fun q Z T hq hZ _=>f5.1 q (lt_of_heap hZ) (by omega)
    obtain ⟨a5,c5,x5,r5⟩:=g5.blk;obtain ⟨ia,ic,y5,ri⟩:=gi5.blk;have c1:w5.cell? ⟨X,1,none⟩=some (.slice a5 bb.length c5):=bx_cell x5 1 _ rfl;have z1:=bx_thaw x5 1;have k1:w5.cell? ⟨Y,1,none⟩=some (.slice ia ib.length ic):=bx_cell y5 1 _ rfl;have hln:(bb.length+ib.length)*1≤140737488355328:=by rw [hlb];omega
    have hln2:bb.length+ib.length≤140737488355328:=by rw [hlb];omega
    have HLn:=hide hln;have HLn2:=hide hln2;have own5:Hid (∀q,Orw byc 5 1 (w5.drewN q) B (.slice a5 bb.length c5) bb):=hide fun q=>r5.below fun k hk=>(below_drewN (Below.refl _ _) q).block k (r5.lt k hk).2
    have src5:Hid (∀q,Ls 1 byc (w5.drewN q) ia ib.length ib):=hide fun q=>(ri.ls rkB10).below (below_drewN (Below.refl _ _) q)
    have nil5:ia=none→ib.length=0∧ic=0:=fun e=>by
     obtain ⟨a',c',e1,h9,_⟩:=ri.form;injection e1 with ea en ec
     exact h9 (ea▸e) |>.imp id (fun h=>by rw [ec];exact h)
    have NIL:=hide nil5;have hB5:Hid (∀q,B≤(w5.drewN q).heap.size):=hide fun q=>Nat.le_trans g5.hB (below_drewN (Below.refl w5.heap.size w5) q).size
    have HGR:Hid (∀q v' w7,Orw byc 5 1 w7 B v' (bb++ib)→(w5.drewN q).grownBy w7 (Value.slice a5 bb.length c5).ownBlock→w7.heap[X]?=some (.cells #[.slice p.a p.n p.c,.slice a5 bb.length c5,.bool ob] 65 (0,0))∧w7.heap[Y]?=some (.cells #[.slice p.a p.n p.c,.slice ia ib.length ic,.bool ibad] 65 (0,0))∧Below B w5 w7∧(∀(k:Nat) (Z:Array Value) (T:TypeId),T≠5→w5.heap[k]?=some (.cells Z T (0,0))→w7.heap[k]?=some (.cells Z T (0,0)))):=hide fun q v' w7 o7 g7=>by
     have hne:∀(k:Nat) (Z:Array Value) (T:TypeId),T≠5→w5.heap[k]?=some (.cells Z T (0,0))→w7.heap[k]?=some (.cells Z T (0,0)):=fun k Z T hT9 hk=>by
      have hk2:(w5.drewN q).heap[k]?=some (.cells Z T (0,0)):=((below_drewN (Below.refl _ _) q).block k (lt_of_heap hk)).trans hk;refine (grown_other g7 (lt_of_heap hk2) fun e1=>?_).trans hk2;obtain ⟨V,h1⟩:=orw_block r5 e1;rw [h1] at hk;injection hk with hk
      injection hk with _ hk
      exact hT9 hk.symm
     exact ⟨hne _ _ _ (by decide) x5,hne _ _ _ (by decide) y5,Below.grown ((below_drewN (Below.refl w5.heap.size w5) q).mono g5.hB) g7 (Nat.le_trans g5.hB (below_drewN (Below.refl w5.heap.size w5) q).size) (fun k hk=>(r5.lt k hk).1),hne⟩
    have HLB:=hide hlb;have H5:=hide (And.intro hbelow (And.intro f5 (And.intro v1 (And.intro v2 (And.intro v3 (And.intro hbad0 (And.intro g5.hX hXY)))))));clear hbelow gi v1 v2 v3 hbad0 gi5 g5 f5 x5 r5 y5 ri nil5 hln hln2 HX HP hlb;go_wp2
    go_region_law (first
     | (refine stepB_append8 rfl (.tmp 101) (.tmp 105) rfl B (.slice a5 bb.length c5) bb (by rfl) (by first | exact unhide own5 0 | exact unhide own5 1) ia ib.length ic ib (by rfl) (by first | exact unhide src5 0 | exact unhide src5 1) (unhide NIL) (unhide HLn) (unhide HLn2) (by first | exact unhide hB5 0 | exact unhide hB5 1) ?_;intro v7 w7 o7 g7;obtain ⟨a7,c7,rfl,q7⟩:=o7.form;clear q7;have K7:=hide (unhide HGR 1 _ w7 o7 g7);obtain ⟨x7,y7,b7,k7⟩:=unhide K7;have cx7:w7.cell? ⟨X,1,none⟩=some (.slice a5 bb.length c5):=bx_cell x7 1 _ rfl;have zx7:=bx_thaw x7 1;have O7:=hide o7;clear x7 y7 b7 k7 o7 g7))
    all_goals
     obtain ⟨x7,y7,b7,k7⟩:=unhide K7;have o7:=unhide O7;obtain ⟨hbelow,f5,v1,v2,v3,hbad0,hBX9,hXY9⟩:=unhide H5;have x8:=heap_setCell_same w7 X 1 _ _ (.slice a7 (bb.length+ib.length) c7) x7;have y8:(w7.setCell ⟨X,1,none⟩ (.slice a7 (bb.length+ib.length) c7)).heap[Y]?=_:=(Below.heap_setCell _ _ _ _ (by simp only;omega)).trans y7;have o8:Orw byc 5 1 (w7.setCell ⟨X,1,none⟩ (.slice a7 (bb.length+ib.length) c7)) B (.slice a7 (bb++ib).length c7) (bb++ib):=o7.keep fun q Z _ hq=>Below.heap_setCell _ _ _ _ fun e=>by
      simp only at e;subst e;rw [x7] at hq;injection hq with hq
      injection hq with _ hq
      cases hq
     have b8:Below B w5 (w7.setCell ⟨X,1,none⟩ (.slice a7 (bb.length+ib.length) c7)):=b7.setCell (p:=⟨X,1,none⟩) hBX9 _;have d2:(w7.setCell ⟨X,1,none⟩ (.slice a7 (bb.length+ib.length) c7)).cell? ⟨Y,2,none⟩=some (.bool ibad):=bx_cell y8 2 _ rfl;have HK8:Hid (Ks X w5 (w7.setCell ⟨X,1,none⟩ (.slice a7 (bb.length+ib.length) c7))):=hide fun k Z T hx ht hk=>(Below.heap_setCell _ _ _ _ hx).trans (k7 k Z T ht hk)
     clear k7;generalize w7.setCell ⟨X,1,none⟩ (.slice a7 (bb.length+ib.length) c7)=w8 at *;have HM9:=hide (gwmust_at X _ _ ob w8 x8 (!ibad));have H8:=hide (And.intro x8 (And.intro o8 b8));clear x7 y7 b7 o7 hbelow f5 v1 v2 v3 hbad0 x8 y8 o8 b8 O7 K7 cx7 zx7 c1 k1 z1;go_wp2_with fail;refine (unhide HM9).mono ?_;rintro e w9 ⟨rfl,e9⟩;obtain ⟨x8,o8,b8⟩:=unhide H8;have G8:Gw X B p (bb++ib) ob w8:=⟨hBX9,a7,c7,by rw [List.length_append];exact x8,o8⟩;have G9:=G8.mark (ob||!(!ibad));have b9:Below B w8 w9:=by rw [e9];exact (Below.refl _ _).setCell (p:=⟨X,2,none⟩) hBX9 _
     rw [←e9] at G9;have HK9:Hid (Ks X w w9):=hide (((unhide HKS5).trans (unhide HK8)).trans fun k Z T hx ht hk=>by rw [e9];exact (Below.heap_setCell _ _ _ _ hx).trans hk);have HF:=hide (And.intro G9 (b8.trans b9));clear e9 G8 G9 b9 x8 o8 b8 H8 HM9;go_wp2;go_end0;obtain ⟨hbelow,f5,v1,v2,v3,hbad0,_,_⟩:=unhide H5;obtain ⟨G9,b9⟩:=unhide HF;have hbadq:(ob||!(!ibad))=(bad||!rightT l loc ts):=by
      have e1:(bad||!rightT l loc ts)=(bad0||!goT l loc ts):=by
       rw [←hbad0];unfold rightT;rw [hln];cases bad <;> cases decide (n≤64) <;> cases goT l loc ts <;> rfl
      rw [e1,v1];cases ob <;> cases ibad <;> rfl
     rw [hbadq] at G9;refine ⟨bb++ib,rfl,G9,fun h0=>?_,?_,hbelow.trans (f5.2.trans b9),unhide HK9⟩
     · rw [←hbadq] at h0
       have h2:ob=false∧ibad=false:=by
        revert h0
        cases ob <;> cases ibad <;> simp
       obtain ⟨q1,q2⟩:=v2 h2.1 h2.2;simp only [List.flatMap_nil,List.append_nil,List.length_nil,Nat.add_zero] at q1 q2;rw [←unhide HBB,q1,q2,List.append_assoc];rfl
     · rw [List.length_append]
       have:=v3;have:=unhide HLB;omega
end Go.Proofs.YtlabllgifkklhaaGreatDoor
