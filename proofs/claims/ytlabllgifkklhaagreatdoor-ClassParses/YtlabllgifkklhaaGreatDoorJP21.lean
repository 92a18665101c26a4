/- Joined: CrI CrJ CrK GtD CrL. -/
import Derived.Test.YtlabllgifkklhaaGreatDoorJP19
import Derived.Test.YtlabllgifkklhaaGreatDoorJP20
import Derived.Deep.Cut
import Derived.Deep.RegionWith
set_option linter.unusedVariables false
set_option maxRecDepth 100000
set_option maxHeartbeats 3200000
namespace Go.Proofs.YtlabllgifkklhaaGreatDoor
open Go.RowKit
def rlF_post (C:Cr) (i:Nat) (en:Bool) (w:World) (e:Ending) (w':World):Prop:=
 ∃(s:Sl) (xs:List Fd) (i':Nat) (en':Bool),e=.returned s.v∧(Orw fdc 58 3 w' w.heap.size s.v xs∧(∀x∈xs,(fun (_:World) (_:Nat) (x:Fd)=>fitI x.acc∧Txt8 C.l x.name∧Txt8 C.l x.type) w' w.heap.size x)∧xs.length≤4294967296)∧Got (listR (fieldR C.l)) C.bs i en xs i' en'∧Rd8 C i' en' w'∧FX C w w'
theorem rlF_any (C:Cr) (i:Nat) (en:Bool) (w:World) (h:Rd8 C i en w) (hT:Tab8 w) :
 Calls Tryz.prog 100 #[.pointer (some ⟨C.X,0,none⟩),.func (.func 101) #[.pointer (some ⟨C.X,0,none⟩)] #[]] w (rlF_post C i en w):=by
 have hB:=h.hB;have hB1:=h.one;have HN:=hide (rNumber_any C i en w h 2 (by omega));have HO:Hid (∀j ej W,Rd8 C j ej W→Tab8 W→Calls Tryz.prog 101 #[.pointer (some ⟨C.X,0,none⟩)] W fun e w'=>∃(x:Fd) (i':Nat) (en':Bool),e=.returned (.agg (fdc x).toArray)∧(fun (_:World) (_:Nat) (x:Fd)=>fitI x.acc∧Txt8 C.l x.name∧Txt8 C.l x.type) w' W.heap.size x∧Got (fieldR C.l) C.bs j ej x i' en'∧Rd8 C i' en' w'∧FX C W w'):=hide fun j ej W hW hTW=>rField_any C j ej W hW
 have KO:Hid (∀(W W2:World) (B:Nat) (x:Fd),(fun (_:World) (_:Nat) (x:Fd)=>fitI x.acc∧Txt8 C.l x.name∧Txt8 C.l x.type) W B x→(∀(k:Nat) (Z:Array Value) (T:TypeId),W.heap[k]?=some (.cells Z T (0,0))→T=5∨T=93∨T=52∨T=143→W2.heap[k]?=W.heap[k]?)→(fun (_:World) (_:Nat) (x:Fd)=>fitI x.acc∧Txt8 C.l x.name∧Txt8 C.l x.type) W2 B x):=hide (fun W W2 B x hx _=>hx);have HT:=hide hT;clear h hT;go_enter Tryz.func100,Tryz.ntmps100;go_wp2_with fail;refine (unhide HN).mono ?_;rintro e w1 ⟨n,i1,e1,rfl,hn,g1,R1,f1⟩;obtain ⟨N,rfl⟩:∃N:Nat,n=N:=⟨n.toNat,by omega⟩;have HG:=hide g1;have H1:=hide (And.intro R1 f1);clear HN g1 R1 f1;go_wp2
 go_loopw [6] (fun v wr=>∃xs j ej,Orw fdc 58 3 wr w.heap.size v xs∧xs.length≤N∧(∀x∈xs,(fun (_:World) (_:Nat) (x:Fd)=>fitI x.acc∧Txt8 C.l x.name∧Txt8 C.l x.type) wr w.heap.size x)∧Mid (fieldR C.l) C.bs N e1 (C.bs.drop i1) xs j ej∧Rd8 C j ej wr∧FX C w wr) (fun v _=>N-slLen v)
 case atStart=>exact ⟨[],i1,e1,Orw.nil _ _ _ _ _,Nat.zero_le _,(fun x hx=>by cases hx),⟨fun e=>e,fun e vs r hr=>⟨e,vs,rfl,hr⟩⟩,(unhide H1).1,(unhide H1).2⟩
 case round=>
  obtain ⟨xs,j,ej,hO,hN,hE,hM,hR,hF⟩:=hrel;obtain ⟨a,c,rfl,hf1,hf2,hf3⟩:=hO.form;obtain ⟨ra,rc,rq,_⟩:=hR.pl;have cX:=bx_cell rq 2 _ rfl
  by_cases hlt:xs.length<N
  · have hlt1:(xs.length:Int)<(N:Int):=by omega
    cases ej with
    | true=>
     have HD:=hide (And.intro hO (And.intro hE (And.intro hM (And.intro hR hF))));clear hO hE hM hR hF rq hf1 hf2 hf3;go_wp2;go_ret;obtain ⟨hO,hE,hM,hR,hF⟩:=unhide HD;exact ⟨⟨a,xs.length,c⟩,xs,j,true,rfl,⟨hO,hE,by omega⟩,Mid.done (unhide HG) rfl hM (.inr rfl),hR,hF⟩
    | false=>
     have HP:=hide (unhide HO j false wr hR (hF.tab hB1 (unhide HT)));have HD:=hide (And.intro hO (And.intro hE (And.intro hM (And.intro hR hF))));clear hO hE hM hR hF rq hf1 hf2 hf3;go_wp2_with fail;refine (unhide HP).mono ?_;rintro e w2 ⟨x,j2,e2,rfl,ok2,g2,R2,f2⟩;obtain ⟨hO,hE,hM,hR,hF⟩:=unhide HD;clear HP cX HD;have hsz:=hF.size;have O2:Orw fdc 58 3 w2 w.heap.size (.slice a xs.length c) xs:=hR.orw f2 hO (by decide) (by decide);have F2:=hF.trans f2;have hE2:=hE;have b3:Below w2.heap.size w2 (w2.alloc (.cells #[.int .i64 x.acc,.string ⟨x.name.toArray⟩,.string ⟨x.type.toArray⟩] 58)):=(Below.refl _ _).alloc (Nat.le_refl _) _;have O3:Orw fdc 58 3 (w2.alloc (.cells #[.int .i64 x.acc,.string ⟨x.name.toArray⟩,.string ⟨x.type.toArray⟩] 58)) w.heap.size (.slice a xs.length c) xs:=O2.below fun k hk=>b3.block k (O2.lt k hk).2
     have l3:=ls_one (cs:=fdc) (sz:=3) w2 #[.int .i64 x.acc,.string ⟨x.name.toArray⟩,.string ⟨x.type.toArray⟩] 58 x rfl;have R3:=R2.below b3;have F3:=F2.on b3 hB;have hM2:=hM.next (by simpa using hlt) g2;have ok3:∀y∈xs++[x],(fun (_:World) (_:Nat) (x:Fd)=>fitI x.acc∧Txt8 C.l x.name∧Txt8 C.l x.type) (w2.alloc (.cells #[.int .i64 x.acc,.string ⟨x.name.toArray⟩,.string ⟨x.type.toArray⟩] 58)) w.heap.size y:=fun y hy=>by
      rcases List.mem_append.1 hy with hy | hy
      · exact hE2 y hy
      · simp at hy
        subst hy;exact ok2
     have hln:(xs.length+1)*40≤140737488355328:=by omega
     have hln2:xs.length+1≤140737488355328:=by omega
     have hbs:w.heap.size≤(w2.alloc (.cells #[.int .i64 x.acc,.string ⟨x.name.toArray⟩,.string ⟨x.type.toArray⟩] 58)).heap.size:=F3.size;have HO3:=hide O3;have HL3:=hide l3;have HLN:=hide hln;have HLN2:=hide hln2;have HBS:=hide hbs;have HX:=hide (And.intro R3 (And.intro F3 (And.intro ok3 hM2)));clear hO hE hM hR hF O2 F2 hE2 b3 O3 l3 R3 F3 hM2 ok3 ok2 g2 R2 f2 hln hln2 hbs;unfold fdc
     go_wp2_with (first
      | (at_builtin;refine listR_append rkF rfl _ _ rfl w.heap.size _ _ rfl (unhide HO3) _ 1 1 [_] rfl (unhide HL3) (fun e=>by cases e) (unhide HLN) (unhide HLN2) (unhide HBS) ?_)
      | go_in)
     intro v' w4 o4 g4;obtain ⟨R3,F3,ok3,hM2⟩:=unhide HX;obtain ⟨a4,c4,hv4,_⟩:=o4.form;have R4:=R3.grown (unhide HO3) g4 (by decide);have F4:=F3.grown hB (unhide HO3) g4;have ok4:=ok3;have HZ:=hide (And.intro o4 (And.intro ok4 (And.intro R4 (And.intro F4 hM2))));have HV:=hide hv4;clear o4 ok4 R4 F4 R3 F3 ok3 hM2 g4 HX HO3 HL3 HLN HLN2 HBS hv4;go_wp2;go_roundw
     case rel=>
      obtain ⟨o4,ok4,R4,F4,hM2⟩:=unhide HZ;exact ⟨_,j2,e2,o4,by simp;omega,ok4,hM2,R4,F4⟩
     case measure=>
      rw [unhide HV];simp [slLen];omega
  · have hlt1:¬(xs.length:Int)<(N:Int):=by omega
    have HD:=hide (And.intro hO (And.intro hE (And.intro hM (And.intro hR hF))));clear hO hE hM hR hF rq hf1 hf2 hf3;go_wp2;go_ret;obtain ⟨hO,hE,hM,hR,hF⟩:=unhide HD;exact ⟨⟨a,xs.length,c⟩,xs,j,ej,rfl,⟨hO,hE,by omega⟩,Mid.done (unhide HG) rfl hM (.inl (by simpa using hlt)),hR,hF⟩
def rlH_post (C:Cr) (i:Nat) (en:Bool) (w:World) (e:Ending) (w':World):Prop:=
 ∃(s:Sl) (xs:List Hd) (i':Nat) (en':Bool),e=.returned s.v∧(Orw hdc 93 4 w' w.heap.size s.v xs∧(∀x∈xs,(fun (_:World) (_:Nat) (x:Hd)=>HdFit x) w' w.heap.size x)∧xs.length≤4294967296)∧Got (listR hdR) C.bs i en xs i' en'∧Rd8 C i' en' w'∧FX C w w'
theorem rlH_any (C:Cr) (i:Nat) (en:Bool) (w:World) (h:Rd8 C i en w) (hT:Tab8 w) :
 Calls Tryz.prog 148 #[.pointer (some ⟨C.X,0,none⟩),.func (.func 149) #[.pointer (some ⟨C.X,0,none⟩)] #[]] w (rlH_post C i en w):=by
 have hB:=h.hB;have hB1:=h.one;have HN:=hide (rNumber_any C i en w h 2 (by omega));have HO:Hid (∀j ej W,Rd8 C j ej W→Tab8 W→Calls Tryz.prog 149 #[.pointer (some ⟨C.X,0,none⟩)] W fun e w'=>∃(x:Hd) (i':Nat) (en':Bool),e=.returned (.agg (hdc x).toArray)∧(fun (_:World) (_:Nat) (x:Hd)=>HdFit x) w' W.heap.size x∧Got hdR C.bs j ej x i' en'∧Rd8 C i' en' w'∧FX C W w'):=hide fun j ej W hW hTW=>rHandler_any C j ej W hW
 have KO:Hid (∀(W W2:World) (B:Nat) (x:Hd),(fun (_:World) (_:Nat) (x:Hd)=>HdFit x) W B x→(∀(k:Nat) (Z:Array Value) (T:TypeId),W.heap[k]?=some (.cells Z T (0,0))→T=5∨T=93∨T=52∨T=143→W2.heap[k]?=W.heap[k]?)→(fun (_:World) (_:Nat) (x:Hd)=>HdFit x) W2 B x):=hide (fun W W2 B x hx _=>hx);have HT:=hide hT;clear h hT;go_enter Tryz.func148,Tryz.ntmps148;go_wp2_with fail;refine (unhide HN).mono ?_;rintro e w1 ⟨n,i1,e1,rfl,hn,g1,R1,f1⟩;obtain ⟨N,rfl⟩:∃N:Nat,n=N:=⟨n.toNat,by omega⟩;have HG:=hide g1;have H1:=hide (And.intro R1 f1);clear HN g1 R1 f1;go_wp2
 go_loopw [6] (fun v wr=>∃xs j ej,Orw hdc 93 4 wr w.heap.size v xs∧xs.length≤N∧(∀x∈xs,(fun (_:World) (_:Nat) (x:Hd)=>HdFit x) wr w.heap.size x)∧Mid hdR C.bs N e1 (C.bs.drop i1) xs j ej∧Rd8 C j ej wr∧FX C w wr) (fun v _=>N-slLen v)
 case atStart=>exact ⟨[],i1,e1,Orw.nil _ _ _ _ _,Nat.zero_le _,(fun x hx=>by cases hx),⟨fun e=>e,fun e vs r hr=>⟨e,vs,rfl,hr⟩⟩,(unhide H1).1,(unhide H1).2⟩
 case round=>
  obtain ⟨xs,j,ej,hO,hN,hE,hM,hR,hF⟩:=hrel;obtain ⟨a,c,rfl,hf1,hf2,hf3⟩:=hO.form;obtain ⟨ra,rc,rq,_⟩:=hR.pl;have cX:=bx_cell rq 2 _ rfl
  by_cases hlt:xs.length<N
  · have hlt1:(xs.length:Int)<(N:Int):=by omega
    cases ej with
    | true=>
     have HD:=hide (And.intro hO (And.intro hE (And.intro hM (And.intro hR hF))));clear hO hE hM hR hF rq hf1 hf2 hf3;go_wp2;go_ret;obtain ⟨hO,hE,hM,hR,hF⟩:=unhide HD;exact ⟨⟨a,xs.length,c⟩,xs,j,true,rfl,⟨hO,hE,by omega⟩,Mid.done (unhide HG) rfl hM (.inr rfl),hR,hF⟩
    | false=>
     have HP:=hide (unhide HO j false wr hR (hF.tab hB1 (unhide HT)));have HD:=hide (And.intro hO (And.intro hE (And.intro hM (And.intro hR hF))));clear hO hE hM hR hF rq hf1 hf2 hf3;go_wp2_with fail;refine (unhide HP).mono ?_;rintro e w2 ⟨x,j2,e2,rfl,ok2,g2,R2,f2⟩;obtain ⟨hO,hE,hM,hR,hF⟩:=unhide HD;clear HP cX HD;have hsz:=hF.size;have O2:Orw hdc 93 4 w2 w.heap.size (.slice a xs.length c) xs:=hR.orw f2 hO (by decide) (by decide);have F2:=hF.trans f2;have hE2:=hE;have b3:Below w2.heap.size w2 (w2.alloc (.cells #[.int .i64 x.frm,.int .i64 x.to_,.int .i64 x.at_,.int .i64 x.cls] 93)):=(Below.refl _ _).alloc (Nat.le_refl _) _;have O3:Orw hdc 93 4 (w2.alloc (.cells #[.int .i64 x.frm,.int .i64 x.to_,.int .i64 x.at_,.int .i64 x.cls] 93)) w.heap.size (.slice a xs.length c) xs:=O2.below fun k hk=>b3.block k (O2.lt k hk).2
     have l3:=ls_one (cs:=hdc) (sz:=4) w2 #[.int .i64 x.frm,.int .i64 x.to_,.int .i64 x.at_,.int .i64 x.cls] 93 x rfl;have R3:=R2.below b3;have F3:=F2.on b3 hB;have hM2:=hM.next (by simpa using hlt) g2;have ok3:∀y∈xs++[x],(fun (_:World) (_:Nat) (x:Hd)=>HdFit x) (w2.alloc (.cells #[.int .i64 x.frm,.int .i64 x.to_,.int .i64 x.at_,.int .i64 x.cls] 93)) w.heap.size y:=fun y hy=>by
      rcases List.mem_append.1 hy with hy | hy
      · exact hE2 y hy
      · simp at hy
        subst hy;exact ok2
     have hln:(xs.length+1)*32≤140737488355328:=by omega
     have hln2:xs.length+1≤140737488355328:=by omega
     have hbs:w.heap.size≤(w2.alloc (.cells #[.int .i64 x.frm,.int .i64 x.to_,.int .i64 x.at_,.int .i64 x.cls] 93)).heap.size:=F3.size;have HO3:=hide O3;have HL3:=hide l3;have HLN:=hide hln;have HLN2:=hide hln2;have HBS:=hide hbs;have HX:=hide (And.intro R3 (And.intro F3 (And.intro ok3 hM2)));clear hO hE hM hR hF O2 F2 hE2 b3 O3 l3 R3 F3 hM2 ok3 ok2 g2 R2 f2 hln hln2 hbs;unfold hdc
     go_wp2_with (first
      | (at_builtin;refine listR_append rkH rfl _ _ rfl w.heap.size _ _ rfl (unhide HO3) _ 1 1 [_] rfl (unhide HL3) (fun e=>by cases e) (unhide HLN) (unhide HLN2) (unhide HBS) ?_)
      | go_in)
     intro v' w4 o4 g4;obtain ⟨R3,F3,ok3,hM2⟩:=unhide HX;obtain ⟨a4,c4,hv4,_⟩:=o4.form;have R4:=R3.grown (unhide HO3) g4 (by decide);have F4:=F3.grown hB (unhide HO3) g4;have ok4:=ok3;have HZ:=hide (And.intro o4 (And.intro ok4 (And.intro R4 (And.intro F4 hM2))));have HV:=hide hv4;clear o4 ok4 R4 F4 R3 F3 ok3 hM2 g4 HX HO3 HL3 HLN HLN2 HBS hv4;go_wp2;go_roundw
     case rel=>
      obtain ⟨o4,ok4,R4,F4,hM2⟩:=unhide HZ;exact ⟨_,j2,e2,o4,by simp;omega,ok4,hM2,R4,F4⟩
     case measure=>
      rw [unhide HV];simp [slLen];omega
  · have hlt1:¬(xs.length:Int)<(N:Int):=by omega
    have HD:=hide (And.intro hO (And.intro hE (And.intro hM (And.intro hR hF))));clear hO hE hM hR hF rq hf1 hf2 hf3;go_wp2;go_ret;obtain ⟨hO,hE,hM,hR,hF⟩:=unhide HD;exact ⟨⟨a,xs.length,c⟩,xs,j,ej,rfl,⟨hO,hE,by omega⟩,Mid.done (unhide HG) rfl hM (.inl (by simpa using hlt)),hR,hF⟩
def rlT_post (C:Cr) (i:Nat) (en:Bool) (w:World) (e:Ending) (w':World):Prop:=
 ∃(s:Sl) (xs:List Ty) (i':Nat) (en':Bool),e=.returned s.v∧(Orw tyc 143 2 w' w.heap.size s.v xs∧(∀x∈xs,(fun (_:World) (_:Nat) (x:Ty)=>fitI x.kind∧Txt8 C.l x.name) w' w.heap.size x)∧xs.length≤4294967296)∧Got (listR (kdR C.l)) C.bs i en xs i' en'∧Rd8 C i' en' w'∧FX C w w'
theorem rlT_any (C:Cr) (i:Nat) (en:Bool) (w:World) (h:Rd8 C i en w) (hT:Tab8 w) :
 Calls Tryz.prog 158 #[.pointer (some ⟨C.X,0,none⟩),.func (.func 159) #[.pointer (some ⟨C.X,0,none⟩)] #[]] w (rlT_post C i en w):=by
 have hB:=h.hB;have hB1:=h.one;have HN:=hide (rNumber_any C i en w h 2 (by omega));have HO:Hid (∀j ej W,Rd8 C j ej W→Tab8 W→Calls Tryz.prog 159 #[.pointer (some ⟨C.X,0,none⟩)] W fun e w'=>∃(x:Ty) (i':Nat) (en':Bool),e=.returned (.agg (tyc x).toArray)∧(fun (_:World) (_:Nat) (x:Ty)=>fitI x.kind∧Txt8 C.l x.name) w' W.heap.size x∧Got (kdR C.l) C.bs j ej x i' en'∧Rd8 C i' en' w'∧FX C W w'):=hide fun j ej W hW hTW=>rKind_any C j ej W hW hTW
 have KO:Hid (∀(W W2:World) (B:Nat) (x:Ty),(fun (_:World) (_:Nat) (x:Ty)=>fitI x.kind∧Txt8 C.l x.name) W B x→(∀(k:Nat) (Z:Array Value) (T:TypeId),W.heap[k]?=some (.cells Z T (0,0))→T=5∨T=93∨T=52∨T=143→W2.heap[k]?=W.heap[k]?)→(fun (_:World) (_:Nat) (x:Ty)=>fitI x.kind∧Txt8 C.l x.name) W2 B x):=hide (fun W W2 B x hx _=>hx);have HT:=hide hT;clear h hT;go_enter Tryz.func158,Tryz.ntmps158;go_wp2_with fail;refine (unhide HN).mono ?_;rintro e w1 ⟨n,i1,e1,rfl,hn,g1,R1,f1⟩;obtain ⟨N,rfl⟩:∃N:Nat,n=N:=⟨n.toNat,by omega⟩;have HG:=hide g1;have H1:=hide (And.intro R1 f1);clear HN g1 R1 f1;go_wp2
 go_loopw [6] (fun v wr=>∃xs j ej,Orw tyc 143 2 wr w.heap.size v xs∧xs.length≤N∧(∀x∈xs,(fun (_:World) (_:Nat) (x:Ty)=>fitI x.kind∧Txt8 C.l x.name) wr w.heap.size x)∧Mid (kdR C.l) C.bs N e1 (C.bs.drop i1) xs j ej∧Rd8 C j ej wr∧FX C w wr) (fun v _=>N-slLen v)
 case atStart=>exact ⟨[],i1,e1,Orw.nil _ _ _ _ _,Nat.zero_le _,(fun x hx=>by cases hx),⟨fun e=>e,fun e vs r hr=>⟨e,vs,rfl,hr⟩⟩,(unhide H1).1,(unhide H1).2⟩
 case round=>
  obtain ⟨xs,j,ej,hO,hN,hE,hM,hR,hF⟩:=hrel;obtain ⟨a,c,rfl,hf1,hf2,hf3⟩:=hO.form;obtain ⟨ra,rc,rq,_⟩:=hR.pl;have cX:=bx_cell rq 2 _ rfl
  by_cases hlt:xs.length<N
  · have hlt1:(xs.length:Int)<(N:Int):=by omega
    cases ej with
    | true=>
     have HD:=hide (And.intro hO (And.intro hE (And.intro hM (And.intro hR hF))));clear hO hE hM hR hF rq hf1 hf2 hf3;go_wp2;go_ret;obtain ⟨hO,hE,hM,hR,hF⟩:=unhide HD;exact ⟨⟨a,xs.length,c⟩,xs,j,true,rfl,⟨hO,hE,by omega⟩,Mid.done (unhide HG) rfl hM (.inr rfl),hR,hF⟩
    | false=>
     have HP:=hide (unhide HO j false wr hR (hF.tab hB1 (unhide HT)));have HD:=hide (And.intro hO (And.intro hE (And.intro hM (And.intro hR hF))));clear hO hE hM hR hF rq hf1 hf2 hf3;go_wp2_with fail;refine (unhide HP).mono ?_;rintro e w2 ⟨x,j2,e2,rfl,ok2,g2,R2,f2⟩;obtain ⟨hO,hE,hM,hR,hF⟩:=unhide HD;clear HP cX HD;have hsz:=hF.size;have O2:Orw tyc 143 2 w2 w.heap.size (.slice a xs.length c) xs:=hR.orw f2 hO (by decide) (by decide);have F2:=hF.trans f2;have hE2:=hE;have b3:Below w2.heap.size w2 (w2.alloc (.cells #[.int .i64 x.kind,.string ⟨x.name.toArray⟩] 143)):=(Below.refl _ _).alloc (Nat.le_refl _) _;have O3:Orw tyc 143 2 (w2.alloc (.cells #[.int .i64 x.kind,.string ⟨x.name.toArray⟩] 143)) w.heap.size (.slice a xs.length c) xs:=O2.below fun k hk=>b3.block k (O2.lt k hk).2
     have l3:=ls_one (cs:=tyc) (sz:=2) w2 #[.int .i64 x.kind,.string ⟨x.name.toArray⟩] 143 x rfl;have R3:=R2.below b3;have F3:=F2.on b3 hB;have hM2:=hM.next (by simpa using hlt) g2;have ok3:∀y∈xs++[x],(fun (_:World) (_:Nat) (x:Ty)=>fitI x.kind∧Txt8 C.l x.name) (w2.alloc (.cells #[.int .i64 x.kind,.string ⟨x.name.toArray⟩] 143)) w.heap.size y:=fun y hy=>by
      rcases List.mem_append.1 hy with hy | hy
      · exact hE2 y hy
      · simp at hy
        subst hy;exact ok2
     have hln:(xs.length+1)*24≤140737488355328:=by omega
     have hln2:xs.length+1≤140737488355328:=by omega
     have hbs:w.heap.size≤(w2.alloc (.cells #[.int .i64 x.kind,.string ⟨x.name.toArray⟩] 143)).heap.size:=F3.size;have HO3:=hide O3;have HL3:=hide l3;have HLN:=hide hln;have HLN2:=hide hln2;have HBS:=hide hbs;have HX:=hide (And.intro R3 (And.intro F3 (And.intro ok3 hM2)));clear hO hE hM hR hF O2 F2 hE2 b3 O3 l3 R3 F3 hM2 ok3 ok2 g2 R2 f2 hln hln2 hbs;unfold tyc
     go_wp2_with (first
      | (at_builtin;refine listR_append rkT rfl _ _ rfl w.heap.size _ _ rfl (unhide HO3) _ 1 1 [_] rfl (unhide HL3) (fun e=>by cases e) (unhide HLN) (unhide HLN2) (unhide HBS) ?_)
      | go_in)
     intro v' w4 o4 g4;obtain ⟨R3,F3,ok3,hM2⟩:=unhide HX;obtain ⟨a4,c4,hv4,_⟩:=o4.form;have R4:=R3.grown (unhide HO3) g4 (by decide);have F4:=F3.grown hB (unhide HO3) g4;have ok4:=ok3;have HZ:=hide (And.intro o4 (And.intro ok4 (And.intro R4 (And.intro F4 hM2))));have HV:=hide hv4;clear o4 ok4 R4 F4 R3 F3 ok3 hM2 g4 HX HO3 HL3 HLN HLN2 HBS hv4;go_wp2;go_roundw
     case rel=>
      obtain ⟨o4,ok4,R4,F4,hM2⟩:=unhide HZ;exact ⟨_,j2,e2,o4,by simp;omega,ok4,hM2,R4,F4⟩
     case measure=>
      rw [unhide HV];simp [slLen];omega
  · have hlt1:¬(xs.length:Int)<(N:Int):=by omega
    have HD:=hide (And.intro hO (And.intro hE (And.intro hM (And.intro hR hF))));clear hO hE hM hR hF rq hf1 hf2 hf3;go_wp2;go_ret;obtain ⟨hO,hE,hM,hR,hF⟩:=unhide HD;exact ⟨⟨a,xs.length,c⟩,xs,j,ej,rfl,⟨hO,hE,by omega⟩,Mid.done (unhide HG) rfl hM (.inl (by simpa using hlt)),hR,hF⟩
theorem wideP_step {ts:List Ty} {k:Nat} {t:Ty} (h:ts[k]?=some t):wideP (ts.take (k+1))=wideP (ts.take k)++(if t.kind=2 then [t,⟨0,[]⟩] else [t]):=by
 unfold wideP;rw [List.take_add_one,h,List.flatMap_append];simp
theorem wideP_len (ts:List Ty):(wideP ts).length≤2*ts.length:=by
 induction ts with
 | nil=>simp [wideP]
 | cons t ts ih=>
  unfold wideP at ih ⊢;rw [List.flatMap_cons,List.length_append,List.length_cons];have h2:(if t.kind=2 then [t,(⟨0,[]⟩:Ty)] else [t]).length≤2:=by split <;> simp
  omega
theorem wide_room {L:List Ty} {t:Ty} (h:L.length≤2*4294967296):((L++[t]).length+1)*24≤140737488355328∧(L++[t]).length+1≤140737488355328:=by
 have hap:(L++[t]).length=L.length+1:=by simp
 rw [hap];omega
def wide_post (w:World) (ts:List Ty) (e:Ending) (w':World):Prop:=∃s:Sl,e=.returned s.v∧Orw tyc 143 2 w' w.heap.size s.v (wideP ts)∧Below w.heap.size w w'
theorem cwide_any (w:World) (s:Sl) (ts:List Ty) (hL:Ls 2 tyc w s.a s.n ts) (hs:s.n≤4294967296) :
 Calls Tryz.prog 157 #[s.v] w (wide_post w ts):=by
 obtain ⟨a,n,c⟩:=s;have hln:=hL.1;simp only at hln hs hL;unfold Sl.v;simp only;have HA:=hide hL;clear hL;go_enter Tryz.func157,Tryz.ntmps157;go_wp2
 go_loopw [3,8] (fun v i wr=>∃k:Nat,k≤n∧i=.int .i64 k∧Orw tyc 143 2 wr w.heap.size v (wideP (ts.take k))∧Below w.heap.size w wr) (fun _ i _=>n-(intOf i).toNat)
 case atStart=>exact ⟨0,by omega,rfl,Orw.nil _ _ _ _ _,Below.refl _ _⟩
 case round=>
  obtain ⟨k,hk,rfl,hO,hR⟩:=hrel
  by_cases hlt:k<n
  · have hlt1:(k:Int)<(n:Int):=by omega
    have hk0:(0:Int)≤(k:Int):=by omega
    obtain ⟨b1,o1,h1a,h1⟩:=Ls.row (unhide HA) (w':=w) (by show n≠0;omega);subst h1a;obtain ⟨t,ht⟩:∃t,ts[k]?=some t:=⟨_,List.getElem?_eq_getElem (by omega)⟩;have q:=h1 hR k t ht;have c0:=q.zero;have c1:=q 1 _ rfl;have hstep:=wideP_step ht;have hlen:=wideP_len (ts.take k);have hlk:(ts.take k).length=k:=by rw [List.length_take];omega
    rw [hlk] at hlen;obtain ⟨L,hL⟩:∃L,wideP (ts.take k)=L:=⟨_,rfl⟩;rw [hL] at hO hstep hlen;clear hlk hL;have hlen2:(L.length+1)*24≤140737488355328:=by omega
    have hlen3:L.length+1≤140737488355328:=by omega
    obtain ⟨hlen4,hlen5⟩:=wide_room (L:=L) (t:=t) (by omega);obtain ⟨w1,e1,f1,r1⟩:∃w1,wr.alloc (.cells #[.int .i64 t.kind,.string ⟨t.name.toArray⟩] 143)=w1∧Below wr.heap.size wr w1∧w1.heap[wr.heap.size]?=some (.cells #[.int .i64 t.kind,.string ⟨t.name.toArray⟩] 143 (0,0)):=⟨_,rfl,(Below.refl _ _).alloc (Nat.le_refl _) _,heap_alloc_new wr _⟩;have O1:Orw tyc 143 2 w1 w.heap.size _ (L):=hO.below (fun j hj=>f1.block j (hO.lt j hj).2);have f2:Below w1.heap.size w1 (w1.alloc (.cells #[.int .i64 t.kind,.string ⟨t.name.toArray⟩] 143)):=(Below.refl _ _).alloc (Nat.le_refl _) _;have O2:Orw tyc 143 2 (w1.alloc (.cells #[.int .i64 t.kind,.string ⟨t.name.toArray⟩] 143)) w.heap.size _ (L):=O1.below (fun j hj=>f2.block j (O1.lt j hj).2);have hl1:=ls_one (cs:=tyc) (sz:=2) w1 #[.int .i64 t.kind,.string ⟨t.name.toArray⟩] 143 t rfl;have FR1:=hR.trans (f1.mono hR.size);have FR2:=FR1.trans (f2.mono FR1.size);have r2:=(f2.block _ (lt_of_heap r1)).trans r1;have hown:=hO.lt;have d0:=bx_cell r1 0 _ rfl;have d1:=bx_cell r1 1 _ rfl;have HL2:=hide hlen2;have HL3:=hide hlen3;have HL4:=hide hlen4;have HL5:=hide hlen5;have HO2:=hide O2;have HLs:=hide hl1;have HF2:=hide FR2;have HR2:=hide r2;have HOW:=hide hown;have HST:=hide hstep;have hsz1:=f1.size;have hszr:=lt_of_heap r1;clear q h1 ht hR hO O1 O2 hl1 FR1 FR2 hstep hlen hlen2 hlen3 hlen4 hlen5 r1 r2 f1 f2 hown
    go_wp2_with (first
     | (at_builtin;refine listR_append rkT rfl _ _ rfl w.heap.size _ _ rfl (unhide HO2) _ 1 1 [t] rfl (unhide HLs) (fun e=>by cases e) (unhide HL2) (unhide HL3) (unhide HF2).size ?_)
     | go_in)
    intro v3 w3 o3 g3;have f3:=grown_below (unhide HF2) (unhide HO2) g3;have r3:w3.heap[wr.heap.size]?=some (.cells #[.int .i64 t.kind,.string ⟨t.name.toArray⟩] 143 (0,0)):=(grown_other g3 (lt_of_heap (unhide HR2)) fun e=>by have:=(unhide HOW _ e).2;omega).trans (unhide HR2);have d0:=bx_cell r3 0 _ rfl;have f4:Below w3.heap.size w3 (w3.alloc (.cells #[.int .i64 0,.string ⟨#[]⟩] 143)):=(Below.refl _ _).alloc (Nat.le_refl _) _;have O4:Orw tyc 143 2 (w3.alloc (.cells #[.int .i64 0,.string ⟨#[]⟩] 143)) w.heap.size v3 (L++[t]):=o3.below (fun j hj=>f4.block j (o3.lt j hj).2);have hl4:=ls_one (cs:=tyc) (sz:=2) w3 #[.int .i64 0,.string ⟨#[]⟩] 143 ⟨0,[]⟩ rfl;have HO3:=hide o3;have HF3:=hide f3;have HO4:=hide O4;have HL:=hide hl4;have HF4:=hide (f3.trans (f4.mono f3.size));clear o3 g3 f3 r3 O4 hl4 f4 HO2 HLs HF2 HR2 HOW HL2 HL3 e1 c0 c1
    by_cases h2:t.kind=2
    · have HS:Hid (wideP (ts.take (k+1))=(L++[t])++[⟨0,[]⟩]):=by
       show wideP (ts.take (k+1))=_;rw [unhide HST,if_pos h2];simp
      clear HST;rw [h2] at d0
      go_wp2_with (first
       | (at_builtin;refine listR_append rkT rfl _ _ rfl w.heap.size _ _ rfl (unhide HO4) _ 1 1 [⟨0,[]⟩] rfl (unhide HL) (fun e=>by cases e) (unhide HL4) (unhide HL5) (unhide HF4).size ?_)
       | go_in)
      intro v5 w5 o5 g5;have HO5:=hide o5;have HF5:=hide (grown_below (unhide HF4) (unhide HO4) g5);clear o5 g5;go_wp2;go_roundw
      case rel=>exact ⟨k+1,by omega,by go_num,by rw [unhide HS];simpa using unhide HO5,unhide HF5⟩
      case measure=>simp [intOf];omega
    · have h2':(t.kind==2)=false:=by simpa using h2
      have HS:Hid (wideP (ts.take (k+1))=L++[t]):=by
       show wideP (ts.take (k+1))=_;rw [unhide HST,if_neg h2]
      clear HST h2;go_wp2;go_roundw
      case rel=>exact ⟨k+1,by omega,by go_num,by rw [unhide HS];exact unhide HO3,unhide HF3⟩
      case measure=>simp [intOf];omega
  · obtain rfl:k=n:=by omega
    rw [List.take_of_length_le (by omega)] at hO;obtain ⟨a5,c5,rfl,_⟩:=hO.form;have HO:=hide hO;have HR:=hide hR;clear hO hR;go_wp2;go_ret;exact ⟨⟨_,_,_⟩,rfl,unhide HO,unhide HR⟩
theorem Orw.len9 {α:Type} {cs:α→List Value} {e:TypeId} {sz:Nat} {w:World} {base:Nat} {a:Option Addr} {n c:Nat} {l:List α} (h:Orw cs e sz w base (.slice a n c) l):l.length=n:=by
 obtain ⟨a',c',e1,_⟩:=h.form;injection e1 with ea en ec
 exact en.symm
def TyOk (l:List Ent) (x:Ty):Prop:=fitI x.kind∧Txt8 l x.name
structure MpOk (l:List Ent) (w:World) (base:Nat) (r:MpR):Prop where
 own:MpOwn w base r
 fit:fitI r.m.at_
 loc:∀t∈r.m.loc,TyOk l t
 stk:∀t∈r.m.stk,TyOk l t
 nl:r.m.loc.length≤8589934592
 ns:r.m.stk.length≤4294967296
theorem MpOk.keep {l:List Ent} {w w':World} {base:Nat} {r:MpR} (h:MpOk l w base r) (f:∀(k:Nat) (Z:Array Value),w.heap[k]?=some (.cells Z 143 (0,0))→w'.heap[k]?=w.heap[k]?):MpOk l w' base r:=⟨h.own.keep fun k X _ hX=>f k X hX,h.fit,h.loc,h.stk,h.nl,h.ns⟩
theorem MpOk.base {l:List Ent} {w:World} {base base':Nat} {r:MpR} (h:MpOk l w base r) (hb:base'≤base):MpOk l w base' r:=⟨h.own.base hb,h.fit,h.loc,h.stk,h.nl,h.ns⟩
theorem wideP_ok {l:List Ent} {ts:List Ty} (h:∀t∈ts,TyOk l t):∀t∈wideP ts,TyOk l t:=fun t ht=>by
 unfold wideP at ht;obtain ⟨x,hx,ht⟩:=List.mem_flatMap.1 ht;split at ht
 · simp at ht
   rcases ht with rfl | rfl
   · exact h _ hx
   · exact ⟨by unfold fitI;simp,.inl rfl⟩
 · simp at ht
   subst ht;exact h _ hx
def FA (C:Cr) (A:Nat) (w w':World):Prop:=Fr6 (fun k=>k=C.X∨k=C.x∨k=A) C.B w w'
theorem FX.fa {C:Cr} {w w':World} (f:FX C w w') (A:Nat):FA C A w w':=⟨f.below,fun k hk hn=>f.other k hk fun e=>hn (e.elim .inl fun e=>.inr (.inl e))⟩
theorem FA.trans {C:Cr} {A:Nat} {w w1 w2:World} (f:FA C A w w1) (g:FA C A w1 w2):FA C A w w2:=kfr2_trans f g (fun k hk=>.inl hk)
theorem FA.size {C:Cr} {A:Nat} {w w':World} (f:FA C A w w'):w.heap.size≤w'.heap.size:=Fr6.below f |>.size
theorem FA.fx {C:Cr} {A:Nat} {w w':World} (f:FA C A w w') (hA:w.heap.size≤A):FX C w w':=⟨Fr6.below f,fun k hk hn=>Fr6.other f k hk fun e=>by
 rcases e with e | e | e
 · exact hn (.inl e)
 · exact hn (.inr e)
 · omega⟩
theorem FA.tab {C:Cr} {A:Nat} {w w':World} (f:FA C A w w') (h1:1≤C.B) (h:Tab8 w):Tab8 w':=fun i hi=>by
 have:=h i hi;rw [World.cell?_of_block (w:=w) (w':=w')]
 · exact this
 · exact (Fr6.below f).block 0 (by omega)
theorem Rd8.blkA {C:Cr} {i:Nat} {en:Bool} {W W':World} {A:Nat} (h:Rd8 C i en W) (f:FA C A W W') {Y:Array Value} (hA:W.heap[A]?=some (.cells Y 3 (0,0))) {k:Nat} {Z:Array Value} {T:TypeId} (hk:W.heap[k]?=some (.cells Z T (0,0))) (h1:T≠127) (h2:T≠159) (h3:T≠3):W'.heap[k]?=some (.cells Z T (0,0)):=
 (Fr6.other f k (lt_of_heap hk) fun hF=>by
  rcases hF with rfl | rfl | rfl
  · obtain ⟨a,c,h3,_⟩:=h.pl
    rw [h3] at hk;injection hk with hk
    injection hk with _ hk
    exact h1 hk.symm
  · obtain ⟨Y,h3⟩:=h.x_blk
    rw [h3] at hk;injection hk with hk
    injection hk with _ hk
    exact h2 hk.symm
  · rw [hA] at hk
    injection hk with hk
    injection hk with _ hk
    exact h3 hk.symm).trans hk
def maps1_post (C:Cr) (i:Nat) (en:Bool) (w:World) (A:Nat) (last:Int) (e:Ending) (w':World):Prop:=
 ∃(x:MpR) (i':Nat) (en':Bool),e=.returned (.agg (mpc x).toArray)∧MpOk C.l w' w.heap.size x∧Got (mapR C.l last) C.bs i en x.m i' en'∧w'.heap[A]?=some (.cells #[.int .i64 x.m.at_] 3 (0,0))∧(last<x.m.at_∧x.m.at_≤last+65536)∧Rd8 C i' en' w'∧FA C A w w'
theorem sizeMap9:(Tryz.prog.info? 52).map (·.size)=some 3:=by kernel_rfl
theorem Got.types {l:List Ent} {bs:List UInt8} {i i':Nat} {en en':Bool} {us:List Ty} (g:Got (listR (kdR l)) bs i en us i' en') (loc:Bool):Got (typesR l loc) bs i en (if loc=true then wideP us else us) i' en':=by
 refine ⟨g.1,fun e v0 r hr=>?_⟩;unfold typesR at hr;obtain ⟨⟨n,s1⟩,ha,hr⟩:=Option.bind_eq_some_iff.1 hr;obtain ⟨vs,h1,h2⟩:=tysR_many l loc _ _ _ _ hr;obtain ⟨rfl,k1,d1⟩:=g.2 e vs r (by unfold listR;rw [ha,Option.bind_some];exact h1);exact ⟨h2.symm,k1,d1⟩
theorem rMaps1_any (C:Cr) (i:Nat) (en:Bool) (w:World) (h:Rd8 C i en w) (hT:Tab8 w) (Bx A:Nat) (last:Int) (hbx:w.heap[Bx]?=some (.cells #[.pointer (some ⟨C.X,0,none⟩)] 123 (0,0))) (hA:w.heap[A]?=some (.cells #[.int .i64 last] 3 (0,0))) (hAB:C.B≤A) (hl:-1≤last∧last≤1152921504606846976) :
 Calls Tryz.prog 156 #[.pointer (some ⟨Bx,0,none⟩),.pointer (some ⟨A,0,none⟩)] w (maps1_post C i en w A last):=by
 have hB:=h.hB;have hB1:=h.one;obtain ⟨w0,e0,f0,r0⟩:∃w0,w.alloc (.cells #[.int .i64 0,.slice none 0 0,.slice none 0 0] 52)=w0∧Below w.heap.size w w0∧w0.heap[w.heap.size]?=some (.cells #[.int .i64 0,.slice none 0 0,.slice none 0 0] 52 (0,0)):=⟨_,rfl,(Below.refl _ _).alloc (Nat.le_refl _) _,heap_alloc_new w _⟩;have R0:=h.below f0;have F0:FX C w w0:=(FX.refl C w).on f0 hB;have bx0:=(f0.block _ (lt_of_heap hbx)).trans hbx;have A0:=(f0.block _ (lt_of_heap hA)).trans hA;have f1:Below w0.heap.size w0 (w0.alloc (.cells #[.int .i64 1] 3)):=(Below.refl _ _).alloc (Nat.le_refl _) _;have HN:=hide (rPass_any C i en _ (R0.below f1) [1] (by simp) w0.heap.size 1 1 rfl (by omega) (heap_alloc_new w0 _));have F1:FX C w0 (w0.alloc (.cells #[.int .i64 1] 3)):=(FX.refl C w0).on f1 R0.hB;have c0:=bx_cell bx0 0 _ rfl;have hwb:=lt_of_heap hbx;have hwa:=lt_of_heap hA;have H0:=hide (And.intro R0 (And.intro F0 (And.intro r0 (And.intro bx0 (And.intro A0 (And.intro (hT.below f0) (And.intro F1 f1)))))));clear h f0 r0 R0 F0 bx0 A0 f1 F1 hbx hA hT;go_enter Tryz.func156,Tryz.ntmps156;go_wp2_with fail;refine (unhide HN).mono ?_;rintro e w1 ⟨j1,e1,rfl,g1,R1,f1⟩;clear HN e0 c0;obtain ⟨R0,F0,r0,bx0,A0,T0,F1,b1⟩:=unhide H0;have fx1:FX C w0 w1:=F1.trans f1;have A1:=R0.blk fx1 A0 (by decide) (by decide);have bx1:=R0.blk fx1 bx0 (by decide) (by decide);have r1:=R0.blk fx1 r0 (by decide) (by decide);have T1:=fx1.tab hB1 T0;have H1:=hide (And.intro R0 (And.intro F0 (And.intro g1 (And.intro R1 (And.intro fx1 (And.intro A1 (And.intro bx1 (And.intro r1 T1))))))))
 have HN:Hid (∀W,Below w1.heap.size w1 W→Calls Tryz.prog 129 #[.pointer (some ⟨C.X,0,none⟩),.int .i64 2] W fun e w'=>∃n i' en',e=.returned (.int .i64 n)∧(0≤n∧n<65536)∧Got (uR 2) C.bs j1 e1 n i' en'∧Rd8 C i' en' w'∧FX C w1 w'∧w'.heap[A]?=some (.cells #[.int .i64 last] 3 (0,0))∧w'.cell? ⟨A,0,none⟩=some (.int .i64 last)∧w'.frozen? ⟨A,0,none⟩=false):=hide fun W fW=>(rNumber_any C j1 e1 W (R1.below fW) 2 (by omega)).mono (by
  rintro e w' ⟨n,i',en',rfl,b,g,R,f⟩;have a:=(R1.below fW).blk f ((fW.block _ (lt_of_heap A1)).trans A1) (by decide) (by decide);exact ⟨n,i',en',rfl,⟨b.1,by have:=b.2.2;simpa using this⟩,g,R,((FX.refl C w1).on fW R1.hB).trans f,a,bx_cell a 0 _ rfl,bx_thaw a 0⟩)
 have HB:Hid (∀W,FX C w1 W→W.cell? ⟨Bx,0,none⟩=some (.pointer (some ⟨C.X,0,none⟩))):=hide fun W f=>bx_cell (R1.blk f bx1 (by decide) (by decide)) 0 _ rfl
 have a1:w1.cell? ⟨A,0,none⟩=some (.int .i64 last):=bx_cell A1 0 _ rfl;have p1:w1.cell? ⟨Bx,0,none⟩=some (.pointer (some ⟨C.X,0,none⟩)):=bx_cell bx1 0 _ rfl;clear R0 F0 r0 bx0 A0 T0 F1 b1 g1 R1 f1 fx1 A1 bx1 r1 T1 H0;go_wp2_with fail
 go_cut [5] from 6 (fun v5 wr=>∃n j2 e2,(0≤n∧n<65536)∧Got (uR 2) C.bs j1 e1 n j2 e2∧Rd8 C j2 e2 wr∧FA C A w1 wr∧wr.heap[A]?=some (.cells #[.int .i64 (last+(1+n))] 3 (0,0)))
 case first=>
  go_region_with
   (first
   | (go_at_call 129;refine Calls.mono (unhide HN _ (by repeat (first | exact Below.refl _ _ | refine Below.drew ?_))) ?_;rintro e w2 ⟨n,j2,e2,rfl,b2,g2,R2,f2,A2,a2,z2⟩;have p2:w2.cell? ⟨Bx,0,none⟩=some (.pointer (some ⟨C.X,0,none⟩)):=(unhide HB w2 f2);have H2:=hide (And.intro g2 (And.intro R2 (And.intro f2 A2)));clear g2 R2 f2 A2))
  all_goals
   go_wp2;go_meet
   case rel=>
    obtain ⟨g2,R2,f2,A2⟩:=unhide H2;have hw1:IntKind.i64.wrap (1+n)=1+n:=by rw [IntKind.wrap_i64];omega
    have hw2:IntKind.i64.wrap (last+(1+n))=last+(1+n):=by rw [IntKind.wrap_i64];omega
    (try rw [hw1,hw2])
    exact ⟨n,j2,e2,b2,g2,R2.set A2 (by decide) 0 _,⟨f2.below.setCell (p:=⟨A,0,none⟩) hAB _,fun k hk hn=>(Below.heap_setCell _ _ _ _ (fun e=>hn (.inr (.inr e)))).trans (f2.other k hk fun e=>hn (e.elim .inl fun e=>.inr (.inl e)))⟩,heap_setCell_same w2 A 0 _ _ _ A2⟩
 case rest=>
  obtain ⟨n,j2,e2,b2,g2,R2,f2,A2⟩:=hcut;obtain ⟨R0,F0,g1,R1,fx1,A1,bx1,r1,T1⟩:=unhide H1;have bx2:=R1.blkA f2 A1 bx1 (by decide) (by decide) (by decide);have r2:=R1.blkA f2 A1 r1 (by decide) (by decide) (by decide);have T2:=f2.tab hB1 T1;obtain ⟨at_,hat⟩:∃at_,last+(1+n)=at_:=⟨_,rfl⟩;rw [hat] at A2;have F2:FA C A w wc:=((F0.trans fx1).fa A).trans f2;have HI:Hid (∀W,FX C wc W→W.cell? ⟨A,0,none⟩=some (.int .i64 at_)∧W.cell? ⟨Bx,0,none⟩=some (.pointer (some ⟨C.X,0,none⟩))):=hide fun W f=>⟨bx_cell (R2.blk f A2 (by decide) (by decide)) 0 _ rfl,bx_cell (R2.blk f bx2 (by decide) (by decide)) 0 _ rfl⟩
  have FD:FX C wc wc.drew:=(FX.refl C wc).on (Below.refl _ _).drew R2.hB;have RD2:=R2.below (Below.refl wc.heap.size wc).drew;have HL:=hide (rlT_any C j2 e2 wc.drew RD2 (T2.below (Below.refl _ _).drew));have hszw:w.heap.size+1≤wc.heap.size:=by
   have:=lt_of_heap r2;omega
  have hmf:∀(fn:Fn) (first cap:Array Value) (w:World),(Instr.makeFunc fn first cap).run Tryz.prog w=.ok (.func fn first cap) w:=fun _ _ _ _=>rfl
  have H2:=hide (And.intro g1 (And.intro b2 (And.intro g2 (And.intro R2 (And.intro F2 (And.intro A2 (And.intro r2 (And.intro T2 (And.intro FD (And.intro hat bx2))))))))));clear R0 F0 g1 R1 fx1 A1 bx1 r1 T1 b2 g2 R2 f2 A2 bx2 r2 T2 F2 RD2 hat H1 HN HB a1 p1;go_wp2;refine wp_region_txt (fun W=>W.cell? ⟨A,0,none⟩=some (.int .i64 at_)∧W.cell? ⟨Bx,0,none⟩=some (.pointer (some ⟨C.X,0,none⟩))) [4,5,9,11] [0,1,2,3,6,7,8,4,5,9,10,11] (by kernel_rfl) (by kernel_rfl) (unhide HI _ FD) ?_;clear FD
  repeat (first
   | (refine Txt.reads (v:=?_) (by rfl) (by rfl) (by rfl) ?_ ?_;rotate_left;(focus ((intro W hSW;obtain ⟨p0,p1⟩:=hSW;go_simp) <;> with_reducible rfl));simp only [Act.put,List.setIfInBounds_toArray,List.set_cons_zero,List.set_cons_succ]))
  refine Txt.acts (by rfl) (by rfl) (by rfl) (fun K hK=>?_);go_simp;refine (unhide HL).mono ?_;rintro e w4 ⟨⟨sa,sn,sc⟩,us,j4,e4,rfl,⟨o4,k4,n4⟩,g4,R4,f4⟩;obtain ⟨g1,b2,g2,R2,F2,A2,r2,T2,FD,hat,bx2⟩:=unhide H2;have f4':=FD.trans f4;refine hK.out _ _ (unhide HI _ f4') ?_;clear hK K HL;have ho4:Orw tyc 143 2 w4 wc.drew.heap.size (.slice sa sn sc) us:=o4;have hus:=Orw.len9 ho4;have HW:=hide (cwide_any w4 ⟨sa,sn,sc⟩ us (ho4.ls rkT) (by show sn≤4294967296;omega));have H4:=hide (And.intro ho4 (And.intro k4 (And.intro n4 (And.intro g4 (And.intro R4 f4')))));clear g1 b2 g2 R2 F2 A2 r2 T2 FD hat bx2 o4 k4 n4 g4 R4 f4 f4' ho4 hus;refine Txt.acts (by rfl) (by rfl) (by rfl) (fun K hK=>?_);unfold Sl.v at HW ⊢;simp only at HW ⊢;go_simp;refine (unhide HW).mono ?_;rintro e w5 ⟨⟨la,ln,lc⟩,rfl,o5,b5⟩;obtain ⟨o4,k4,n4,g4,R4,f4'⟩:=unhide H4;have f5:FX C wc w5:=f4'.on b5 (unhide H2).2.2.2.1.hB;refine hK.out _ _ (unhide HI _ f5) ?_;clear hK K HW;have R5:=R4.below b5;have T5:=f5.tab hB1 (unhide H2).2.2.2.2.2.2.2.1;have HL:=hide (rlT_any C j4 e4 w5 R5 T5);have H5:=hide (And.intro o5 (And.intro b5 (And.intro f5 R5)));clear o4 k4 n4 g4 R4 f4' o5 b5 f5 R5 T5;refine Txt.acts (by rfl) (by rfl) (by rfl) (fun K hK=>?_);go_simp;refine (unhide HL).mono ?_;rintro e w6 ⟨⟨ka,kn,kc⟩,vs,j6,e6,rfl,⟨o6,k6,n6⟩,g6,R6,f6⟩;obtain ⟨o5,b5,f5,R5⟩:=unhide H5;have f56:=f5.trans f6;refine hK.out _ _ (unhide HI _ f56) ?_;clear hK K HL;obtain ⟨g1,b2,g2,R2,F2,A2,r2,T2,FD,hat,bx2⟩:=unhide H2;obtain ⟨o4,k4,n4,g4,R4,f4'⟩:=unhide H4;have r6:=R2.blk f56 r2 (by decide) (by decide);have A6:=R2.blk f56 A2 (by decide) (by decide);have q0:w6.cell? ⟨w.heap.size,0,none⟩=some (.int .i64 0):=bx_cell r6 0 _ rfl;have q1:w6.cell? ⟨w.heap.size,1,none⟩=some (.slice none 0 0):=bx_cell r6 1 _ rfl;have q2:w6.cell? ⟨w.heap.size,2,none⟩=some (.slice none 0 0):=bx_cell r6 2 _ rfl;have z0:=bx_thaw r6 0;have z1:=bx_thaw r6 1;have z2:=bx_thaw r6 2;have O5:Orw tyc 143 2 w6 (w.heap.size+1) (.slice la ln lc) (wideP us):=(R5.orw f6 o5 (by decide) (by decide)).base (by have:=f4'.size;omega);have O6:Orw tyc 143 2 w6 (w.heap.size+1) (.slice ka kn kc) vs:=Orw.base o6 (by have:=f5.size;omega);have hwl:=wideP_len us;have HG:Hid (Got (mapR C.l last) C.bs i en ⟨at_,wideP us,vs⟩ j6 e6):=hide ⟨fun e=>g6.1 (g4.1 (g2.1 (g1.1 e))),fun e v0 r hr=>by
   unfold mapR at hr;obtain ⟨⟨m,s⟩,ha,hr⟩:=Option.bind_eq_some_iff.1 hr;obtain ⟨_,k1,d1⟩:=g1.2 e () s (by show (uR 1 _).bind _=_;rw [ha];rfl);simp only at hr;rw [←d1] at hr;obtain ⟨k2,hr⟩:=got_bind g2 k1 hr;obtain ⟨k3,hr⟩:=got_bind (g4.types true) k2 hr;obtain ⟨k5,hr⟩:=got_bind (g6.types false) k3 hr;obtain ⟨h1,h2⟩:=got_end hr;refine ⟨?_,k5,h2⟩;rw [←h1,←hat];simp;omega⟩
  have HM:Hid (∀W,(∀k,k≠w.heap.size→W.heap[k]?=w6.heap[k]?)→MpOk C.l W w.heap.size ⟨⟨at_,wideP us,vs⟩,⟨la,ln,lc⟩,⟨ka,kn,kc⟩⟩):=hide fun W hW=>⟨⟨(O5.below fun k hk=>hW k (by have:=(O5.lt k hk).1;omega)).base (by omega),(O6.below fun k hk=>hW k (by have:=(O6.lt k hk).1;omega)).base (by omega)⟩,by unfold fitI;simp only;omega,wideP_ok (fun t ht=>k4 t ht),fun t ht=>k6 t ht,by show (wideP us).length≤_;omega,n6⟩
  have B6:=R2.blk f56 bx2 (by decide) (by decide);have HR:=hide (And.intro R6 (And.intro (F2.trans (f56.fa A)) (And.intro r6 (And.intro A6 B6))));have HAT:Hid (last<at_∧at_≤last+65536):=hide (by omega);clear o4 k4 n4 g4 R4 f4' o5 b5 f5 R5 g1 b2 g2 R2 F2 A2 r2 T2 FD hat o6 k6 n6 g6 R6 f6 f56 r6 A6 B6 bx2 O5 O6 H2 H4 H5 hwl;unfold Sl.v;simp only
  repeat (first
   | (refine Txt.reads (v:=?_) (by rfl) (by rfl) (by rfl) ?_ ?_;rotate_left;(focus ((intro W hSW;obtain ⟨p0,p1⟩:=hSW;go_simp) <;> with_reducible rfl));simp only [Act.put,List.setIfInBounds_toArray,List.set_cons_zero,List.set_cons_succ]))
  refine Txt.acts (by rfl) (by rfl) (by rfl) (fun K hK=>?_);go_simp;obtain ⟨R6,F6,r6,A6,B6⟩:=unhide HR;have hother:∀k,k≠w.heap.size→(w6.setCells w.heap.size 0 [.int .i64 at_,.slice la ln lc,.slice ka kn kc]).heap[k]?=w6.heap[k]?:=fun k hk=>heap_cells_other _ _ _ _ _ hk
  have A7:=(hother A (by omega)).trans A6;have B7:=(hother Bx (by omega)).trans B6;refine hK.out _ _ ⟨bx_cell A7 0 _ rfl,bx_cell B7 0 _ rfl⟩ ?_;clear hK K;refine Txt.done ?_;have F7:FA C A w (w6.setCells w.heap.size 0 [.int .i64 at_,.slice la ln lc,.slice ka kn kc]):=⟨below_cells _ 0 (Fr6.below F6) hB,fun k hk hn=>(hother k (by omega)).trans (Fr6.other F6 k hk hn)⟩;have R7:=R6.cells r6 (by decide) 0 [.int .i64 at_,.slice la ln lc,.slice ka kn kc];have r7:=bx_whole [.int .i64 0,.slice none 0 0,.slice none 0 0] [.int .i64 at_,.slice la ln lc,.slice ka kn kc] r6 rfl;have M7:=unhide HM _ hother;have HZ:=hide (And.intro F7 (And.intro R7 (And.intro r7 (And.intro M7 A7))));clear F7 R7 r7 M7 A7 B7 hother R6 F6 r6 A6 B6 q0 q1 q2 z0 z1 z2;go_wp2_with fail;obtain ⟨F7,R7,r7,M7,A7⟩:=unhide HZ;refine bodyPost_ret (v:=.agg #[.int .i64 at_,.slice la ln lc,.slice ka kn kc]) ?_ rfl ⟨⟨⟨at_,wideP us,vs⟩,⟨la,ln,lc⟩,⟨ka,kn,kc⟩⟩,j6,e6,rfl,M7,unhide HG,A7,unhide HAT,R7,F7⟩;exact results_cell_row Tryz.results156 _ _ w.heap.size 52 _ (0,0) _ rfl r7 Tryz.underlying52 rfl sizeMap9
theorem Gd.grown {C:Gc} {i0 i:Nat} {en0 en:Bool} {w W W':World} (h0:Gd C i0 en0 w) (h:Gd C i en W) (F:GF C.X C.B w W) {α:Type} {cs:α→List Value} {e:TypeId} {sz:Nat} {v:Value} {l:List α} (o:Orw cs e sz W w.heap.size v l) (g:W.grownBy W' v.ownBlock):Gd C i en W'∧GF C.X C.B w W':=by
 have ne:∀q,q<w.heap.size→v.ownBlock≠some q:=fun q hq e1=>by have:=(o.lt q e1).1;omega
 have F':GF C.X C.B w W':=⟨fun q hq hz=>(grown_other g (Nat.lt_of_lt_of_le hq F.size) (ne q hq)).trans (F.1 q hq hz),Below.grown F.2 g (Nat.le_trans h0.hB F.size) (fun k hk=>Nat.le_trans h0.hB (o.lt k hk).1)⟩;exact ⟨h0.step F'.1 ((grown_other g h.X_lt (ne _ h0.X_lt)).trans h.blk) h.hi,F'⟩
theorem rec_push {C:Gc} {i0 i:Nat} {en0 en:Bool} {w W:World} (h0:Gd C i0 en0 w) (h:Gd C i en W) (F:GF C.X C.B w W) {α:Type} {cs:α→List Value} {e t:TypeId} {sz by_:Nat} {z:Value} (R:Rk cs e t sz by_ z) {v:Value} {xs:List α} (o:Orw cs e sz W w.heap.size v xs) (X:Array Value) (x:α) (hX:X.toList=cs x) (hs:xs.length≤100000) (hb:by_≤1000) :
 Orw cs e sz (W.alloc (.cells X e)) w.heap.size v xs∧Ls sz cs (W.alloc (.cells X e)) (some ⟨W.heap.size,0,none⟩) 1 [x]∧(xs.length+1)*by_≤140737488355328∧xs.length+1≤140737488355328∧w.heap.size≤(W.alloc (.cells X e)).heap.size ∧
  ∀v' w',Orw cs e sz w' w.heap.size v' (xs++[x])→(W.alloc (.cells X e)).grownBy w' v.ownBlock→Gd C i en w'∧GF C.X C.B w w':=by
 have b3:Below W.heap.size W (W.alloc (.cells X e)):=(Below.refl _ _).alloc (Nat.le_refl _) _;have o3:Orw cs e sz (W.alloc (.cells X e)) w.heap.size v xs:=o.below fun k hk=>b3.block k (o.lt k hk).2
 have F3:GF C.X C.B w (W.alloc (.cells X e)):=F.trans (GF.of_below b3 h.hB);refine ⟨o3,ls_one W X e x hX,?_,by omega,F3.size,fun v' w' o' g=>h0.grown (h.below b3) F3 o3 g⟩;have:(xs.length+1)*by_≤100001*1000:=Nat.mul_le_mul (by omega) hb;omega
def tyK (l:List Ent) (loc:Bool) (k:Int×List UInt8):Option (List Ty×List UInt8):=
 if k.1=0 then some ([⟨0,[]⟩],k.2) else if k.1=1 then some ([⟨1,[]⟩],k.2)
 else if k.1=4 then some (if loc then [⟨2,[]⟩,⟨0,[]⟩] else [⟨2,[]⟩],k.2)
 else if k.1=5 then some ([⟨3,[]⟩],k.2)
 else if k.1=7 then (uR 2 k.2).bind fun n=>(clsR l n.1).bind fun x=>some ([⟨4,x⟩],n.2)
 else none
theorem tyK7 (l:List Ent) (loc:Bool) (s:List UInt8):tyK l loc (7,s)=(uR 2 s).bind fun n=>(clsR l n.1).bind fun x=>some ([⟨4,x⟩],n.2):=by
 unfold tyK;simp
theorem tyR_by (l:List Ent) (loc:Bool) (s:List UInt8):tyR l loc s=(uR 1 s).bind (tyK l loc):=rfl
theorem got_ty {l:List Ent} {loc:Bool} {bs:List UInt8} {j j1 j':Nat} {n:Int} {e1 e':Bool} {ts:List Ty} (g:Got (uR 1) bs j false n j1 e1) (h:∀v0 r,e1=false→tyK l loc (n,bs.drop j1)=some (v0,r)→ts=v0∧e'=false∧bs.drop j'=r):Got (tyR l loc) bs j false ts j' e':=by
 refine ⟨(fun e=>by cases e),fun _ v0 r hr=>?_⟩;rw [tyR_by] at hr;obtain ⟨h1,h2⟩:=got_bind g rfl hr;exact h v0 r h1 h2
def MidT (l:List Ent) (loc:Bool) (bs:List UInt8) (N:Nat) (en:Bool) (s:List UInt8) (xs:List Ty) (m j:Nat) (ej:Bool):Prop:=
 (en=true→ej=true)∧(en=false→∀vs r,tysR l loc N s=some (vs,r)→ej=false∧∃rest,vs=xs++rest∧tysR l loc m (bs.drop j)=some (rest,r))
theorem MidT.next {l:List Ent} {loc:Bool} {bs:List UInt8} {N:Nat} {en:Bool} {s:List UInt8} {xs ts:List Ty} {m j j1:Nat} {e1:Bool} (h:MidT l loc bs N en s xs (m+1) j false) (g:Got (tyR l loc) bs j false ts j1 e1):MidT l loc bs N en s (xs++ts) m j1 e1:=by
 refine ⟨(fun e=>by have:=h.1 e;cases this),fun e vs r hr=>?_⟩;obtain ⟨_,rest,h1,h2⟩:=h.2 e vs r hr;rw [tysR] at h2;obtain ⟨h3,h4⟩:=got_bind g rfl h2;simp only at h4;obtain ⟨⟨us,r'⟩,h5,h6⟩:=Option.bind_eq_some_iff.1 h4;injection h6 with h6
 injection h6 with h6 h7
 subst h7;exact ⟨h3,us,by rw [h1,←h6,List.append_assoc],h5⟩
theorem MidT.done {l:List Ent} {loc:Bool} {bs:List UInt8} {N:Nat} {en0 en:Bool} {i i1:Nat} {n:Int} {xs:List Ty} {m j:Nat} {ej:Bool} (g:Got (uR 2) bs i en0 n i1 en) (hn:n=N) (h:MidT l loc bs N en (bs.drop i1) xs m j ej) (hx:m=0∨ej=true):Got (typesR l loc) bs i en0 xs j ej:=by
 refine ⟨fun e=>h.1 (g.1 e),fun e v0 r hr=>?_⟩;unfold typesR at hr;obtain ⟨h1,h2⟩:=got_bind g e hr;simp only at h2;rw [hn,Int.toNat_natCast] at h2;obtain ⟨h3,rest,h4,h5⟩:=h.2 h1 v0 r h2
 rcases hx with rfl | hx
 · rw [tysR] at h5
   injection h5 with h5
   injection h5 with h5 h6
   subst h5;exact ⟨by rw [h4,List.append_nil],h3,h6⟩
 · rw [hx] at h3
   cases h3
structure TyS (C:Gc) (loc:Bool) (w:World) (N:Nat) (e1:Bool) (i1:Nat) (xs:List Ty) (m j:Nat) (ej:Bool) (v:Value) (W:World):Prop where
 own:Orw tyc 143 2 W w.heap.size v xs
 mid:MidT C.l loc C.bs N e1 (C.bs.drop i1) xs m j ej
 ok:∀x∈xs,TyOk C.l x
 len:xs.length≤2*(j-i1)+(if ej=true then 2 else 0)
 mv:Mv 0 i1 e1 j ej
 gd:Gd C j ej W
 gf:GF C.X C.B w W
 few:m≤65535
theorem TyS.next {C:Gc} {loc:Bool} {w:World} {N:Nat} {e1:Bool} {i1:Nat} {xs ts:List Ty} {m j j1:Nat} {ej:Bool} {v v':Value} {W W':World} (h:TyS C loc w N e1 i1 xs (m+1) j false v W) (g:Got (tyR C.l loc) C.bs j false ts j1 ej) (hk:∀x∈ts,TyOk C.l x) (hl:ts.length≤2) (hm:Mv 1 j false j1 ej) {ys:List Ty} (o:Orw tyc 143 2 W' w.heap.size v' ys) (hy:ys=xs++ts) (hg:Gd C j1 ej W') (hf:GF C.X C.B w W'):TyS C loc w N e1 i1 (xs++ts) m j1 ej v' W':=by
 subst hy;refine ⟨o,h.mid.next g,fun x hx=>?_,?_,⟨Nat.le_trans h.mv.le hm.le,fun e=>Nat.le_trans h.mv.le hm.le,fun e=>?_⟩,hg,hf,by have:=h.few;omega⟩
 · rcases List.mem_append.1 hx with hx | hx
   · exact h.ok x hx
   · exact hk x hx
 · have h1:=h.len
   have h2:=h.mv.le;have h3:=hm.le;rw [if_neg (by decide)] at h1;rw [List.length_append];cases ej with
   | true=>simp only [if_true];omega
   | false=>
    have:=hm.by_ rfl;simp;omega
 · have:=(h.mv.bad e).1
   cases this
def gty_post (C:Gc) (loc:Bool) (i:Nat) (en:Bool) (w:World) (e:Ending) (w':World):Prop:=
 ∃(s:Sl) (xs:List Ty) (i':Nat) (en':Bool),e=.returned s.v∧Orw tyc 143 2 w' w.heap.size s.v xs∧(∀x∈xs,TyOk C.l x)∧Got (typesR C.l loc) C.bs i en xs i' en'∧xs.length≤2*(i'-i)+(if en'=true then 2 else 0)∧Mv 2 i en i' en'∧Gd C i' en' w'∧GF C.X C.B w w'
theorem TyS.fin {C:Gc} {loc:Bool} {w W:World} {N:Nat} {en e1:Bool} {i i1:Nat} {n:Int} {xs:List Ty} {m j:Nat} {ej:Bool} {a:Option Addr} {c q:Nat} (h:TyS C loc w N e1 i1 xs m j ej (.slice a q c) W) (hq:xs.length=q) (g:Got (uR 2) C.bs i en n i1 e1) (hn:n=N) (hm:Mv 2 i en i1 e1) (hx:m=0∨ej=true):gty_post C loc i en w (.returned (.slice a q c)) W:=by
 have h1:=h.len;have h2:=hm.le;have h3:=h.mv.le;exact ⟨⟨a,q,c⟩,xs,j,ej,rfl,h.own,h.ok,MidT.done g hn h.mid hx,by omega,hm.trans h.mv,h.gd,h.gf⟩
theorem TyS.form {C:Gc} {loc:Bool} {w W:World} {N:Nat} {e1:Bool} {i1:Nat} {xs:List Ty} {m j:Nat} {ej:Bool} {v:Value} (h:TyS C loc w N e1 i1 xs m j ej v W):∃a c,v=.slice a xs.length c:=by
 obtain ⟨a,c,h1,_⟩:=h.own.form;exact ⟨a,c,h1⟩
theorem grtypes_any (J:JConstOk) (C:Gc) (hck:checkP C.l=true) (i:Nat) (en:Bool) (w:World) (h:Gd C i en w) (hsm:C.n≤40000) (loc:Bool) :
 Calls Tryz.prog 79 #[.pointer (some ⟨C.X,0,none⟩),.bool loc] w (gty_post C loc i en w):=by
 have b1:Below w.heap.size w (w.alloc (.cells #[] 143)):=(Below.refl _ _).alloc (Nat.le_refl _) _;have hsw:(w.alloc (.cells #[] 143)).heap.size=w.heap.size+1:=by simp
 have HN:=hide (gru_any C i en _ (h.below b1) 2 (by omega));have O1:Orw tyc 143 2 (w.alloc (.cells #[] 143)) w.heap.size (.slice (some ⟨w.heap.size,0,none⟩) 0 0) []:=Orw.made _ _ _ w _ (Nat.le_refl _);have F1:GF C.X C.B w (w.alloc (.cells #[] 143)):=GF.of_below b1 h.hB;have HB1:=hide (And.intro O1 F1);have H0:=hide h;have hXw:=h.X_lt;have hjn:∀j ej W,Gd C j ej W→j≤40000:=fun j ej W g=>by have:=g.hi;omega
 have HU:Hid (∀W j ej (k:Nat),Gd C j ej W→(k=1∨k=2)→Calls Tryz.prog 39 #[.pointer (some ⟨C.X,0,none⟩),.int .i64 (k:Int)] W (gu_post C k j ej W)):=hide fun W j ej k g hk=>gru_any C j ej W g k (by omega)
 have HCl:Hid (∀W j ej (n:Int),Gd C j ej W→0≤n∧n≤9223372036854775807→Calls Tryz.prog 41 #[.pointer (some ⟨C.X,0,none⟩),.int .i64 n] W (gc_post C n j ej W)):=hide fun W j ej n g hn=>grclass_any J C hck j ej W g n hn
 obtain ⟨PO,hPO⟩:∃PO,PO=gty_post C loc i en w:=⟨_,rfl⟩;rw [←hPO];have HPO:=hide hPO;clear h b1 O1 F1 hPO;go_enter Tryz.func79,Tryz.ntmps79;go_wp2_with fail;refine (unhide HN).mono ?_;rintro e w1 ⟨n,i1,e1,rfl,hn,hg,hm1,hm2,G1,F1'⟩;obtain ⟨N,rfl⟩:∃N:Nat,n=N:=⟨n.toNat,by omega⟩;obtain ⟨hn1,_,hgot⟩:=hg (by decide);have hN:N≤65535:=by
  have h9:((256^2:Nat):Int)=65536:=by decide +kernel
  omega
 have F2:=(unhide HB1).2.trans F1';have O2:Orw tyc 143 2 w1 w.heap.size (.slice (some ⟨w.heap.size,0,none⟩) 0 0) []:=((unhide H0).below ((Below.refl _ _).alloc (Nat.le_refl _) _)).orw F1' (unhide HB1).1 (by decide);have HM:Hid (Mv 2 i en i1 e1):=hide ⟨hm1.1,fun e=>by rw [hm1.2.1 e];exact Nat.le_refl _,hm2⟩;have HG:=hide hgot;have HS:Hid (TyS C loc w N e1 i1 [] N i1 e1 (.slice (some ⟨w.heap.size,0,none⟩) 0 0) w1):=hide ⟨O2,⟨fun e=>e,fun e vs r hr=>⟨e,vs,rfl,hr⟩⟩,(fun x hx=>by cases hx),by simp,Mv.refl _ _,G1,F2,hN⟩;clear HN hn hg hm1 hm2 G1 F1' hn1 hgot F2 O2 HB1;go_wp2
 go_loopw [5,6] (fun v vn wr=>∃xs m j ej,vn=.int .i64 ((m:Nat):Int)∧TyS C loc w N e1 i1 xs m j ej v wr) (fun _ vn _=>(intOf vn).toNat)
 case atStart=>exact ⟨[],N,i1,e1,rfl,unhide HS⟩
 case round=>
  clear HS;obtain ⟨xs,m,j,ej,rfl,hT⟩:=hrel;obtain ⟨a,c,rfl⟩:=hT.form;obtain ⟨q,hq⟩:∃q,xs.length=q:=⟨_,rfl⟩;rw [hq] at hT ⊢;have hfew:=hT.few;have d3:wr.cell? ⟨C.X,3,none⟩=some (.bool ej):=bx_cell hT.gd.blk 3 _ rfl;have hqs:q≤90000:=by
   have h1:=hT.len;have h2:=hjn j ej wr hT.gd;have:(if ej=true then 2 else 0)≤2:=by split <;> omega
   omega
  by_cases hm0:m=0
  · subst hm0
    have hT':=hide hT;clear hT;go_wp2;rw [unhide HPO];exact (unhide hT').fin hq (unhide HG) rfl (unhide HM) (.inl rfl)
  · obtain ⟨m,rfl⟩:∃k,m=k+1:=⟨m-1,by omega⟩
    have hm1:(0:Int)<((m+1:Nat):Int):=by omega
    clear hm0;cases ej with
    | true=>
     have hT':=hide hT;clear hT;go_wp2;rw [unhide HPO];exact (unhide hT').fin hq (unhide HG) rfl (unhide HM) (.inr rfl)
    | false=>
     have HC:=hide (unhide HU wr j false 1 hT.gd (.inl rfl));have hT':=hide hT;have HQ:=hide hq;clear hT hq;go_wp2_with fail;refine (unhide HC).mono ?_;rintro e w2 ⟨n,j1,ej,rfl,hn,hg,hm2,hm3,G2,F2⟩;obtain ⟨_,_,hgot⟩:=hg (by decide);have hmv:Mv 1 j false j1 ej:=⟨hm2.1,fun e=>by rw [hm2.2.1 e];exact Nat.le_refl _,hm3⟩;have O2:Orw tyc 143 2 w2 w.heap.size (.slice a q c) xs:=(unhide hT').gd.orw F2 (unhide hT').own (by decide);have F3:=(unhide hT').gf.trans F2;have HR:=hide (And.intro hgot (And.intro hmv (And.intro O2 (And.intro G2 F3))));have d2:w2.cell? ⟨C.X,3,none⟩=some (.bool ej):=bx_cell G2.blk 3 _ rfl;have z2:=bx_thaw G2.blk 3;clear HC hn hg hm2 hm3 F2 hgot hmv O2 F3 G2 d3
     by_cases z0:n=0
     · subst z0
       have HR0:=HR;obtain ⟨o3,l3,s1,s2,s3,hx⟩:=rec_push (unhide H0) (unhide HR).2.2.2.1 (unhide HR).2.2.2.2 rkT (unhide HR).2.2.1 #[.int .i64 0,.string ⟨([]).toArray⟩] (⟨0,[]⟩:Ty) rfl (by rw [unhide HQ];omega) (by decide);have HO4:=hide o3;have HL4:=hide l3;have HS4:=hide (And.intro s1 (And.intro s2 s3));have HX4:=hide hx;clear o3 l3 s1 s2 s3 hx
       go_wp2_with (first
        | (at_builtin;refine listR_append rkT rfl _ _ rfl w.heap.size _ _ rfl (unhide HO4) _ 1 1 [_] rfl (unhide HL4) (fun e=>by cases e) (unhide HS4).1 (unhide HS4).2.1 (unhide HS4).2.2 ?_)
        | go_in)
       intro v4 w4 o4 g4;obtain ⟨G4,F4⟩:=unhide HX4 v4 w4 o4 g4;obtain ⟨a4,c4,hv4,_⟩:=o4.form;subst hv4;clear HO4 HL4 HS4 HX4 g4;clear d2 z2 HR;have HZ:=hide ((unhide hT').next (ts:=[⟨0,[]⟩]) (j1:=j1) (ej:=ej) (got_ty (unhide HR0).1 (fun v0 r he hk=>by unfold tyK at hk;simp at hk;exact ⟨hk.1,he,hk.2⟩)) (fun x hx=>by simp at hx;subst hx;exact ⟨by unfold fitI;decide,.inl rfl⟩) (by simp) (unhide HR0).2.1 o4 rfl G4 F4);clear o4 G4 F4;go_wp2;go_roundw
       case rel=>exact ⟨_,m,_,_,by go_num,unhide HZ⟩
       case measure=>(simp [intOf] <;> omega)
     · have y0:(n==0)=false:=by simpa using z0
       by_cases z1:n=1
       · subst z1
         have HR0:=HR;obtain ⟨o3,l3,s1,s2,s3,hx⟩:=rec_push (unhide H0) (unhide HR).2.2.2.1 (unhide HR).2.2.2.2 rkT (unhide HR).2.2.1 #[.int .i64 1,.string ⟨([]).toArray⟩] (⟨1,[]⟩:Ty) rfl (by rw [unhide HQ];omega) (by decide);have HO4:=hide o3;have HL4:=hide l3;have HS4:=hide (And.intro s1 (And.intro s2 s3));have HX4:=hide hx;clear o3 l3 s1 s2 s3 hx
         go_wp2_with (first
          | (at_builtin;refine listR_append rkT rfl _ _ rfl w.heap.size _ _ rfl (unhide HO4) _ 1 1 [_] rfl (unhide HL4) (fun e=>by cases e) (unhide HS4).1 (unhide HS4).2.1 (unhide HS4).2.2 ?_)
          | go_in)
         intro v4 w4 o4 g4;obtain ⟨G4,F4⟩:=unhide HX4 v4 w4 o4 g4;obtain ⟨a4,c4,hv4,_⟩:=o4.form;subst hv4;clear HO4 HL4 HS4 HX4 g4;clear d2 z2 HR;have HZ:=hide ((unhide hT').next (ts:=[⟨1,[]⟩]) (j1:=j1) (ej:=ej) (got_ty (unhide HR0).1 (fun v0 r he hk=>by unfold tyK at hk;simp at hk;exact ⟨hk.1,he,hk.2⟩)) (fun x hx=>by simp at hx;subst hx;exact ⟨by unfold fitI;decide,.inl rfl⟩) (by simp) (unhide HR0).2.1 o4 rfl G4 F4);clear o4 G4 F4;go_wp2;go_roundw
         case rel=>exact ⟨_,m,_,_,by go_num,unhide HZ⟩
         case measure=>(simp [intOf] <;> omega)
       · have y1:(n==1)=false:=by simpa using z1
         by_cases z4:n=4
         · subst z4
           cases loc with
           | true=>
            have HR0:=HR;obtain ⟨o3,l3,s1,s2,s3,hx⟩:=rec_push (unhide H0) (unhide HR).2.2.2.1 (unhide HR).2.2.2.2 rkT (unhide HR).2.2.1 #[.int .i64 2,.string ⟨([]).toArray⟩] (⟨2,[]⟩:Ty) rfl (by rw [unhide HQ];omega) (by decide);have HO4:=hide o3;have HL4:=hide l3;have HS4:=hide (And.intro s1 (And.intro s2 s3));have HX4:=hide hx;clear o3 l3 s1 s2 s3 hx
            go_wp2_with (first
             | (at_builtin;refine listR_append rkT rfl _ _ rfl w.heap.size _ _ rfl (unhide HO4) _ 1 1 [_] rfl (unhide HL4) (fun e=>by cases e) (unhide HS4).1 (unhide HS4).2.1 (unhide HS4).2.2 ?_)
             | go_in)
            intro v4 w4 o4 g4;obtain ⟨G4,F4⟩:=unhide HX4 v4 w4 o4 g4;obtain ⟨a4,c4,hv4,_⟩:=o4.form;subst hv4;clear HO4 HL4 HS4 HX4 g4;clear d2 z2 HR;obtain ⟨ys,hys⟩:∃ys,ys=xs++[(⟨2,[]⟩:Ty)]:=⟨_,rfl⟩;rw [←hys] at o4 ⊢;have HYL:ys.length=q+1:=by rw [hys,List.length_append,unhide HQ];rfl
            have HYS:=hide hys;clear hys;have HP4:=hide (And.intro o4 (And.intro G4 F4));clear o4 G4 F4;obtain ⟨o3,l3,s1,s2,s3,hx⟩:=rec_push (unhide H0) (unhide HP4).2.1 (unhide HP4).2.2 rkT (unhide HP4).1 #[.int .i64 0,.string ⟨([]).toArray⟩] (⟨0,[]⟩:Ty) rfl (by omega) (by decide);have HO5:=hide o3;have HL5:=hide l3;have HS5:=hide (And.intro s1 (And.intro s2 s3));have HX5:=hide hx;clear o3 l3 s1 s2 s3 hx HYL
            go_wp2_with (first
             | (at_builtin;refine listR_append rkT rfl _ _ rfl w.heap.size _ _ rfl (unhide HO5) _ 1 1 [_] rfl (unhide HL5) (fun e=>by cases e) (unhide HS5).1 (unhide HS5).2.1 (unhide HS5).2.2 ?_)
             | go_in)
            intro v5 w5 o5 g5;obtain ⟨G5,F5⟩:=unhide HX5 v5 w5 o5 g5;obtain ⟨a5,c5,hv5,_⟩:=o5.form;subst hv5;clear HO5 HL5 HS5 HX5 g5;clear HP4;have HZ:=hide ((unhide hT').next (ts:=[⟨2,[]⟩,⟨0,[]⟩]) (j1:=j1) (ej:=ej) (got_ty (unhide HR0).1 (fun v0 r he hk=>by unfold tyK at hk;simp at hk;exact ⟨hk.1,he,hk.2⟩)) (fun x hx=>by simp at hx;rcases hx with rfl | rfl <;> exact ⟨by unfold fitI;decide,.inl rfl⟩) (by simp) (unhide HR0).2.1 o5 (by rw [unhide HYS,List.append_assoc];rfl) G5 F5);clear o5 G5 F5;go_wp2;go_roundw
            case rel=>exact ⟨_,m,_,_,by go_num,unhide HZ⟩
            case measure=>(simp [intOf] <;> omega)
           | false=>
            have HR0:=HR;obtain ⟨o3,l3,s1,s2,s3,hx⟩:=rec_push (unhide H0) (unhide HR).2.2.2.1 (unhide HR).2.2.2.2 rkT (unhide HR).2.2.1 #[.int .i64 2,.string ⟨([]).toArray⟩] (⟨2,[]⟩:Ty) rfl (by rw [unhide HQ];omega) (by decide);have HO4:=hide o3;have HL4:=hide l3;have HS4:=hide (And.intro s1 (And.intro s2 s3));have HX4:=hide hx;clear o3 l3 s1 s2 s3 hx
            go_wp2_with (first
             | (at_builtin;refine listR_append rkT rfl _ _ rfl w.heap.size _ _ rfl (unhide HO4) _ 1 1 [_] rfl (unhide HL4) (fun e=>by cases e) (unhide HS4).1 (unhide HS4).2.1 (unhide HS4).2.2 ?_)
             | go_in)
            intro v4 w4 o4 g4;obtain ⟨G4,F4⟩:=unhide HX4 v4 w4 o4 g4;obtain ⟨a4,c4,hv4,_⟩:=o4.form;subst hv4;clear HO4 HL4 HS4 HX4 g4;clear d2 z2 HR;have HZ:=hide ((unhide hT').next (ts:=[⟨2,[]⟩]) (j1:=j1) (ej:=ej) (got_ty (unhide HR0).1 (fun v0 r he hk=>by unfold tyK at hk;simp at hk;exact ⟨hk.1,he,hk.2⟩)) (fun x hx=>by simp at hx;subst hx;exact ⟨by unfold fitI;decide,.inl rfl⟩) (by simp) (unhide HR0).2.1 o4 rfl G4 F4);clear o4 G4 F4;go_wp2;go_roundw
            case rel=>exact ⟨_,m,_,_,by go_num,unhide HZ⟩
            case measure=>(simp [intOf] <;> omega)
         · have y4:(n==4)=false:=by simpa using z4
           by_cases z5:n=5
           · subst z5
             have HR0:=HR;obtain ⟨o3,l3,s1,s2,s3,hx⟩:=rec_push (unhide H0) (unhide HR).2.2.2.1 (unhide HR).2.2.2.2 rkT (unhide HR).2.2.1 #[.int .i64 3,.string ⟨([]).toArray⟩] (⟨3,[]⟩:Ty) rfl (by rw [unhide HQ];omega) (by decide);have HO4:=hide o3;have HL4:=hide l3;have HS4:=hide (And.intro s1 (And.intro s2 s3));have HX4:=hide hx;clear o3 l3 s1 s2 s3 hx
             go_wp2_with (first
              | (at_builtin;refine listR_append rkT rfl _ _ rfl w.heap.size _ _ rfl (unhide HO4) _ 1 1 [_] rfl (unhide HL4) (fun e=>by cases e) (unhide HS4).1 (unhide HS4).2.1 (unhide HS4).2.2 ?_)
              | go_in)
             intro v4 w4 o4 g4;obtain ⟨G4,F4⟩:=unhide HX4 v4 w4 o4 g4;obtain ⟨a4,c4,hv4,_⟩:=o4.form;subst hv4;clear HO4 HL4 HS4 HX4 g4;clear d2 z2 HR;have HZ:=hide ((unhide hT').next (ts:=[⟨3,[]⟩]) (j1:=j1) (ej:=ej) (got_ty (unhide HR0).1 (fun v0 r he hk=>by unfold tyK at hk;simp at hk;exact ⟨hk.1,he,hk.2⟩)) (fun x hx=>by simp at hx;subst hx;exact ⟨by unfold fitI;decide,.inl rfl⟩) (by simp) (unhide HR0).2.1 o4 rfl G4 F4);clear o4 G4 F4;go_wp2;go_roundw
             case rel=>exact ⟨_,m,_,_,by go_num,unhide HZ⟩
             case measure=>(simp [intOf] <;> omega)
           · have y5:(n==5)=false:=by simpa using z5
             by_cases z7:n=7
             · subst z7
               have HC2:=hide (unhide HU w2 j1 ej 2 (unhide HR).2.2.2.1 (.inr rfl));clear d2 z2;go_wp2_with fail;refine (unhide HC2).mono ?_;rintro e w5 ⟨n2,j2,e2,rfl,hn2,hg2,hm4,hm5,G5,F5⟩;obtain ⟨_,_,hgot2⟩:=hg2 (by decide);have HC3:=hide (unhide HCl w5 j2 e2 n2 G5 hn2);have hmv2:Mv 2 j1 ej j2 e2:=⟨hm4.1,fun e=>by rw [hm4.2.1 e];exact Nat.le_refl _,hm5⟩;have O5:Orw tyc 143 2 w5 w.heap.size (.slice a q c) xs:=(unhide HR).2.2.2.1.orw F5 (unhide HR).2.2.1 (by decide);have HR5:=hide (And.intro hgot2 (And.intro hmv2 (And.intro O5 (And.intro G5 ((unhide HR).2.2.2.2.trans F5)))));clear HC2 hn2 hg2 hm4 hm5 F5 hgot2 hmv2 O5 G5;go_wp2_with fail;refine (unhide HC3).mono ?_;rintro e w6 ⟨s,e3,rfl,ts,hcl,hen,G6,F6⟩;have O6:Orw tyc 143 2 w6 w.heap.size (.slice a q c) xs:=(unhide HR5).2.2.2.1.orw F6 (unhide HR5).2.2.1 (by decide);have HR6:=hide (And.intro O6 (And.intro G6 ((unhide HR5).2.2.2.2.trans F6)));have HQ6:=hide (And.intro ts (And.intro hcl hen));clear HC3 O6 G6 F6 ts hcl hen;obtain ⟨o3,l3,s1,s2,s3,hx⟩:=rec_push (unhide H0) (unhide HR6).2.1 (unhide HR6).2.2 rkT (unhide HR6).1 #[.int .i64 4,.string ⟨(s).toArray⟩] (⟨4,s⟩:Ty) rfl (by rw [unhide HQ];omega) (by decide);have HO7:=hide o3;have HL7:=hide l3;have HS7:=hide (And.intro s1 (And.intro s2 s3));have HX7:=hide hx;clear o3 l3 s1 s2 s3 hx
               go_wp2_with (first
                | (at_builtin;refine listR_append rkT rfl _ _ rfl w.heap.size _ _ rfl (unhide HO7) _ 1 1 [_] rfl (unhide HL7) (fun e=>by cases e) (unhide HS7).1 (unhide HS7).2.1 (unhide HS7).2.2 ?_)
                | go_in)
               intro v7 w7 o7 g7;obtain ⟨G7,F7⟩:=unhide HX7 v7 w7 o7 g7;obtain ⟨a7,c7,hv7,_⟩:=o7.form;subst hv7;clear HO7 HL7 HS7 HX7 g7;clear HR6;have HZ:=hide ((unhide hT').next (ts:=[⟨4,s⟩]) (j1:=j2) (ej:=e3) (got_ty (unhide HR).1 (fun v0 r he hk=>by
                rw [tyK7] at hk;obtain ⟨h1,h2⟩:=got_bind (unhide HR5).1 he hk;simp only at h2;obtain ⟨x,h3,h4⟩:=Option.bind_eq_some_iff.1 h2;injection h4 with h4
                injection h4 with h4 h5
                obtain ⟨h6,h7⟩:=(unhide HQ6).2.1 x h1 h3;exact ⟨by rw [←h4,h6],h7,h5⟩)) (fun x hx=>by simp at hx;subst hx;exact ⟨by show fitI 4;unfold fitI;decide,(unhide HQ6).1⟩) (by simp) (by
                have h1:=(unhide HR).2.1;have h2:=(unhide HR5).2.1;refine ⟨Nat.le_trans h1.le h2.le,fun e=>?_,(fun e=>by cases e)⟩;have he2:e2=false:=by
                 cases h:e2 with
                 | false=>rfl
                 | true=>rw [(unhide HQ6).2.2 h] at e;cases e
                have:=(h1.trans h2).by_ he2;omega) o7 rfl G7 F7)
               clear o7 G7 F7;go_wp2;go_roundw
               case rel=>exact ⟨_,m,_,_,by go_num,unhide HZ⟩
               case measure=>(simp [intOf] <;> omega)
             · have y7:(n==7)=false:=by simpa using z7
               have HG2:=(unhide HR).2.2.2.1.set true;have HR0:=hide (And.intro ((unhide HR).2.2.2.1.orw HG2.2 (unhide HR).2.2.1 (by decide)) (And.intro HG2.1 ((unhide HR).2.2.2.2.trans HG2.2)));clear HG2;have HZ:=hide ((unhide hT').next (ts:=[]) (j1:=j1) (ej:=true) (got_ty (unhide HR).1 (fun v0 r he hk=>by
                unfold tyK at hk;rw [if_neg z0,if_neg z1,if_neg z4,if_neg z5,if_neg z7] at hk;cases hk)) (fun x hx=>by cases hx) (by decide) ⟨(unhide HR).2.1.le,(fun e=>by cases e),(fun e=>by cases e)⟩ (unhide HR0).1 (by rw [List.append_nil]) (unhide HR0).2.1 (unhide HR0).2.2)
               clear HR0 HR;go_wp2;go_roundw
               case rel=>exact ⟨_,m,_,_,by go_num,unhide HZ⟩
               case measure=>(simp [intOf] <;> omega)
def MidP (l:List Ent) (bs:List UInt8) (N:Nat) (en:Bool) (s:List UInt8) (xs:List Mp) (last:Int) (j:Nat) (ej:Bool):Prop:=
 (en=true→ej=true)∧(en=false→∀vs r,mpsR l N (-1) s=some (vs,r)→ej=false∧∃vs',vs=xs++vs'∧mpsR l (N-xs.length) last (bs.drop j)=some (vs',r))
theorem MidP.next {l:List Ent} {bs:List UInt8} {N:Nat} {en:Bool} {s:List UInt8} {xs:List Mp} {last:Int} {j:Nat} {ej:Bool} (h:MidP l bs N en s xs last j ej) (hl:xs.length<N) {x:Mp} {j1:Nat} {e1:Bool} (g:Got (mapR l last) bs j ej x j1 e1):MidP l bs N en s (xs++[x]) x.at_ j1 e1:=by
 refine ⟨fun e=>g.1 (h.1 e),fun e vs r hr=>?_⟩;obtain ⟨h1,vs',rfl,h2⟩:=h.2 e vs r hr;obtain ⟨m,hm⟩:∃m,N-xs.length=m+1:=⟨N-xs.length-1,by omega⟩;rw [hm] at h2;unfold mpsR at h2;obtain ⟨k1,h3⟩:=got_bind g h1 h2;obtain ⟨⟨q,s3⟩,hq,h3⟩:=Option.bind_eq_some_iff.1 h3;obtain ⟨rfl,rfl⟩:=got_end h3;refine ⟨k1,q,by simp,?_⟩;rw [List.length_append,List.length_cons,List.length_nil,show N-(xs.length+(0+1))=m by omega];exact hq
theorem MidP.done {l:List Ent} {bs:List UInt8} {N:Nat} {en0 en:Bool} {i i1:Nat} {n:Int} {xs:List Mp} {last:Int} {j:Nat} {ej:Bool} (g:Got (uR 2) bs i en0 n i1 en) (hn:n=N) (h:MidP l bs N en (bs.drop i1) xs last j ej) (hx:¬xs.length<N∨ej=true):Got (mapsR l) bs i en0 xs j ej:=by
 refine ⟨fun e=>h.1 (g.1 e),fun e v0 r hr=>?_⟩;unfold mapsR at hr;obtain ⟨k1,hr⟩:=got_bind g e hr;simp only at hr;rw [hn,Int.toNat_natCast] at hr;obtain ⟨h1,vs',rfl,h2⟩:=h.2 k1 _ _ hr
 rcases hx with hx | hx
 · rw [show N-xs.length=0 by omega] at h2
   obtain ⟨rfl,rfl⟩:=got_end h2;exact ⟨by simp,h1,rfl⟩
 · rw [h1] at hx
   cases hx
theorem FA.on {C:Cr} {A:Nat} {w w1 w2:World} (f:FA C A w w1) (g:Below w1.heap.size w1 w2) (hB:C.B≤w.heap.size):FA C A w w2:=kfr2_trans (F1:=fun _=>False) f (Fr6.of_below g (Nat.le_trans hB f.size)) (fun k hk=>hk.elim)
theorem FA.grown {C:Cr} {A:Nat} {w W W':World} (f:FA C A w W) (hB:C.B≤w.heap.size) {α:Type} {cs:α→List Value} {e:TypeId} {sz:Nat} {v:Value} {l:List α} (o:Orw cs e sz W w.heap.size v l) (g:W.grownBy W' v.ownBlock):FA C A w W':=
 ⟨Below.grown (Fr6.below f) g (Nat.le_trans hB f.size) (fun k hk=>Nat.le_trans hB (o.lt k hk).1),fun k hk hn=>(grown_other g (Nat.lt_of_lt_of_le hk f.size) fun e1=>by have:=(o.lt k e1).1;omega).trans (Fr6.other f k hk hn)⟩
def rlP_post (C:Cr) (i:Nat) (en:Bool) (w:World) (A:Nat) (e:Ending) (w':World):Prop:=
 ∃(s:Sl) (xs:List MpR) (i':Nat) (en':Bool),e=.returned s.v∧(Orw mpc 52 3 w' w.heap.size s.v xs∧(∀x∈xs,MpOk C.l w' w.heap.size x)∧xs.length≤65536)∧Got (mapsR C.l) C.bs i en (xs.map MpR.m) i' en'∧Rd8 C i' en' w'∧FA C A w w'
theorem rlP_any (C:Cr) (i:Nat) (en:Bool) (w:World) (h:Rd8 C i en w) (hT:Tab8 w) (Bx A:Nat) (hbx:w.heap[Bx]?=some (.cells #[.pointer (some ⟨C.X,0,none⟩)] 123 (0,0))) (hA:w.heap[A]?=some (.cells #[.int .i64 (-1)] 3 (0,0))) (hAB:C.B≤A) :
 Calls Tryz.prog 155 #[.pointer (some ⟨C.X,0,none⟩),.func (.func 156) #[] #[.pointer (some ⟨Bx,0,none⟩),.pointer (some ⟨A,0,none⟩)]] w (rlP_post C i en w A):=by
 have hB:=h.hB;have hB1:=h.one;have HN:=hide (rNumber_any C i en w h 2 (by omega));have H0:=hide (And.intro h (And.intro hT (And.intro hbx hA)));have HTW:=hide hT;clear h hT hbx hA;go_enter Tryz.func155,Tryz.ntmps155;go_wp2_with fail;refine (unhide HN).mono ?_;rintro e w1 ⟨n,i1,e1,rfl,hn,g1,R1,f1⟩;obtain ⟨N,rfl⟩:∃N:Nat,n=N:=⟨n.toNat,by omega⟩;have hN16:N<65536:=by
  have:=hn.2.2;have e2:((256^2:Nat):Int)=65536:=by decide
  rw [e2] at this;omega
 obtain ⟨R0,T0,bx0,A0⟩:=unhide H0;have HG:=hide g1;have H1:=hide (And.intro R1 (And.intro (f1.fa A) (And.intro (R0.blk f1 bx0 (by decide) (by decide)) (And.intro (R0.blk f1 A0 (by decide) (by decide)) (f1.tab hB1 T0)))));clear HN g1 R1 f1 R0 T0 bx0 A0 H0 hn;go_wp2
 go_loopw [6] (fun v wr=>∃xs last j ej,Orw mpc 52 3 wr w.heap.size v xs∧xs.length≤N∧(∀x∈xs,MpOk C.l wr w.heap.size x)∧MidP C.l C.bs N e1 (C.bs.drop i1) (xs.map MpR.m) last j ej∧Rd8 C j ej wr∧FA C A w wr∧wr.heap[Bx]?=some (.cells #[.pointer (some ⟨C.X,0,none⟩)] 123 (0,0))∧wr.heap[A]?=some (.cells #[.int .i64 last] 3 (0,0))∧(-1≤last∧last≤xs.length*65536)∧Tab8 wr) (fun v _=>N-slLen v)
 case atStart=>exact ⟨[],-1,i1,e1,Orw.nil _ _ _ _ _,Nat.zero_le _,(fun x hx=>by cases hx),⟨fun e=>e,fun e vs r hr=>⟨e,vs,rfl,hr⟩⟩,(unhide H1).1,(unhide H1).2.1,(unhide H1).2.2.1,(unhide H1).2.2.2.1,⟨by omega,by simp⟩,(unhide H1).2.2.2.2⟩
 case round=>
  obtain ⟨xs,last,j,ej,hO,hN,hE,hM,hR,hF,hbx,hA,hl,hT⟩:=hrel;obtain ⟨a,c,rfl,hf1,hf2,hf3⟩:=hO.form;obtain ⟨ra,rc,rq,_⟩:=hR.pl;have cX:=bx_cell rq 2 _ rfl
  by_cases hlt:xs.length<N
  · have hlt1:(xs.length:Int)<(N:Int):=by omega
    cases ej with
    | true=>
     have HD:=hide (And.intro hO (And.intro hE (And.intro hM (And.intro hR hF))));clear hO hE hM hR hF rq hf1 hf2 hf3 hbx hA hT;go_wp2;go_ret;obtain ⟨hO,hE,hM,hR,hF⟩:=unhide HD;exact ⟨⟨a,xs.length,c⟩,xs,j,true,rfl,⟨hO,hE,by omega⟩,MidP.done (unhide HG) rfl hM (.inr rfl),hR,hF⟩
    | false=>
     have HP:=hide (rMaps1_any C j false wr hR hT Bx A last hbx hA hAB (by omega));have HD:=hide (And.intro hO (And.intro hE (And.intro hM (And.intro hR (And.intro hF (And.intro hbx (And.intro hA (And.intro hl hT))))))));clear hO hE hM hR hF rq hf1 hf2 hf3 hbx hA hl hT;go_wp2_with fail;refine (unhide HP).mono ?_;rintro e w2 ⟨⟨xm,⟨la,ln,lc⟩,⟨ka,kn,kc⟩⟩,j2,e2,rfl,ok2,g2,A2,b2,R2,f2⟩;obtain ⟨hO,hE,hM,hR,hF,hbx,hA,hl,hT⟩:=unhide HD;clear HP cX HD;simp only at g2 A2 b2;have hsz:=hF.size;have O2:Orw mpc 52 3 w2 w.heap.size (.slice a xs.length c) xs:=hO.keep fun k X _ hX=>(hR.blkA f2 hA hX (by decide) (by decide) (by decide)).trans hX.symm
     have F2:=hF.trans f2;have hE2:∀x∈xs,MpOk C.l w2 w.heap.size x:=fun x hx=>(hE x hx).keep fun k Z hk=>(hR.blkA f2 hA hk (by decide) (by decide) (by decide)).trans hk.symm
     have bx2:=hR.blkA f2 hA hbx (by decide) (by decide) (by decide);have T2:=f2.tab hB1 hT;have b3:Below w2.heap.size w2 (w2.alloc (.cells #[.int .i64 xm.at_,.slice la ln lc,.slice ka kn kc] 52)):=(Below.refl _ _).alloc (Nat.le_refl _) _;have O3:Orw mpc 52 3 (w2.alloc (.cells #[.int .i64 xm.at_,.slice la ln lc,.slice ka kn kc] 52)) w.heap.size (.slice a xs.length c) xs:=O2.below fun k hk=>b3.block k (O2.lt k hk).2
     have l3:=ls_one (cs:=mpc) (sz:=3) w2 #[.int .i64 xm.at_,.slice la ln lc,.slice ka kn kc] 52 ⟨xm,⟨la,ln,lc⟩,⟨ka,kn,kc⟩⟩ rfl;have R3:=R2.below b3;have F3:=F2.on b3 hB;have hM2:=hM.next (by simpa using hlt) g2;have ok3:∀y∈xs++[(⟨xm,⟨la,ln,lc⟩,⟨ka,kn,kc⟩⟩:MpR)],MpOk C.l (w2.alloc (.cells #[.int .i64 xm.at_,.slice la ln lc,.slice ka kn kc] 52)) w.heap.size y:=fun y hy=>by
      rcases List.mem_append.1 hy with hy | hy
      · exact (hE2 y hy).keep fun k Z hk=>b3.block k (lt_of_heap hk)
      · simp at hy
        subst hy;exact (ok2.base hsz).keep fun k Z hk=>b3.block k (lt_of_heap hk)
     have bx3:=(b3.block _ (lt_of_heap bx2)).trans bx2;have A3:=(b3.block _ (lt_of_heap A2)).trans A2;have hln:(xs.length+1)*56≤140737488355328:=by omega
     have hln2:xs.length+1≤140737488355328:=by omega
     have hbs:w.heap.size≤(w2.alloc (.cells #[.int .i64 xm.at_,.slice la ln lc,.slice ka kn kc] 52)).heap.size:=F3.size;have hl2:-1≤xm.at_∧xm.at_≤((xs.length+1:Nat):Int)*65536:=by omega
     have HO3:=hide O3;have HL3:=hide l3;have HLN:=hide hln;have HLN2:=hide hln2;have HBS:=hide hbs;have HX:=hide (And.intro R3 (And.intro F3 (And.intro ok3 (And.intro hM2 (And.intro bx3 (And.intro A3 (And.intro hl2 (T2.below b3))))))));clear hO hE hM hR hF hbx hA hl hT O2 F2 hE2 bx2 T2 b3 O3 l3 R3 F3 hM2 ok3 ok2 g2 A2 b2 R2 f2 hln hln2 hbs bx3 A3 hl2;unfold mpc Sl.v;simp only
     go_wp2_with (first
      | (at_builtin;refine listR_append rkP rfl _ _ rfl w.heap.size _ _ rfl (unhide HO3) _ 1 1 [_] rfl (unhide HL3) (fun e=>by cases e) (unhide HLN) (unhide HLN2) (unhide HBS) ?_)
      | go_in)
     intro v' w4 o4 g4;obtain ⟨R3,F3,ok3,hM2,bx3,A3,hl2,T3⟩:=unhide HX;obtain ⟨a4,c4,hv4,_⟩:=o4.form;have hne:∀(k:Nat) (Z:Array Value) (T:TypeId),(w2.alloc (.cells #[.int .i64 xm.at_,.slice la ln lc,.slice ka kn kc] 52)).heap[k]?=some (.cells Z T (0,0))→T≠52→w4.heap[k]?=(w2.alloc (.cells #[.int .i64 xm.at_,.slice la ln lc,.slice ka kn kc] 52)).heap[k]?:=fun k Z T hk hT=>grown_other g4 (lt_of_heap hk) fun e1=>by
      obtain ⟨Y,h1⟩:=orw_block (unhide HO3) e1;rw [h1] at hk;injection hk with hk
      injection hk with _ hk
      exact hT hk.symm
     have R4:=R3.grown (unhide HO3) g4 (by decide);have F4:=F3.grown hB (unhide HO3) g4;have ok4:∀y∈xs++[(⟨xm,⟨la,ln,lc⟩,⟨ka,kn,kc⟩⟩:MpR)],MpOk C.l w4 w.heap.size y:=fun y hy=>(ok3 y hy).keep fun k Z hk=>hne k Z _ hk (by decide)
     have bx4:=(hne _ _ _ bx3 (by decide)).trans bx3;have A4:=(hne _ _ _ A3 (by decide)).trans A3;have T4:Tab8 w4:=F4.tab hB1 (unhide HTW);have HZ:=hide (And.intro o4 (And.intro ok4 (And.intro R4 (And.intro F4 (And.intro hM2 (And.intro bx4 (And.intro A4 (And.intro hl2 T4))))))));have HV:=hide hv4;clear o4 ok4 R4 F4 R3 F3 ok3 hM2 g4 HX HO3 HL3 HLN HLN2 HBS hv4 bx3 A3 hl2 T3 bx4 A4 T4 hne;go_wp2;go_roundw
     case rel=>
      obtain ⟨o4,ok4,R4,F4,hM2,bx4,A4,hl2,T4⟩:=unhide HZ;exact ⟨xs++[⟨xm,⟨la,ln,lc⟩,⟨ka,kn,kc⟩⟩],xm.at_,j2,e2,o4,by simp;omega,ok4,by rw [List.map_append];exact hM2,R4,F4,bx4,A4,by simpa using hl2,T4⟩
     case measure=>
      rw [unhide HV];simp [slLen];omega
  · have hlt1:¬(xs.length:Int)<(N:Int):=by omega
    have HD:=hide (And.intro hO (And.intro hE (And.intro hM (And.intro hR hF))));clear hO hE hM hR hF rq hf1 hf2 hf3 hbx hA hT;go_wp2;go_ret;obtain ⟨hO,hE,hM,hR,hF⟩:=unhide HD;exact ⟨⟨a,xs.length,c⟩,xs,j,ej,rfl,⟨hO,hE,by omega⟩,MidP.done (unhide HG) rfl hM (.inl (by simpa using hlt)),hR,hF⟩
def maps_post (C:Cr) (i:Nat) (en:Bool) (w:World) (e:Ending) (w':World):Prop:=
 ∃(s:Sl) (xs:List MpR) (i':Nat) (en':Bool),e=.returned s.v∧(Orw mpc 52 3 w' w.heap.size s.v xs∧(∀x∈xs,MpOk C.l w' w.heap.size x)∧xs.length≤65536)∧Got (tableR C.l) C.bs i en (xs.map MpR.m) i' en'∧Rd8 C i' en' w'∧FX C w w'
theorem rMaps_any (C:Cr) (i:Nat) (en:Bool) (w:World) (h:Rd8 C i en w) (hT:Tab8 w) :
 Calls Tryz.prog 150 #[.pointer (some ⟨C.X,0,none⟩)] w (maps_post C i en w):=by
 have hB:=h.hB;have hB1:=h.one;obtain ⟨w0,e0,f0,r0⟩:∃w0,w.alloc (.cells #[.pointer (some ⟨C.X,0,none⟩)] 123)=w0∧Below w.heap.size w w0∧w0.heap[w.heap.size]?=some (.cells #[.pointer (some ⟨C.X,0,none⟩)] 123 (0,0)):=⟨_,rfl,(Below.refl _ _).alloc (Nat.le_refl _) _,heap_alloc_new w _⟩;have R0:=h.below f0;have F0:FX C w w0:=(FX.refl C w).on f0 hB;have HN:=hide (rNumber_any C i en w0 R0 2 (by omega));have c0:w0.cell? ⟨w.heap.size,0,none⟩=some (.pointer (some ⟨C.X,0,none⟩)):=bx_cell r0 0 _ rfl;have H0:=hide (And.intro R0 (And.intro F0 (And.intro r0 (hT.below f0))));clear h f0 r0 R0 F0 hT;go_enter Tryz.func150,Tryz.ntmps150;go_wp2_with fail;refine (unhide HN).mono ?_;rintro e w1 ⟨n1,j1,e1,rfl,b1,g1,R1,f1⟩;clear HN e0 c0;obtain ⟨R0,F0,r0,T0⟩:=unhide H0;have r1:=R0.blk f1 r0 (by decide) (by decide);have c1:w1.cell? ⟨w.heap.size,0,none⟩=some (.pointer (some ⟨C.X,0,none⟩)):=bx_cell r1 0 _ rfl;have T1:=f1.tab hB1 T0;have F1:=F0.trans f1;have hlt1:=lt_of_heap r1;clear R0 F0 r0 T0 H0 f1
 by_cases hz:n1=0
 · subst hz
   have HG:Hid (Got (tableR C.l) C.bs i en [] j1 e1):=hide ⟨g1.1,fun e v0 r hr=>by
    unfold tableR at hr;obtain ⟨k1,hr⟩:=got_bind g1 e hr;simp only at hr;rw [if_pos trivial] at hr;obtain ⟨h1,h2⟩:=got_end hr;exact ⟨h1,k1,h2⟩⟩
   have HR:=hide (And.intro R1 F1);clear g1 R1 F1 r1 T1 b1;go_wp2;go_ret;exact ⟨⟨none,0,0⟩,[],j1,e1,rfl,⟨Orw.nil _ _ _ _ _,(fun x hx=>by cases hx),by simp⟩,unhide HG,(unhide HR).1,(unhide HR).2⟩
 · have hz':(n1==0)=false:=by simpa using hz
   have b2:Below w1.heap.size w1 (w1.alloc (.cells #[.int .i64 2,.int .i64 4] 3)):=(Below.refl _ _).alloc (Nat.le_refl _) _;have HN:=hide (rPass_any C j1 e1 _ (R1.below b2) [2,4] (by simp) w1.heap.size 2 2 rfl (by omega) (heap_alloc_new w1 _));have H1:=hide (And.intro g1 (And.intro R1 (And.intro F1 (And.intro r1 (And.intro T1 (And.intro b2 hz))))));clear g1 R1 F1 r1 T1 b1 b2 hz;go_wp2_with fail;refine (unhide HN).mono ?_;rintro e w3 ⟨j3,e3,rfl,g3,R3,f3⟩;obtain ⟨g1,R1,F1,r1,T1,b2,hz⟩:=unhide H1;clear HN c1;have f3':FX C w1 w3:=((FX.refl C w1).on b2 R1.hB).trans f3;have r3:=R1.blk f3' r1 (by decide) (by decide);have T3:=f3'.tab hB1 T1;obtain ⟨w4,e4,f4,a4⟩:∃w4,w3.alloc (.cells #[.int .i64 (-1)] 3)=w4∧Below w3.heap.size w3 w4∧w4.heap[w3.heap.size]?=some (.cells #[.int .i64 (-1)] 3 (0,0)):=⟨_,rfl,(Below.refl _ _).alloc (Nat.le_refl _) _,heap_alloc_new w3 _⟩;have R4:=R3.below f4;have r4:=(f4.block _ (lt_of_heap r3)).trans r3;have hszB:C.B≤w3.heap.size:=R3.hB;have HP:=hide (rlP_any C j3 e3 w4 R4 (T3.below f4) w.heap.size w3.heap.size r4 a4 hszB);have c4:w4.cell? ⟨w.heap.size,0,none⟩=some (.pointer (some ⟨C.X,0,none⟩)):=bx_cell r4 0 _ rfl;have hmf:∀(fn:Fn) (first cap:Array Value) (w:World),(Instr.makeFunc fn first cap).run Tryz.prog w=.ok (.func fn first cap) w:=fun _ _ _ _=>rfl
   have hw3:w.heap.size≤w3.heap.size:=Nat.le_of_lt (lt_of_heap r3);have H3:=hide (And.intro g1 (And.intro g3 (And.intro (F1.trans f3') (And.intro f4 (And.intro hz R3)))));clear g1 R1 F1 r1 T1 b2 hz g3 R3 f3 f3' r3 T3 f4 a4 R4 r4 H1;go_wp2_with fail;refine (unhide HP).mono ?_;rintro e w5 ⟨⟨a5,n5,c5⟩,xs,j5,e5,rfl,⟨o5,k5,m5⟩,g5,R5,f5⟩;obtain ⟨g1,g3,F3,f4,hz,R3⟩:=unhide H3;have HG:Hid (Got (tableR C.l) C.bs i en (xs.map MpR.m) j5 e5):=hide ⟨fun e=>g5.1 (g3.1 (g1.1 e)),fun e v0 r hr=>by
    unfold tableR at hr;obtain ⟨k1,hr⟩:=got_bind g1 e hr;simp only at hr;rw [if_neg hz] at hr;obtain ⟨⟨m,s⟩,ha,hr1⟩:=Option.bind_eq_some_iff.1 hr;obtain ⟨⟨m2,s2⟩,ha2,hr2⟩:=Option.bind_eq_some_iff.1 hr1;unfold utfR at ha;obtain ⟨⟨m3,s3⟩,ha3,ha4⟩:=Option.bind_eq_some_iff.1 ha;have hs3:s3=s:=by
     simp only at ha4;split at ha4
     · exact (got_end ha4).2
     · cases ha4
    clear hr hr1 ha ha4;subst hs3;obtain ⟨_,k3,d3⟩:=g3.2 k1 () s2 (by
     show (uR 2 _).bind _=_;rw [ha3,Option.bind_some];show (uR 4 _).bind _=_;simp only at ha2 ⊢;rw [ha2];rfl)
    simp only at hr2;rw [←d3] at hr2;exact g5.2 k3 _ _ hr2⟩
   have F5:FX C w w5:=⟨(Fr6.below (F3.on f4 hB)).trans (Fr6.below f5),fun k hk hn=>(Fr6.other f5 k (Nat.lt_of_lt_of_le hk (Nat.le_trans hw3 f4.size)) fun e=>by
    rcases e with e | e | e
    · exact hn (.inl e)
    · exact hn (.inr e)
    · omega).trans (Fr6.other (F3.on f4 hB) k hk hn)⟩
   have hw4:w.heap.size≤w4.heap.size:=Nat.le_trans hw3 f4.size;have HZ:Hid ((Orw mpc 52 3 w5 w.heap.size (.slice a5 n5 c5) xs∧(∀x∈xs,MpOk C.l w5 w.heap.size x)∧xs.length≤65536)∧Rd8 C j5 e5 w5∧FX C w w5):=hide ⟨⟨Orw.base o5 hw4,fun x hx=>(k5 x hx).base hw4,m5⟩,R5,F5⟩;clear g1 g3 F3 f4 hz R3 o5 k5 m5 g5 R5 f5 F5 H3 HP c4 e4;unfold Sl.v;go_wp2;go_ret;exact ⟨⟨a5,n5,c5⟩,xs,j5,e5,rfl,(unhide HZ).1,unhide HG,(unhide HZ).2.1,(unhide HZ).2.2⟩
end Go.Proofs.YtlabllgifkklhaaGreatDoor
