/- Joined: ClV CkP GrB GrC. -/
import Derived.Test.YtlabllgifkklhaaGreatDoorJP24
import Derived.Test.YtlabllgifkklhaaGreatDoorJP22
import Derived.Test.YtlabllgifkklhaaGreatDoorJCkO
import Derived.Test.YtlabllgifkklhaaGreatDoorJP20
import Derived.Deep.RegionHeld3
import Derived.Deep.Cut
set_option linter.unusedVariables false
set_option maxRecDepth 100000
set_option maxHeartbeats 3200000
namespace Go.Proofs.YtlabllgifkklhaaGreatDoor
open Go.RowKit
theorem printOk:PrintOk:=fun w r hT hC=>by
 have hR:=fun (W:World) (f:Below w.heap.size w W)=>cisRight_any W r (hC.below f)
 have hB:=fun (W:World) (f:Below w.heap.size w W) (hok:rightK r.c=true)=>wOf_any W r (hC.below f) (hT.below f) hok
 obtain ⟨cc,⟨pa,pn,pc⟩,⟨fa,fn,fc⟩,⟨ma,mn,mcc⟩,mr⟩:=r;unfold ClR.v Sl.v at hR hB ⊢;simp only at hR hB ⊢;obtain ⟨w0,e0,f0,K0⟩:=one_local w #[.slice pa pn pc,.string ⟨cc.name.toArray⟩,.string ⟨cc.super.toArray⟩,.slice fa fn fc,.slice ma mn mcc] 26;have KC:Hid (∀W,Below w0.heap.size w0 W→W.cell? ⟨w.heap.size,0,none⟩=some (.slice pa pn pc)∧W.cell? ⟨w.heap.size,1,none⟩=some (.string ⟨cc.name.toArray⟩)∧W.cell? ⟨w.heap.size,2,none⟩=some (.string ⟨cc.super.toArray⟩)∧W.cell? ⟨w.heap.size,3,none⟩=some (.slice fa fn fc)∧W.cell? ⟨w.heap.size,4,none⟩=some (.slice ma mn mcc)):=fun W f=>⟨K0 W f 0 _ rfl,K0 W f 1 _ rfl,K0 W f 2 _ rfl,K0 W f 3 _ rfl,K0 W f 4 _ rfl⟩
 have HR:=hide (hR w0 f0);have HB:Hid (∀W,Below w0.heap.size w0 W→rightK cc=true→Calls Tryz.prog 24 #[.agg #[.slice pa pn pc,.string ⟨cc.name.toArray⟩,.string ⟨cc.super.toArray⟩,.slice fa fn fc,.slice ma mn mcc]] W fun e w'=>∃v,e=.returned v∧w'.ownsRow w.heap.size 5 1 v (bytesK cc).length (bv (bytesK cc))∧Below w.heap.size w w'):=fun W f hok=>by
  have fb:=f0.trans (f.mono f0.size);refine (hB W fb hok).mono ?_;rintro e w' ⟨v,rfl,o,g⟩;exact ⟨v,rfl,own_base o fb.size,fb.trans (g.mono fb.size)⟩
 obtain ⟨q0,q1,q2,q3,q4⟩:=unhide KC w0 (Below.refl _ _);obtain ⟨EE,hEE⟩:∃EE,EE=errK cc:=⟨_,rfl⟩;obtain ⟨PP,hPP⟩:∃PP,PP=printK cc:=⟨_,rfl⟩;rw [←hEE,←hPP];have HE:=hide hEE;have HP:=hide hPP;have E0:=hide e0;have F0:=hide f0;obtain ⟨BK,hBK⟩:∃BK,BK=bytesK cc:=⟨_,rfl⟩;rw [←hBK] at HB;have HBK:=hide hBK;clear hC hT hR hB e0 f0 K0 hEE hPP hBK;cases hok:rightK cc
 · rw [hok] at HR
   obtain rfl:EE=80:=by rw [unhide HE];unfold errK;rw [if_pos hok]
   obtain rfl:PP=[]:=by rw [unhide HP];unfold printK;rw [if_neg (by rw [←unhide HE];decide)]
   generalize (⟨cc.name.toArray⟩:ByteArray)=s1 at *;generalize (⟨cc.super.toArray⟩:ByteArray)=s2 at *;clear hok HB HE HP HBK;have e0:=unhide E0;go_enter Tryz.func9,Tryz.ntmps9;go_wp2_with fail;refine (unhide HR).mono ?_;rintro e w1 ⟨rfl,f1⟩;have F1:=hide ((unhide F0).trans (f1.mono (unhide F0).size));clear f1 e0;go_wp2;go_ret2;exact ⟨⟨_,rfl,World.ownsRow_nil _ _ _ _⟩,unhide F1⟩
 · rw [hok] at HR
   have HB1:Hid (∀W,Below w0.heap.size w0 W→Calls Tryz.prog 24 #[.agg #[.slice pa pn pc,.string ⟨cc.name.toArray⟩,.string ⟨cc.super.toArray⟩,.slice fa fn fc,.slice ma mn mcc]] W fun e w'=>∃v,e=.returned v∧w'.ownsRow w.heap.size 5 1 v BK.length (bv BK)∧Below w.heap.size w w'):=fun W f=>unhide HB W f hok
   have HE2:Hid (EE=if 32768<BK.length then 3 else 0):=by
    show EE=_;rw [unhide HE,unhide HBK];unfold errK;rw [if_neg (by rw [hok];simp)]
   have HP2:Hid (PP=if 32768<BK.length then [] else BK):=by
    show PP=_;rw [unhide HP];unfold printK;rw [←unhide HE,unhide HE2,←unhide HBK]
    by_cases h:32768<BK.length
    · rw [if_pos h,if_pos h,if_neg (by decide)]
    · rw [if_neg h,if_neg h,if_pos rfl]
   generalize (⟨cc.name.toArray⟩:ByteArray)=s1 at *;generalize (⟨cc.super.toArray⟩:ByteArray)=s2 at *;clear hok HB HE HP HBK;have e0:=unhide E0;go_enter Tryz.func9,Tryz.ntmps9;go_wp2_with fail;refine (unhide HR).mono ?_;rintro e w1 ⟨rfl,f1⟩;obtain ⟨c0,c1,c2,c3,c4⟩:=unhide KC w1 f1;have HBc:=hide (unhide HB1 w1 f1);clear f1 e0 q0 q1 q2 q3 q4;go_wp2_with fail;refine (unhide HBc).mono ?_;rintro e w2 ⟨v,rfl,o2,f2⟩;obtain ⟨a2,d2,rfl,_⟩:=own_form o2;have O2:=hide o2;have F2:=hide f2;clear o2 f2 HBc c0 c1 c2 c3 c4
   by_cases hl:32768<BK.length
   · have hl1:(32768:Int)<(BK.length:Int):=by omega
     obtain rfl:EE=3:=by rw [unhide HE2,if_pos hl]
     obtain rfl:PP=[]:=by rw [unhide HP2,if_pos hl]
     go_wp2;go_ret2;exact ⟨⟨_,rfl,World.ownsRow_nil _ _ _ _⟩,unhide F2⟩
   · have hl1:¬(32768:Int)<(BK.length:Int):=by omega
     obtain rfl:EE=0:=by rw [unhide HE2,if_neg hl]
     obtain rfl:PP=BK:=by rw [unhide HP2,if_neg hl]
     clear HP2 HE2 HB1;go_wp2;go_ret2;exact ⟨⟨_,rfl,unhide O2⟩,unhide F2⟩
structure Gx (wc:World) (B:Nat) (p:Sl) (l:List Ent):Prop where
 ein:EIn wc p.a p.n p.c l
 hB:wc.heap.size≤B
 ck:checkP l=true
theorem Gx.es {wc W:World} {B:Nat} {p:Sl} {l:List Ent} (h:Gx wc B p l) (f:Below wc.heap.size wc W):Es W p.a p.n l:=h.ein.arg.es.below f
theorem Gx.few {wc:World} {B:Nat} {p:Sl} {l:List Ent} (h:Gx wc B p l):l.length≤1024∧l.length=p.n:=⟨((checkP_all l).1 h.ck).1.2,h.ein.arg.es.1⟩
theorem GF.came {wc w w':World} {X B:Nat} (f:Below wc.heap.size wc w) (g:GF X B w w') (hB:wc.heap.size≤B):Below wc.heap.size wc w':=f.trans (g.2.mono hB)
theorem put_one {b:List UInt8} {k n:Int} (h:fitsW k n false):putW b k false [n]=(b++bytesW k n,0):=by
 unfold putW;rw [if_pos ⟨h.1,fun m hm=>by simp at hm;subst hm;exact h⟩];simp
theorem utfN_lt {l:List Ent} {s:List UInt8} (h:l.length≤1024):utfN l s≤1024:=by
 by_cases h0:utfN l s=0
 · omega
 · have:=(utfN_some h0).2.1
   omega
theorem clsN_lt {l:List Ent} {s:List UInt8} (h:l.length≤1024):clsN l s≤1024:=by
 by_cases h0:clsN l s=0
 · omega
 · have:=(clsN_some h0).2.1
   omega
def w_post (X B:Nat) (p:Sl) (w:World) (b':List UInt8) (bad':Bool) (e:Ending) (w':World):Prop:=e=.returned (.tuple #[])∧Gw X B p b' bad' w'∧GF X B w w'
theorem gwutf_any (wc:World) (X B:Nat) (p:Sl) (l:List Ent) (G:Gx wc B p l) (b:List UInt8) (bad:Bool) (w:World) (hW:Below wc.heap.size wc w) (h:Gw X B p b bad w) (s:List UInt8) (hs:b.length≤100000000) :
 Calls Tryz.prog 30 #[.pointer (some ⟨X,0,none⟩),.string ⟨s.toArray⟩] w (w_post X B p w (b++bytesW 2 (utfN l s:Int)) (bad||decide (utfN l s=0))):=by
 have hfew:=G.few;have hn:=utfN_lt (s:=s) hfew.1;have HU:Hid (∀W,Below wc.heap.size wc W→Calls Tryz.prog 69 #[.slice p.a p.n p.c,.string ⟨s.toArray⟩] W fun e w'=>e=.returned (.int .i64 (utfN l s:Int))∧Below W.heap.size W w'):=hide fun W f=>gutf_any W p.a p.n p.c l (G.es f) s (by omega)
 generalize utfN l s=n at *
 rcases Nat.eq_zero_or_pos n with h0 | h0
 · subst h0
   obtain ⟨a,c,h1,h2⟩:=h.blk;have c0:w.cell? ⟨X,0,none⟩=some (.slice p.a p.n p.c):=bx_cell h1 0 _ rfl;have hB:=h.hB;have H:=hide (And.intro h (And.intro hW G));have HU1:=hide (unhide HU w hW);clear h hW h1 h2 G;go_enter Tryz.func30,Tryz.ntmps30;go_wp2_with fail;refine (unhide HU1).mono ?_;rintro e w1 ⟨rfl,f1⟩;clear HU1;obtain ⟨h,hW,G⟩:=unhide H;have h1:=h.below f1;have hW1:=hW.trans (f1.mono hW.size);have HM:=hide (gwmust_any X B p b bad w1 h1 false);have H1:=hide (And.intro h1 (And.intro hW1 f1));clear h hW G h1 hW1 f1 c0;go_wp2_with fail;refine (unhide HM).mono ?_;rintro e w2 ⟨rfl,e2⟩;obtain ⟨h,hW,G⟩:=unhide H;obtain ⟨h1,hW1,f1⟩:=unhide H1;have h2:=h1.mark (bad||!false);have g2:=GF.mark h1 2 (.bool (bad||!false));rw [←e2] at h2 g2;have hb:(bad||!false)=(bad||decide (0=0)):=by simp
   rw [hb] at h2;obtain ⟨bd,hbd⟩:∃bd,(bad||decide (0=0))=bd:=⟨_,rfl⟩;rw [hbd] at h2;have HBD:=hide hbd;clear hbd;have hW2:Below wc.heap.size wc w2:=hW1.trans (g2.2.mono G.hB);obtain ⟨a2,c2,q2,_⟩:=h2.blk;have d0:w2.cell? ⟨X,0,none⟩=some (.slice p.a p.n p.c):=bx_cell q2 0 _ rfl;have HU2:=hide (unhide HU w2 hW2);have H2:=hide (And.intro h2 (And.intro (GF.trans (GF.of_below (X:=X) f1 hB) g2) hW2));clear h hW G h1 hW1 f1 h2 g2 hW2 q2 hb e2 HM H1;go_wp2_with fail;refine (unhide HU2).mono ?_;rintro e w3 ⟨rfl,f3⟩;obtain ⟨h2,g2,hW2⟩:=unhide H2;have h3:=h2.below f3;have b4:Below w3.heap.size w3 (w3.alloc (.cells #[.int .i64 0] 3)):=(Below.refl _ _).alloc (Nat.le_refl _) _;have hN:Nums (w3.alloc (.cells #[.int .i64 0] 3)) (some ⟨w3.heap.size,0,none⟩) 1 [0]:=⟨rfl,.inr ⟨_,0,rfl,fun j z hz=>by rw [Nat.zero_add];exact ints_at w3 [0] _ rfl j z hz⟩⟩;have HP:=hide (gwu_any X B p b bd _ (h3.below b4) 2 (by omega) (some ⟨w3.heap.size,0,none⟩) 1 1 [0] hN (fun z hz=>by simp at hz;subst hz;omega) (by omega));rw [put_one ⟨by unfold wide;omega,by first | (simp;done) | (simp;omega)⟩] at HP;have g4:GF X B w (w3.alloc (.cells #[.int .i64 0] 3)):=(g2.trans (GF.of_below f3 h2.hB)).trans (GF.of_below b4 h3.hB);have HG4:=hide g4;clear h2 g2 hW2 h3 b4 hN g4 f3 d0 HU2 H2;go_wp2_with fail;refine (unhide HP).mono ?_;rintro e w5 ⟨rfl,h5,g5⟩;simp only [ne_eq,not_true_eq_false,decide_false,Bool.or_false] at h5;have HF:=hide (And.intro h5 (GF.trans (unhide HG4) g5));clear h5 g5;go_wp2;go_end0;refine ⟨rfl,?_,(unhide HF).2⟩;have e:=(unhide HF).1;rw [←unhide HBD] at e;exact e
 · have hpos:(0:Int)<(n:Int):=by omega
   have hpos':¬n=0:=by omega
   obtain ⟨a,c,h1,h2⟩:=h.blk;have c0:w.cell? ⟨X,0,none⟩=some (.slice p.a p.n p.c):=bx_cell h1 0 _ rfl;have hB:=h.hB;have H:=hide (And.intro h (And.intro hW G));have HU1:=hide (unhide HU w hW);clear h hW h1 h2 G;go_enter Tryz.func30,Tryz.ntmps30;go_wp2_with fail;refine (unhide HU1).mono ?_;rintro e w1 ⟨rfl,f1⟩;clear HU1;obtain ⟨h,hW,G⟩:=unhide H;have h1:=h.below f1;have hW1:=hW.trans (f1.mono hW.size);have HM:=hide (gwmust_any X B p b bad w1 h1 true);have H1:=hide (And.intro h1 (And.intro hW1 f1));clear h hW G h1 hW1 f1 c0;go_wp2_with fail;refine (unhide HM).mono ?_;rintro e w2 ⟨rfl,e2⟩;obtain ⟨h,hW,G⟩:=unhide H;obtain ⟨h1,hW1,f1⟩:=unhide H1;have h2:=h1.mark (bad||!true);have g2:=GF.mark h1 2 (.bool (bad||!true));rw [←e2] at h2 g2;have hb:(bad||!true)=(bad||decide (n=0)):=by simp;omega
   rw [hb] at h2;obtain ⟨bd,hbd⟩:∃bd,(bad||decide (n=0))=bd:=⟨_,rfl⟩;rw [hbd] at h2;have HBD:=hide hbd;clear hbd;have hW2:Below wc.heap.size wc w2:=hW1.trans (g2.2.mono G.hB);obtain ⟨a2,c2,q2,_⟩:=h2.blk;have d0:w2.cell? ⟨X,0,none⟩=some (.slice p.a p.n p.c):=bx_cell q2 0 _ rfl;have HU2:=hide (unhide HU w2 hW2);have H2:=hide (And.intro h2 (And.intro (GF.trans (GF.of_below (X:=X) f1 hB) g2) hW2));clear h hW G h1 hW1 f1 h2 g2 hW2 q2 hb e2 HM H1;go_wp2_with fail;refine (unhide HU2).mono ?_;rintro e w3 ⟨rfl,f3⟩;obtain ⟨h2,g2,hW2⟩:=unhide H2;have h3:=h2.below f3;have b4:Below w3.heap.size w3 (w3.alloc (.cells #[.int .i64 (n:Int)] 3)):=(Below.refl _ _).alloc (Nat.le_refl _) _;have hN:Nums (w3.alloc (.cells #[.int .i64 (n:Int)] 3)) (some ⟨w3.heap.size,0,none⟩) 1 [(n:Int)]:=⟨rfl,.inr ⟨_,0,rfl,fun j z hz=>by rw [Nat.zero_add];exact ints_at w3 [(n:Int)] _ rfl j z hz⟩⟩;have HP:=hide (gwu_any X B p b bd _ (h3.below b4) 2 (by omega) (some ⟨w3.heap.size,0,none⟩) 1 1 [(n:Int)] hN (fun z hz=>by simp at hz;subst hz;omega) (by omega));rw [put_one ⟨by unfold wide;omega,by first | (simp;done) | (simp;omega)⟩] at HP;have g4:GF X B w (w3.alloc (.cells #[.int .i64 (n:Int)] 3)):=(g2.trans (GF.of_below f3 h2.hB)).trans (GF.of_below b4 h3.hB);have HG4:=hide g4;clear h2 g2 hW2 h3 b4 hN g4 f3 d0 HU2 H2;go_wp2_with fail;refine (unhide HP).mono ?_;rintro e w5 ⟨rfl,h5,g5⟩;simp only [ne_eq,not_true_eq_false,decide_false,Bool.or_false] at h5;have HF:=hide (And.intro h5 (GF.trans (unhide HG4) g5));clear h5 g5;go_wp2;go_end0;refine ⟨rfl,?_,(unhide HF).2⟩;have e:=(unhide HF).1;rw [←unhide HBD] at e;exact e
theorem gwclass_any (wc:World) (X B:Nat) (p:Sl) (l:List Ent) (G:Gx wc B p l) (b:List UInt8) (bad:Bool) (w:World) (hW:Below wc.heap.size wc w) (h:Gw X B p b bad w) (s:List UInt8) (hs:b.length≤100000000) :
 Calls Tryz.prog 28 #[.pointer (some ⟨X,0,none⟩),.string ⟨s.toArray⟩] w (w_post X B p w (b++bytesW 2 (clsN l s:Int)) (bad||decide (clsN l s=0))):=by
 have hfew:=G.few;have hn:=clsN_lt (s:=s) hfew.1;have HU:Hid (∀W,Below wc.heap.size wc W→Calls Tryz.prog 68 #[.slice p.a p.n p.c,.string ⟨s.toArray⟩] W fun e w'=>e=.returned (.int .i64 (clsN l s:Int))∧Below W.heap.size W w'):=hide fun W f=>gclass_any W p.a p.n p.c l (G.es f) G.ck s (by omega)
 generalize clsN l s=n at *
 rcases Nat.eq_zero_or_pos n with h0 | h0
 · subst h0
   obtain ⟨a,c,h1,h2⟩:=h.blk;have c0:w.cell? ⟨X,0,none⟩=some (.slice p.a p.n p.c):=bx_cell h1 0 _ rfl;have hB:=h.hB;have H:=hide (And.intro h (And.intro hW G));have HU1:=hide (unhide HU w hW);clear h hW h1 h2 G;go_enter Tryz.func28,Tryz.ntmps28;go_wp2_with fail;refine (unhide HU1).mono ?_;rintro e w1 ⟨rfl,f1⟩;clear HU1;obtain ⟨h,hW,G⟩:=unhide H;have h1:=h.below f1;have hW1:=hW.trans (f1.mono hW.size);have HM:=hide (gwmust_any X B p b bad w1 h1 false);have H1:=hide (And.intro h1 (And.intro hW1 f1));clear h hW G h1 hW1 f1 c0;go_wp2_with fail;refine (unhide HM).mono ?_;rintro e w2 ⟨rfl,e2⟩;obtain ⟨h,hW,G⟩:=unhide H;obtain ⟨h1,hW1,f1⟩:=unhide H1;have h2:=h1.mark (bad||!false);have g2:=GF.mark h1 2 (.bool (bad||!false));rw [←e2] at h2 g2;have hb:(bad||!false)=(bad||decide (0=0)):=by simp
   rw [hb] at h2;obtain ⟨bd,hbd⟩:∃bd,(bad||decide (0=0))=bd:=⟨_,rfl⟩;rw [hbd] at h2;have HBD:=hide hbd;clear hbd;have hW2:Below wc.heap.size wc w2:=hW1.trans (g2.2.mono G.hB);obtain ⟨a2,c2,q2,_⟩:=h2.blk;have d0:w2.cell? ⟨X,0,none⟩=some (.slice p.a p.n p.c):=bx_cell q2 0 _ rfl;have HU2:=hide (unhide HU w2 hW2);have H2:=hide (And.intro h2 (And.intro (GF.trans (GF.of_below (X:=X) f1 hB) g2) hW2));clear h hW G h1 hW1 f1 h2 g2 hW2 q2 hb e2 HM H1;go_wp2_with fail;refine (unhide HU2).mono ?_;rintro e w3 ⟨rfl,f3⟩;obtain ⟨h2,g2,hW2⟩:=unhide H2;have h3:=h2.below f3;have b4:Below w3.heap.size w3 (w3.alloc (.cells #[.int .i64 0] 3)):=(Below.refl _ _).alloc (Nat.le_refl _) _;have hN:Nums (w3.alloc (.cells #[.int .i64 0] 3)) (some ⟨w3.heap.size,0,none⟩) 1 [0]:=⟨rfl,.inr ⟨_,0,rfl,fun j z hz=>by rw [Nat.zero_add];exact ints_at w3 [0] _ rfl j z hz⟩⟩;have HP:=hide (gwu_any X B p b bd _ (h3.below b4) 2 (by omega) (some ⟨w3.heap.size,0,none⟩) 1 1 [0] hN (fun z hz=>by simp at hz;subst hz;omega) (by omega));rw [put_one ⟨by unfold wide;omega,by first | (simp;done) | (simp;omega)⟩] at HP;have g4:GF X B w (w3.alloc (.cells #[.int .i64 0] 3)):=(g2.trans (GF.of_below f3 h2.hB)).trans (GF.of_below b4 h3.hB);have HG4:=hide g4;clear h2 g2 hW2 h3 b4 hN g4 f3 d0 HU2 H2;go_wp2_with fail;refine (unhide HP).mono ?_;rintro e w5 ⟨rfl,h5,g5⟩;simp only [ne_eq,not_true_eq_false,decide_false,Bool.or_false] at h5;have HF:=hide (And.intro h5 (GF.trans (unhide HG4) g5));clear h5 g5;go_wp2;go_end0;refine ⟨rfl,?_,(unhide HF).2⟩;have e:=(unhide HF).1;rw [←unhide HBD] at e;exact e
 · have hpos:(0:Int)<(n:Int):=by omega
   have hpos':¬n=0:=by omega
   obtain ⟨a,c,h1,h2⟩:=h.blk;have c0:w.cell? ⟨X,0,none⟩=some (.slice p.a p.n p.c):=bx_cell h1 0 _ rfl;have hB:=h.hB;have H:=hide (And.intro h (And.intro hW G));have HU1:=hide (unhide HU w hW);clear h hW h1 h2 G;go_enter Tryz.func28,Tryz.ntmps28;go_wp2_with fail;refine (unhide HU1).mono ?_;rintro e w1 ⟨rfl,f1⟩;clear HU1;obtain ⟨h,hW,G⟩:=unhide H;have h1:=h.below f1;have hW1:=hW.trans (f1.mono hW.size);have HM:=hide (gwmust_any X B p b bad w1 h1 true);have H1:=hide (And.intro h1 (And.intro hW1 f1));clear h hW G h1 hW1 f1 c0;go_wp2_with fail;refine (unhide HM).mono ?_;rintro e w2 ⟨rfl,e2⟩;obtain ⟨h,hW,G⟩:=unhide H;obtain ⟨h1,hW1,f1⟩:=unhide H1;have h2:=h1.mark (bad||!true);have g2:=GF.mark h1 2 (.bool (bad||!true));rw [←e2] at h2 g2;have hb:(bad||!true)=(bad||decide (n=0)):=by simp;omega
   rw [hb] at h2;obtain ⟨bd,hbd⟩:∃bd,(bad||decide (n=0))=bd:=⟨_,rfl⟩;rw [hbd] at h2;have HBD:=hide hbd;clear hbd;have hW2:Below wc.heap.size wc w2:=hW1.trans (g2.2.mono G.hB);obtain ⟨a2,c2,q2,_⟩:=h2.blk;have d0:w2.cell? ⟨X,0,none⟩=some (.slice p.a p.n p.c):=bx_cell q2 0 _ rfl;have HU2:=hide (unhide HU w2 hW2);have H2:=hide (And.intro h2 (And.intro (GF.trans (GF.of_below (X:=X) f1 hB) g2) hW2));clear h hW G h1 hW1 f1 h2 g2 hW2 q2 hb e2 HM H1;go_wp2_with fail;refine (unhide HU2).mono ?_;rintro e w3 ⟨rfl,f3⟩;obtain ⟨h2,g2,hW2⟩:=unhide H2;have h3:=h2.below f3;have b4:Below w3.heap.size w3 (w3.alloc (.cells #[.int .i64 (n:Int)] 3)):=(Below.refl _ _).alloc (Nat.le_refl _) _;have hN:Nums (w3.alloc (.cells #[.int .i64 (n:Int)] 3)) (some ⟨w3.heap.size,0,none⟩) 1 [(n:Int)]:=⟨rfl,.inr ⟨_,0,rfl,fun j z hz=>by rw [Nat.zero_add];exact ints_at w3 [(n:Int)] _ rfl j z hz⟩⟩;have HP:=hide (gwu_any X B p b bd _ (h3.below b4) 2 (by omega) (some ⟨w3.heap.size,0,none⟩) 1 1 [(n:Int)] hN (fun z hz=>by simp at hz;subst hz;omega) (by omega));rw [put_one ⟨by unfold wide;omega,by first | (simp;done) | (simp;omega)⟩] at HP;have g4:GF X B w (w3.alloc (.cells #[.int .i64 (n:Int)] 3)):=(g2.trans (GF.of_below f3 h2.hB)).trans (GF.of_below b4 h3.hB);have HG4:=hide g4;clear h2 g2 hW2 h3 b4 hN g4 f3 d0 HU2 H2;go_wp2_with fail;refine (unhide HP).mono ?_;rintro e w5 ⟨rfl,h5,g5⟩;simp only [ne_eq,not_true_eq_false,decide_false,Bool.or_false] at h5;have HF:=hide (And.intro h5 (GF.trans (unhide HG4) g5));clear h5 g5;go_wp2;go_end0;refine ⟨rfl,?_,(unhide HF).2⟩;have e:=(unhide HF).1;rw [←unhide HBD] at e;exact e
theorem rkB10:Rk byc 5 29 1 1 (.int .u8 0):=⟨fun _=>rfl,fun x u hu=>by simp [byc] at hu;subst hu;rfl,by decide,by kernel_rfl,rfl,Tryz.underlying29⟩
theorem stepB_append8 {w:World} {ops:Array Oper} {o:Oper} {a:Act} {K:Act→World→Prop} {Q:Exit→Act→World→Prop} {E:Prop} (hgd:o.guard=none) (s x:Operand) (ho:o.op=.call { callee:=.builtin .append,args:=#[s,x],argTypes:=#[29,29] })
 (base:Nat) (v:Value) (xs:List UInt8) (hs:a.eval s=v) (hown:Orw byc 5 1 w base v xs) (src:Option Addr) (m c:Nat) (ys:List UInt8) (hx:a.eval x=.slice src m c) (hb:Ls 1 byc w src m ys) (hnil:src=none→m=0∧c=0)
 (hsm:(xs.length+m)*1≤140737488355328) (hmx:xs.length+m≤140737488355328) (hbase:base≤w.heap.size) (h:∀v' w',Orw byc 5 1 w' base v' (xs++ys)→w.grownBy w' v.ownBlock→K (a.put o.dst v') w') :
 if Region.wanted o (yielded ops a.tmps)=true then Oper.wp Tryz.prog o a w K Q else E:=by
 rw [if_pos (by simp [Region.wanted,hgd])];exact wpR_append rkB10 s x ho base v xs hs hown src m c ys hx hb hnil hsm hmx hbase h
theorem gwmust_at (X:Nat) (u v:Value) (bad:Bool) (w:World) (h1:w.heap[X]?=some (.cells #[u,v,.bool bad] 65 (0,0))) (is_:Bool) :
 Calls Tryz.prog 29 #[.pointer (some ⟨X,0,none⟩),.bool is_] w fun e w'=>e=.returned (.tuple #[])∧w'=w.setCell ⟨X,2,none⟩ (.bool (bad||!is_)):=by
 have c2:w.cell? ⟨X,2,none⟩=some (.bool bad):=bx_cell h1 2 _ rfl;have z2:=bx_thaw h1 2;clear h1;cases bad with
 | true=>
  go_enter Tryz.func29,Tryz.ntmps29;go_wp2;go_end0;exact ⟨rfl,rfl⟩
 | false=>
  cases is_ with
  | true=>
   go_enter Tryz.func29,Tryz.ntmps29;go_wp2;go_end0;exact ⟨rfl,rfl⟩
  | false=>
   go_enter Tryz.func29,Tryz.ntmps29;go_wp2;go_end0;exact ⟨rfl,rfl⟩
structure TI (wc wi:World) (X B Y:Nat) (p:Sl) (a:Option Addr) (n c:Nat) (W:World) (ob:Bool) (ib:List UInt8) (ibad:Bool):Prop where
 hBX:B≤X
 hXY:X<Y
 hcB:wc.heap.size≤B
 ox:W.heap[X]?=some (.cells #[.slice p.a p.n p.c,.slice a n c,.bool ob] 65 (0,0))
 oth:∀k,k<Y→k≠X→W.heap[k]?=wi.heap[k]?
 inn:Gw Y Y p ib ibad W
 bel:Below B wi W
 came:Below wc.heap.size wc W
section
variable {wc wi:World} {X B Y:Nat} {p:Sl} {a:Option Addr} {n c:Nat} {W W':World} {ob:Bool} {ib:List UInt8} {ibad:Bool}
theorem TI.on (h:TI wc wi X B Y p a n c W ob ib ibad) (f:Below W.heap.size W W'):TI wc wi X B Y p a n c W' ob ib ibad:=by
 have h1:=h.inn.hB;have h2:=h.hBX;have h3:=h.hXY;exact ⟨h.hBX,h.hXY,h.hcB,(f.block _ (lt_of_heap h.ox)).trans h.ox,fun k hk hx=>(f.block k (Nat.lt_of_lt_of_le hk h.inn.hB)).trans (h.oth k hk hx),h.inn.below f,h.bel.trans (f.mono (by omega)),h.came.trans (f.mono h.came.size)⟩
theorem TI.must (h:TI wc wi X B Y p a n c W ob ib ibad) (v:Bool):TI wc wi X B Y p a n c (W.setCell ⟨X,2,none⟩ (.bool v)) v ib ibad:=by
 have h1:=h.hBX;have h2:=h.hcB;have h3:=h.hXY;have hs:∀k,k≠X→(W.setCell ⟨X,2,none⟩ (.bool v)).heap[k]?=W.heap[k]?:=fun k hk=>Below.heap_setCell _ _ _ _ hk
 exact ⟨h.hBX,h.hXY,h.hcB,heap_setCell_same W X 2 _ _ _ h.ox,fun k hk hx=>(hs k hx).trans (h.oth k hk hx),h.inn.keep fun k Z T hk _ _=>hs k (by omega),h.bel.setCell (p:=⟨X,2,none⟩) h.hBX _,h.came.setCell (p:=⟨X,2,none⟩) (Nat.le_trans h.hcB h.hBX) _⟩
theorem TI.inner (h:TI wc wi X B Y p a n c W ob ib ibad) {ib':List UInt8} {ibad':Bool} (g:Gw Y Y p ib' ibad' W') (f:GF Y Y W W'):TI wc wi X B Y p a n c W' ob ib' ibad':=by
 have h1:=h.hBX;have h2:=h.hcB;have h3:=h.hXY;exact ⟨h.hBX,h.hXY,h.hcB,(f.2.block _ h.hXY).trans h.ox,fun k hk hx=>(f.2.block k hk).trans (h.oth k hk hx),g,h.bel.trans (f.2.mono (by omega)),h.came.trans (f.2.mono (by omega))⟩
end
theorem goT_cons {l:List Ent} {loc:Bool} {t:Ty} {r:List Ty} (h:¬(loc=true∧t.kind=2)):goT l loc (t::r)=(okT l t&&goT l loc r)∧toldT loc (t::r)=t::toldT loc r:=by
 cases r with
 | nil=>
  unfold goT toldT;refine ⟨?_,rfl⟩;have:(!(loc&&decide (t.kind=2)))=true:=by
   cases loc with
   | false=>rfl
   | true=>
    have:¬t.kind=2:=fun e=>h ⟨rfl,e⟩
    simp [this]
  rw [this,Bool.and_true]
 | cons z r=>
  constructor
  · rw [goT,if_neg h]
  · rw [toldT,if_neg h]
def TV (l:List Ent) (loc:Bool) (ts:List Ty) (bad0:Bool) (k m:Nat) (ob:Bool) (ib:List UInt8) (ibad:Bool):Prop:=
 (bad0||!goT l loc ts)=(ob||ibad||!goT l loc (ts.drop k))∧(ob=false→ibad=false→ib++(toldT loc (ts.drop k)).flatMap (tyB l)=(toldT loc ts).flatMap (tyB l)∧m+(toldT loc (ts.drop k)).length=(toldT loc ts).length)∧ib.length≤3*k∧m≤k
theorem TV.start (l:List Ent) (loc:Bool) (ts:List Ty) (bad0:Bool):TV l loc ts bad0 0 0 bad0 [] false:=⟨by simp,fun _ _=>⟨rfl,by simp⟩,by simp,by omega⟩
theorem TV.one {l:List Ent} {loc:Bool} {ts:List Ty} {bad0:Bool} {k m:Nat} {ob:Bool} {ib:List UInt8} {ibad:Bool} {t:Ty} (h:TV l loc ts bad0 k m ob ib ibad) (ht:ts[k]?=some t) (hn:¬(loc=true∧t.kind=2)) {ob' ibad':Bool} {ib':List UInt8} (h1:(ob'||ibad')=(ob||ibad||!okT l t)) (h2:okT l t=true→ib'=ib++tyB l t) (h3:ib'.length≤ib.length+3):TV l loc ts bad0 (k+1) (m+1) ob' ib' ibad':=by
 have hd:ts.drop k=t::ts.drop (k+1):=by
  obtain ⟨hl,e⟩:=List.getElem?_eq_some_iff.1 ht;rw [List.drop_eq_getElem_cons hl,e]
 obtain ⟨e1,e2⟩:=goT_cons (l:=l) (r:=ts.drop (k+1)) hn;obtain ⟨a1,a2,a3,a4⟩:=h;rw [hd,e1] at a1;rw [hd,e2] at a2;refine ⟨?_,fun b1 b2=>?_,by omega,by omega⟩
 · rw [a1,h1]
   cases ob <;> cases ibad <;> cases okT l t <;> simp
 · rw [b1,b2] at h1
   have h4:ob=false∧ibad=false∧okT l t=true:=by
    revert h1
    cases ob <;> cases ibad <;> cases okT l t <;> simp
   obtain ⟨c1,c2⟩:=a2 h4.1 h4.2.1;rw [h2 h4.2.2];rw [List.flatMap_cons] at c1;refine ⟨by rw [List.append_assoc];exact c1,?_⟩;simp only [List.length_cons] at c2;omega
theorem TV.two {l:List Ent} {loc:Bool} {ts:List Ty} {bad0:Bool} {k m:Nat} {ob:Bool} {ib:List UInt8} {ibad:Bool} {t:Ty} (h:TV l loc ts bad0 k m ob ib ibad) (ht:ts[k]?=some t) (hn:loc=true∧t.kind=2) {ob' ibad':Bool} {ib':List UInt8} (h1:(ob'||ibad')=(ob||ibad||!okT l t||!decide (ts[k+1]?=some ⟨0,[]⟩))) (h2:okT l t=true→ib'=ib++tyB l t) (h3:ib'.length≤ib.length+3):TV l loc ts bad0 (k+2) (m+1) ob' ib' ibad':=by
 have hd:ts.drop k=t::ts.drop (k+1):=by
  obtain ⟨hl,e⟩:=List.getElem?_eq_some_iff.1 ht;rw [List.drop_eq_getElem_cons hl,e]
 obtain ⟨a1,a2,a3,a4⟩:=h;cases hz:ts[k+1]? with
 | none=>
  have he:ts.drop (k+1)=[]:=List.drop_eq_nil_of_le (by simpa using hz);have he2:ts.drop (k+2)=[]:=List.drop_eq_nil_of_le (by
   have:ts.length≤k+1:=by simpa using hz
   omega)
  have hg:goT l loc [t]=false:=by
   unfold goT;rw [hn.1,hn.2];simp
  rw [hz] at h1;refine ⟨?_,fun b1 b2=>?_,by omega,by omega⟩
  · rw [a1,hd,he,hg,h1,he2]
    cases ob <;> cases ibad <;> cases okT l t <;> simp
  · rw [b1,b2] at h1
    exfalso
    revert h1
    cases ob <;> cases ibad <;> cases okT l t <;> simp
 | some z=>
  have hd2:ts.drop (k+1)=z::ts.drop (k+2):=by
   obtain ⟨hl,e⟩:=List.getElem?_eq_some_iff.1 hz;rw [List.drop_eq_getElem_cons hl,e]
  have hg:goT l loc (t::z::ts.drop (k+2))=(okT l t&&(decide (z=⟨0,[]⟩)&&goT l loc (ts.drop (k+2)))):=by rw [goT,if_pos hn]
  have hg2:toldT loc (t::z::ts.drop (k+2))=t::toldT loc (ts.drop (k+2)):=by rw [toldT,if_pos hn]
  have hzz:decide (ts[k+1]?=some ⟨0,[]⟩)=decide (z=⟨0,[]⟩):=by rw [hz];simp
  rw [hzz] at h1;rw [hd,hd2,hg] at a1;rw [hd,hd2,hg2] at a2;refine ⟨?_,fun b1 b2=>?_,by omega,by omega⟩
  · rw [a1,h1]
    cases ob <;> cases ibad <;> cases okT l t <;> cases decide (z=⟨0,[]⟩) <;> simp
  · rw [b1,b2] at h1
    have h4:ob=false∧ibad=false∧okT l t=true:=by
     revert h1
     cases ob <;> cases ibad <;> cases okT l t <;> simp
    obtain ⟨c1,c2⟩:=a2 h4.1 h4.2.1;rw [h2 h4.2.2];rw [List.flatMap_cons] at c1;refine ⟨by rw [List.append_assoc];exact c1,?_⟩;simp only [List.length_cons] at c2;omega
end Go.Proofs.YtlabllgifkklhaaGreatDoor
