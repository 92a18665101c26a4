/- Joined: PlY GtJ ClT C8Parses. -/
import Derived.Test.YtlabllgifkklhaaGreatDoorJPlR
import Derived.Test.YtlabllgifkklhaaGreatDoorJPlQ
import Derived.Test.YtlabllgifkklhaaGreatDoorJP5
import Derived.Test.YtlabllgifkklhaaGreatDoorJGtH
import Derived.Test.YtlabllgifkklhaaGreatDoorJP29
import Derived.Test.YtlabllgifkklhaaGreatDoorJGrL
import Derived.Test.YtlabllgifkklhaaGreatDoorJP18
import Derived.Test.YtlabllgifkklhaaGreatDoorJP7
import Derived.Test.YtlabllgifkklhaaGreatDoorJP6
import Derived.Laws.ResultCell
import Derived.Test.YtlabllgifkklhaaGreatDoorRows
import Derived.ProofKit
import Derived.OpenShut
import Derived.LaidMore
import Derived.Stop.Joined
import Derived.Test.YtlabllgifkklhaaGreatDoorCards
import Derived.Test.YtlabllgifkklhaaGreatDoorTie
set_option linter.unusedVariables false
set_option maxRecDepth 100000
set_option maxHeartbeats 3200000
namespace Go.Proofs.YtlabllgifkklhaaGreatDoor
open Go.RowKit
theorem cst_results {fn:Func} {p u:Tmp} (h:fn.results=#[.cell p 133,.tmp u]) (W:World) (r:Nat) (cs:Array Value) (hs:cs.size=5) (hb:W.heap[r]?=some (.cells cs 133 (0,0))) (tmps:Array Value) (hp:tmps.getD p undef=.pointer (some ⟨r,0,none⟩)) :
 (results fn tmps).run Tryz.prog W=.ok (.tuple #[.agg cs,tmps.getD u undef]) W:=by
 rw [results_cell_tmp h,hp];simp [asAddr,run_loadVar_row W r 133 133 _ (0,0) _ hb Tryz.underlying133 rfl (by rw [hs];exact sizeCst)]
theorem jConst_any (w:World) (a:Option Addr) (n c:Nat) (l:List Ent) (h:Es w a n l) (i:Int) (hi:-9223372036854775808≤i∧i≤9223372036854775807) (hn:n≤140737488351232) (hT:∀x∈l,x.text.length≤140737488355328) (hF:∀x∈l,EntFit x) :
 Calls Tryz.prog 76 #[.slice a n c,.int .i64 i] w fun e w'=>e=.returned (.tuple #[cstV (constP l i).1,.int .i64 (constP l i).2])∧Below w.heap.size w w':=by
 have b0:Below w.heap.size w (w.alloc (.cells #[.int .i64 0,.int .i64 0,.string ⟨#[]⟩,.string ⟨#[]⟩,.string ⟨#[]⟩] 133)):=(Below.refl _ _).alloc (Nat.le_refl _) _;have HC:=hide (jCheck_any _ a n c l (h.below b0) hn hT hF);have hl0:=heap_alloc_last w (.cells #[.int .i64 0,.int .i64 0,.string ⟨#[]⟩,.string ⟨#[]⟩,.string ⟨#[]⟩] 133)
 by_cases hc:checkP l=true
 case neg=>
  have e1:constP l i=(cst0,70):=if_pos (by simpa using hc);rw [if_neg hc] at HC;rw [e1];have B0:=hide b0;have HL0:=hide hl0;clear h e1 hc b0 hl0;go_enter Tryz.func76,Tryz.ntmps76;go_wp2_with fail;generalize w.alloc (.cells #[.int .i64 0,.int .i64 0,.string ⟨#[]⟩,.string ⟨#[]⟩,.string ⟨#[]⟩] 133)=w0 at *;refine (unhide HC).mono ?_;rintro e w1 ⟨rfl,f1⟩;have hr1:w1.heap[w.heap.size]?=_:=(f1.block _ (lt_of_heap (unhide HL0))).trans (unhide HL0);obtain ⟨q0,q1,q2,q3,q4⟩:=cstC (x:=cst0) hr1;have fz:∀j,w1.frozen? ⟨w.heap.size,j,none⟩=false:=fun j=>frozen_of_row _ _ _ _ _ hr1
  have HR:=hide hr1;have F1:=hide ((unhide B0).trans (f1.mono (unhide B0).size));clear f1 HC HL0 B0 hr1;go_wp2;refine bodyPost_ret (cst_results Tryz.results76 _ w.heap.size _ rfl (by exact five_set _ _ _ _ _ (unhide HR)) _ rfl) rfl ⟨rfl,five_bel _ _ _ _ _ (unhide F1) (Nat.le_refl _)⟩
 rw [if_pos hc] at HC;have hrt:=(checkP_right.1 hc).2;have HM:Hid (∀W,Below w.heap.size w W→Calls Tryz.prog 105 #[.slice a n c,.int .i64 i] W fun e w'=>e=.returned (cstV (meanP l i))∧Below W.heap.size W w'):=fun W f=>jmean_any W a n c l (h.below f) hrt i hi hn
 have e1:constP l i=if (meanP l i).tag=0 then (cst0,2) else (meanP l i,0):=if_neg (by rw [hc];simp)
 rw [e1];generalize meanP l i=m at *;obtain ⟨tag,nn,cls,name,type⟩:=m;unfold cstV at *;simp only at HM ⊢;have B0:=hide b0;have HL0:=hide hl0;clear h e1 hc b0 hl0 hrt
 by_cases h0:tag=0
 case pos=>
  subst h0;rw [if_pos rfl];show Calls _ _ _ _ fun e w'=>e=.returned (.tuple #[.agg #[.int .i64 0,.int .i64 0,.string ⟨#[]⟩,.string ⟨#[]⟩,.string ⟨#[]⟩],.int .i64 2])∧Below w.heap.size w w'
  generalize (⟨cls.toArray⟩:ByteArray)=s1 at *;generalize (⟨name.toArray⟩:ByteArray)=s2 at *;generalize (⟨type.toArray⟩:ByteArray)=s3 at *;go_enter Tryz.func76,Tryz.ntmps76;go_wp2_with fail;generalize w.alloc (.cells #[.int .i64 0,.int .i64 0,.string ⟨#[]⟩,.string ⟨#[]⟩,.string ⟨#[]⟩] 133)=w0 at *;refine (unhide HC).mono ?_;rintro e w1 ⟨rfl,f1⟩;have hr1:w1.heap[w.heap.size]?=_:=(f1.block _ (lt_of_heap (unhide HL0))).trans (unhide HL0);have f1':=(unhide B0).trans (f1.mono (unhide B0).size);have HM1:=hide (unhide HM w1 f1');have HR:=hide hr1;have F1:=hide f1';clear f1 f1' HC HL0 B0 hr1 HM;go_wp2_with fail;refine (unhide HM1).mono ?_;rintro e w2 ⟨rfl,f2⟩;have b3:Below w2.heap.size w2 (w2.alloc (.cells #[.int .i64 0,.int .i64 nn,.string s1,.string s2,.string s3] 133)):=(Below.refl _ _).alloc (Nat.le_refl _) _;have hr2:(w2.alloc (.cells #[.int .i64 0,.int .i64 nn,.string s1,.string s2,.string s3] 133)).heap[w.heap.size]?=_:=(b3.block _ (by have:=lt_of_heap (unhide HR);have:=f2.size;omega)).trans ((f2.block _ (lt_of_heap (unhide HR))).trans (unhide HR));have f2':=(unhide F1).trans (f2.mono (unhide F1).size);have f3':=f2'.trans (b3.mono f2'.size);obtain ⟨q0,q1,q2,q3,q4⟩:=cstC (x:=cst0) hr2;have fz:∀j,(w2.alloc (.cells #[.int .i64 0,.int .i64 nn,.string s1,.string s2,.string s3] 133)).frozen? ⟨w.heap.size,j,none⟩=false:=fun j=>frozen_of_row _ _ _ _ _ hr2
  have HR2:=hide hr2;have F3:=hide f3';clear hr2 f2 f2' f3' b3 HM1 HR F1;go_wp2;refine bodyPost_ret (cst_results Tryz.results76 _ w.heap.size _ rfl (by exact five_set _ _ _ _ _ (unhide HR2)) _ rfl) rfl ⟨rfl,five_bel _ _ _ _ _ (unhide F3) (Nat.le_refl _)⟩
 rw [if_neg h0];have h0':(tag==0)=false:=by simpa using h0
 show Calls _ _ _ _ fun e w'=>e=.returned (.tuple #[.agg #[.int .i64 tag,.int .i64 nn,.string ⟨cls.toArray⟩,.string ⟨name.toArray⟩,.string ⟨type.toArray⟩],.int .i64 0])∧Below w.heap.size w w'
 clear h0;generalize (⟨cls.toArray⟩:ByteArray)=s1 at *;generalize (⟨name.toArray⟩:ByteArray)=s2 at *;generalize (⟨type.toArray⟩:ByteArray)=s3 at *;go_enter Tryz.func76,Tryz.ntmps76;go_wp2_with fail;generalize w.alloc (.cells #[.int .i64 0,.int .i64 0,.string ⟨#[]⟩,.string ⟨#[]⟩,.string ⟨#[]⟩] 133)=w0 at *;refine (unhide HC).mono ?_;rintro e w1 ⟨rfl,f1⟩;have hr1:w1.heap[w.heap.size]?=_:=(f1.block _ (lt_of_heap (unhide HL0))).trans (unhide HL0);have f1':=(unhide B0).trans (f1.mono (unhide B0).size);have HM1:=hide (unhide HM w1 f1');have HR:=hide hr1;have F1:=hide f1';clear f1 f1' HC HL0 B0 hr1 HM;go_wp2_with fail;refine (unhide HM1).mono ?_;rintro e w2 ⟨rfl,f2⟩;have b3:Below w2.heap.size w2 (w2.alloc (.cells #[.int .i64 tag,.int .i64 nn,.string s1,.string s2,.string s3] 133)):=(Below.refl _ _).alloc (Nat.le_refl _) _;have hr2:(w2.alloc (.cells #[.int .i64 tag,.int .i64 nn,.string s1,.string s2,.string s3] 133)).heap[w.heap.size]?=_:=(b3.block _ (by have:=lt_of_heap (unhide HR);have:=f2.size;omega)).trans ((f2.block _ (lt_of_heap (unhide HR))).trans (unhide HR));have f2':=(unhide F1).trans (f2.mono (unhide F1).size);have f3':=f2'.trans (b3.mono f2'.size);obtain ⟨q0,q1,q2,q3,q4⟩:=cstC (x:=cst0) hr2;have fz:∀j,(w2.alloc (.cells #[.int .i64 tag,.int .i64 nn,.string s1,.string s2,.string s3] 133)).frozen? ⟨w.heap.size,j,none⟩=false:=fun j=>frozen_of_row _ _ _ _ _ hr2
 have HR2:=hide hr2;have F3:=hide f3';clear hr2 f2 f2' f3' b3 HM1 HR F1;go_wp2;refine bodyPost_ret (cst_results Tryz.results76 _ w.heap.size _ rfl (by exact five_set _ _ _ _ _ (unhide HR2)) _ rfl) rfl ⟨rfl,five_bel _ _ _ _ _ (unhide F3) (Nat.le_refl _)⟩
end Go.Proofs.YtlabllgifkklhaaGreatDoor
namespace Go.Proofs.YtlabllgifkklhaaGreatDoor
open Go.RowKit
theorem jConstOk:JConstOk:=fun w a n c l h i hi hn hT hF=>jConst_any w a n c l h i hi hn hT hF
theorem gParseOk:GParseOk:=fun w a n c bs h hn hnn=>gParse_any jConstOk gPrintOk w a n c bs h hn hnn
end Go.Proofs.YtlabllgifkklhaaGreatDoor
namespace Go.Proofs.YtlabllgifkklhaaGreatDoor
open Go.ChangeShapes Go.WideShapes Go.ChangeAt Go.RowKit
theorem gTab8:Tryz.prog.globalNamed "larch/class.kindBytes" = some 0:=by kernel_rfl
theorem tTab8:(Tryz.prog.globals[0]?).map (·.type)=some 197:=by kernel_rfl
theorem cells8I:Tryz.prog.cellsOf 3=1:=by kernel_rfl
theorem tab8_said:(Rows.laid_larch_class_kindBytes:DataW Unit)=.agg ((List.range 5).map fun (n:Nat)=>.lit (.int .i64 (kindB n))):=rfl
abbrev laid8:List (String×DataW Unit):=[("larch/class.kindBytes",Rows.laid_larch_class_kindBytes)]
theorem tab8_of_laid {W:World} (h:laidMetH Tryz.prog laid8 W):Tab8 W:=by
 have h':laidMet Tryz.prog laid8 W:=h;obtain ⟨ps,⟨g,t,cs,fuel,p,q,hg,ht,hvar,hd,_,_⟩,_⟩:=h';obtain rfl:=Option.some.inj (gTab8.symm.trans hg);obtain rfl:=Option.some.inj (tTab8.symm.trans ht);rw [tab8_said] at hd;obtain ⟨xs,m,_,hx,_,hl,hel⟩:=DataW.trod_array Tryz.underlying197 hd;injection hx with hx _
 injection hx with hx
 intro i hi;have hi2:=hel i hi;rw [cells8I,Nat.mul_one,List.getElem?_eq_getElem (by omega)] at hi2;obtain ⟨n,e,hd2,_⟩:=DataW.trod_int Tryz.underlying3 hi2;have hn:n=kindB i:=by
  have h1:(xs.map (·.1))[i]?=some (.lit (.int .i64 n)):=by
   rw [List.getElem?_map,List.getElem?_eq_getElem (by omega),hd2];rfl
  rw [←hx] at h1;simp [hi] at h1;exact h1.symm
 have hc:cs[i]?=some (.int .i64 n):=by
  have:((cs.toList.drop i).take 1)[0]?=some (.int .i64 n):=by rw [e];rfl
  simpa [List.getElem?_take] using this
 have:=World.var?_cell gTab8 hvar i;rw [this,hc,hn]
theorem door_met8 (os:Os) (args:Array Value):laidMetH Tryz.prog laid8 ((World.doorLaid Tryz.prog 600 os).forCall (fun _ _=>0) ⟨#[],args,[]⟩).memory:=
 laidMetH_of_parts3 (fuel:=8) (laidMet_of_run' 8 (by kernel_rfl) (by kernel_rfl)) (by kernel_rfl) (by kernel_rfl)
end Go.Proofs.YtlabllgifkklhaaGreatDoor
namespace Go.Proofs.YtlabllgifkklhaaGreatDoor
open Go.ChangeShapes Go.WideShapes Go.ChangeAt Go.RowKit
theorem classParses_lifted (os:Os) (started:os.Started) (H:Type) (enc:TypeId×Value→H) :
 ReturnsInHanded {} Tryz.checked os 4 .any (fun w args=>(Rows.classParsesSpec.pre enc Tryz.prog Tryz.f4 [] false w args∧laidMetH Tryz.prog laid8 w)∧sizedMet enc Tryz.prog Tryz.f4 (OpenSpec.ofChange Rows.classParsesSpec) false w args)
  (Rows.classParsesSpec.post enc Tryz.prog Tryz.f4 false true false false):=by
 refine returnsInHanded_of_change_and (C:=Tryz.checked) (X:=fun w _=>laidMetH Tryz.prog laid8 w) (fun _ _ _ hh h=>h.of_heap hh) ownKn started (by kernel_rfl) Tryz.func4
  (ChangeSpec.witness_shaped (enc:=enc) (C:=Tryz.checked) (os:=os) (X:=fun w _=>laidMetH Tryz.prog laid8 w) false (World.doorLaid Tryz.prog 600 os) #[.slice none 0 0] 8 rfl (World.shaped_of_RefB (by kernel_rfl) (by kernel_rfl)) (by kernel_rfl) (by kernel_rfl) (by kernel_rfl) (door_met8 os _)) ?_
 intro W base args ds gs before hval0 hW _ hsz0 hL _;have hval:∀(j:Nat) t v,Tryz.f4.params[j]?=some t→args[j]?=some v→Value.okWide Tryz.prog W .any base t v:=hval0;have hsz:(DataW.weightsEach Tryz.prog (Tryz.f4.params.toList++Rows.classParsesSpec.plain.varTypes Tryz.prog) (ds++gs)).all (·≤reachBytes)=true:=hsz0;have hW':=hW;obtain ⟨p,q,hA0,hV,rfl,hfz,hnd⟩:=hW;have hA:DataW.TrodAll enc Tryz.prog W 0 (fun _=>true) true Tryz.f4.params.toList args.toList ds p:=hA0;rw [Tryz.params4] at hA hval hsz;obtain ⟨v0,vs0,d0,ds0,p0,q0,hargs,rfl,rfl,h0,r0⟩:=trodAll_cons hA;obtain ⟨rfl,rfl,rfl⟩:=trodAll_nil r0;obtain rfl:args=#[v0]:=by cases args;simp_all
 obtain ⟨rfl,rfl⟩:=trodVars_none hV;have w0:∀m∈d0.weights Tryz.prog 29,m≤reachBytes:=fun m hm=>by simpa using List.all_eq_true.1 hsz _ (DataW.weights_mem_each (j:=0) (t:=29) rfl rfl m hm)
 have lt0:∀x∈p0,x.block<W.heap.size:=by obtain ⟨m,hm⟩:=h0;exact DataW.trod_lt m _ _ _ hm
 obtain ⟨a0,len0,cap0,rfl⟩:=okWide_slice Tryz.underlying29 (hval 0 29 v0 rfl rfl);obtain ⟨l0,x0,y0⟩:=arg6 h0 w0;have hT:=tab8_of_laid hL;clear hA0 hval0;refine (parses_tab gParseOk W hT a0 len0 cap0 l0 x0 y0).mono fun e W' ⟨he,bel⟩=>?_
 subst he;exact ⟨_,rfl,_,_,_,[],_,[],hW',trodAll_mk1 (shut_bool Tryz.underlying4 _),(trodAll_cons_mk (Below.trod laidOut (by kernel_rfl) (of_decide_eq_true (by kernel_rfl)) h0 bel lt0) trodAll_mk0),rfl,bel.frame _,fun h=>by cases h⟩
theorem classParses_row:Rows.ClassParsesSaid:=
 OpenClaim.holds_of_wide 4 Tryz.f4 rfl rfl rfl rfl rfl rfl rfl ⟨rfl,rfl,rfl,rfl,rfl⟩ rfl rfl rfl rfl rfl (by kernel_rfl) Tryz.func4 (by kernel_rfl)
  (of_decide_eq_true (by kernel_rfl)) (by unfold Func.isWrapper;first | (rw [if_pos (by decide +kernel)];kernel_rfl) | (rw [if_neg (by decide +kernel)];exact ⟨rfl,rfl⟩))
  (fun os started H enc _=>classParses_lifted os started H enc)
theorem classParses_holds:Rows.ClassParsesCardSaid:=
 Claim7.holds_tied_plain_at .later [] [.data] true _ false
  classParses_row (fun _ h=>by cases h) (by kernel_rfl) (fun _ h=>by cases h) classParses_row_tie rfl ⟨rfl,rfl⟩ (by kernel_rfl) rfl
  (fun f fn hf hfn=>by
   obtain rfl:f=4:=Option.some.inj ((show Tryz.prog.funcNamed "larch/larchlaw08.ClassParses" = some 4 by kernel_rfl).symm.trans hf) |>.symm;obtain rfl:fn=Tryz.f4:=(Option.some.inj (Tryz.func4.symm.trans hfn)).symm
   exact ⟨by kernel_rfl,fun j t ht=>by
    rw [Tryz.params4] at ht;have hm:t∈[29]:=by simpa using Array.mem_of_getElem? ht
    have hall:([29].all fun u=>!Tryz.prog.wantsStandIn u)=true:=by kernel_rfl
    exact (show Tryz.prog.wantsStandIn t=false by simpa using List.all_eq_true.1 hall t hm)⟩)
  (by kernel_rfl)
end Go.Proofs.YtlabllgifkklhaaGreatDoor
