/- Joined: PlK ArA ArB PlAr ArC. -/
import Derived.Test.YtlabllgifkklhaaGreatDoorJP5
import Derived.Test.YtlabllgifkklhaaGreatDoorJP1
import Derived.Test.YtlabllgifkklhaaGreatDoorJP3
import Derived.ProofKit
import Derived.OpenShut
import Derived.SizedLaws
import Derived.Deep.Slices
set_option linter.unusedVariables false
set_option maxRecDepth 100000
namespace Go.Proofs.YtlabllgifkklhaaGreatDoor
open Go.RowKit
structure EIn (w:World) (a:Option Addr) (n c:Nat) (l:List Ent):Prop where
 arg:EArg w a n c l
 small:n*48≤140737488351232
 fit:EntsFit7 l
theorem EIn.below {w w':World} {a:Option Addr} {n c:Nat} {l:List Ent} (h:EIn w a n c l) (f:Below w.heap.size w w'):EIn w' a n c l:=⟨h.arg.below f,h.small,h.fit⟩
theorem EIn.own {w:World} {base n c:Nat} {a:Option Addr} {l:List Ent} (h:w.ownsRow base 55 5 (.slice a n c) n (ev l)) (hs:n*48≤140737488351232) (hf:EntsFit7 l):EIn w a n c l:=⟨earg_of_own h,hs,hf⟩
end Go.Proofs.YtlabllgifkklhaaGreatDoor
namespace Go.Proofs.YtlabllgifkklhaaGreatDoor
open Go.ChangeShapes Go.WideShapes Go.ChangeAt Go.RowKit
theorem ownKn:ownKnob Tryz.prog.godebug=none:=by kernel_rfl
theorem laidOut:laidOutB Tryz.prog=true:=by kernel_rfl
theorem spot_none {w:World} {a:Addr} {v:Value} (h:w.cell? a=some v):a=⟨a.block,a.off,none⟩:=by
 cases hs:a.spot with
 | none=>cases a;simp at hs;subst hs;rfl
 | some s=>
  unfold World.cell? at h;rw [hs] at h;split at h <;> simp at h
theorem weightsAll_mem {H:Type} {P:Program} {e:TypeId} {d:DataW H} {n:Nat} (hn:n∈d.weights P e):∀{l:List (DataW H)},d∈l→n∈DataW.weightsAll P e l
 | d0::r,hd=>by
  simp only [DataW.weightsAll,List.mem_append]
  rcases List.mem_cons.1 hd with h | h
  · subst h;exact .inl hn
  · exact .inr (weightsAll_mem hn h)
end Go.Proofs.YtlabllgifkklhaaGreatDoor
namespace Go.Proofs.YtlabllgifkklhaaGreatDoor
open Go.ChangeShapes Go.WideShapes Go.ChangeAt Go.RowKit
theorem open_list {α:Type} {H:Type} {enc:TypeId×Value→H} {w:World} {base:Nat} {T e:TypeId} {size:Nat} (hT:Tryz.prog.underlying T=some (.slice e)) (hsz:Tryz.prog.cellsOf e=size) (hpos:0<size) {ok:α→Prop} {val:α→List Value} (hval:∀y,(val y).length=size) (hone:∀y,∃v,(val y)[0]?=some v)
 (hop:∀(n:Nat) (cs:List Value) (x:DataW H×List MemPlace),DataW.trod enc Tryz.prog w base (fun _=>true) true n e cs=some x→(∀m∈x.1.weights Tryz.prog e,m≤reachBytes)→∃y,cs=val y∧ok y)
 {a:Option Addr} {len cap:Nat} {d:DataW H} {p:List MemPlace} (h:DataW.Trod enc Tryz.prog w base (fun _=>true) true T (.slice a len cap) d p) (hw:∀m∈d.weights Tryz.prog T,m≤reachBytes) :
 ∃l:List α,l.length=len∧len≤cap∧cap≤9223372036854775807∧len*Tryz.prog.bytesOf e≤reachBytes∧(a=none→len=0∧cap=0)∧(∀y∈l,ok y) ∧
  (len=0∨∃b o,a=some ⟨b,o,none⟩∧b<w.heap.size∧∀(j:Nat) (y:α),l[j]?=some y→∀(i:Nat) (v:Value),(val y)[i]?=some v→w.cell? ⟨b,o+j*size+i,none⟩=some v):=by
 obtain ⟨fuel,h⟩:=h
 rcases Go.Deep.open_slice hT (by simpa [Value.cells] using h) with ⟨hcs,_⟩ | ⟨ad,len',cap',m,n,D,Pl,hcs,_,hl,hm,hmm,hx,hel⟩
 · simp at hcs
   obtain ⟨rfl,rfl,rfl⟩:=hcs;exact ⟨[],rfl,by omega,by omega,by simp,fun _=>⟨rfl,rfl⟩,(fun y hy=>by cases hy),.inl rfl⟩
 · simp at hcs
   obtain ⟨rfl,rfl,rfl⟩:=hcs;unfold maxLen at hm;have hlm:len≤m:=by rw [hmm];split <;> omega
   injection hx with hx _
   have hby:len*Tryz.prog.bytesOf e≤reachBytes:=by
    have:=hw ((((List.range len).map D).length+((List.range (m-len)).map fun j=>D (len+j)).length)*Tryz.prog.bytesOf e) (by
     rw [hx];simp [DataW.weights,hT])
    simp only [List.length_map,List.length_range] at this;exact Nat.le_trans (Nat.mul_le_mul_right _ (by omega)) this
   by_cases h0:len=0
   · subst h0
     exact ⟨[],rfl,by omega,by omega,hby,(fun e=>by cases e),(fun y hy=>by cases hy),.inl rfl⟩
   have hwi:∀i,i<len→∀k∈(D i).weights Tryz.prog e,k≤reachBytes:=by
    intro i hi k hk;refine hw k ?_;rw [hx];simp only [DataW.weights,hT];refine List.mem_cons_of_mem _ (List.mem_append_left _ (weightsAll_mem hk ?_));exact List.mem_map.2 ⟨i,List.mem_range.2 hi,rfl⟩
   have hE:∀i,i<len→∃y:α,(∀(j:Nat) (v:Value),(val y)[j]?=some v→w.cell? ((ad.add (i*size)).add j)=some v)∧ok y:=by
    intro i hi;obtain ⟨cs',h1,h2⟩:=hel i (by omega);rw [hsz] at h1;obtain ⟨y,hcs,hfit⟩:=hop _ _ _ h2 (hwi i hi);have hc:=World.cells?_some h1;refine ⟨y,fun j v hv=>?_,hfit⟩;have hj:=(List.getElem?_eq_some_iff.1 hv).1;rw [hval] at hj;have g:=hc.2.2 j (by omega);rw [hcs,hv] at g;exact g
   have hsp:ad=⟨ad.block,ad.off,none⟩:=by
    obtain ⟨y,g,_⟩:=hE 0 (by omega);obtain ⟨v,hv⟩:=hone y;exact spot_none (w:=w) (a:=ad) (by simpa [Addr.add] using g 0 v hv)
   have hbl:ad.block<w.heap.size:=by
    obtain ⟨y,g,_⟩:=hE 0 (by omega);obtain ⟨v,hv⟩:=hone y;exact World.block_lt_of_cell? w ad (by simpa [Addr.add] using g 0 v hv)
   let F:∀i,i<len→α:=fun i hi=>Classical.choose (hE i hi)
   have hF:∀i (hi:i<len),(∀(j:Nat) (v:Value),(val (F i hi))[j]?=some v→w.cell? ((ad.add (i*size)).add j)=some v)∧ok (F i hi):=fun i hi=>Classical.choose_spec (hE i hi)
   have hget:∀(j:Nat) (z:α),(List.ofFn (fun i:Fin len=>F i.1 i.2))[j]?=some z→∃hj:j<len,z=F j hj:=by
    intro j z hz;have hj:j<len:=by have:=(List.getElem?_eq_some_iff.1 hz).1;simpa using this
    refine ⟨hj,?_⟩;obtain ⟨_,e⟩:=List.getElem?_eq_some_iff.1 hz;rw [←e];simp
   refine ⟨List.ofFn (fun i:Fin len=>F i.1 i.2),by simp,hl,by omega,hby,(fun e=>by cases e),?_,.inr ⟨ad.block,ad.off,by rw [←hsp],hbl,?_⟩⟩
   · intro z hz
     obtain ⟨j,hj,e⟩:=List.getElem_of_mem hz;obtain ⟨hj',rfl⟩:=hget j z (by rw [List.getElem?_eq_getElem hj,e]);exact (hF j hj').2
   · intro j z hz i v hv
     obtain ⟨hj,rfl⟩:=hget j z hz;have:=(hF j hj).1 i v hv;rw [hsp,Addr.add_mid,Addr.add_mid] at this;exact this
end Go.Proofs.YtlabllgifkklhaaGreatDoor
namespace Go.Proofs.YtlabllgifkklhaaGreatDoor
open Go.ChangeShapes Go.WideShapes Go.ChangeAt Go.RowKit
end Go.Proofs.YtlabllgifkklhaaGreatDoor
namespace Go.Proofs.YtlabllgifkklhaaGreatDoor
open Go.ChangeShapes Go.WideShapes Go.ChangeAt Go.RowKit
theorem cells1B:Tryz.prog.cellsOf 5=1:=by kernel_rfl
theorem bytes1B:Tryz.prog.bytesOf 5=1:=by kernel_rfl
theorem byte_cells {H:Type} {enc:TypeId×Value→H} {w:World} {base:Nat} (n:Nat) (cs:List Value) (x:DataW H×List MemPlace)
 (h:DataW.trod enc Tryz.prog w base (fun _=>true) true n 5 cs=some x) (hw:∀m∈x.1.weights Tryz.prog 5,m≤reachBytes):∃y:UInt8,cs=[.int .u8 (y.toNat:Int)]∧True:=by
 obtain ⟨z,e,_,hz⟩:=DataW.trod_int Tryz.underlying5 h;have b:=bounds_u8 hz;refine ⟨UInt8.ofNat z.toNat,?_,trivial⟩;have e2:((UInt8.ofNat z.toNat).toNat:Int)=z:=by simp;omega
 rw [e2];exact e
theorem arg6 {H:Type} {enc:TypeId×Value→H} {w:World} {base:Nat} {a:Option Addr} {len cap:Nat} {d:DataW H} {p:List MemPlace}
 (h:DataW.Trod enc Tryz.prog w base (fun _=>true) true 29 (.slice a len cap) d p) (hw:∀m∈d.weights Tryz.prog 29,m≤reachBytes) :
 ∃l:List UInt8,Arg w a len cap l∧len≤140737488351232:=by
 obtain ⟨l,h1,h2,h3,h4,h5,_,h6⟩:=open_list Tryz.underlying29 cells1B (by omega) (val:=fun (y:UInt8)=>[.int .u8 (y.toNat:Int)]) (ok:=fun _=>True) (fun _=>rfl) (fun y=>⟨_,rfl⟩) byte_cells h hw;rw [bytes1B] at h4;unfold reachBytes at h4;refine ⟨l,⟨⟨h1,h6.elim .inl fun ⟨b,o,e,_,hc⟩=>.inr ⟨b,o,e,(fun e=>by cases e),fun ad e2 j u hu=>?_⟩⟩,h2,h3,h5⟩,by omega⟩;injection e2 with e2
 subst e2;rw [Addr.add_mid];simp only [bv,List.getElem?_map] at hu;obtain ⟨y,hy,rfl⟩:=Option.map_eq_some_iff.1 hu;have:=hc j y hy 0 _ rfl;rw [Nat.mul_one,Nat.add_zero] at this;exact this
end Go.Proofs.YtlabllgifkklhaaGreatDoor
