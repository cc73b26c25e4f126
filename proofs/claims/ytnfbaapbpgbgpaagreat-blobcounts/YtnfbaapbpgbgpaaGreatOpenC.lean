import Derived.Test.YtnfbaapbpgbgpaaGreatBlO
import Derived.Test.YtnfbaapbpgbgpaaGreatRows
import Derived.Lib.SmallJoins
import Derived.SizedLaws
import Derived.Deep.Fields
namespace Go.Proofs.YtnfbaapbpgbgpaaGreat
open Go.ChangeShapes Go.WideShapes Go.ChangeAt Go.RowKit Go.Joins Go.Deep
set_option linter.unusedVariables false
set_option maxRecDepth 100000
theorem own:ownKnob Tryz.prog.godebug=none:=by kernel_rfl
theorem laidOut:laidOutB Tryz.prog=true:=by kernel_rfl
theorem u8_wf {x:Int} (h:(Lit.int .u8 x).wf=true):0≤x∧x<256:=by
 have:=bounds_u8 h
 omega
theorem Tryz.bytes5:Tryz.prog.bytesOf 5=1:=by kernel_rfl
theorem open_bytes {H:Type}{enc:TypeId × Value→H}{W:World}{n:Nat}{v:Value}{y:DataW H × List MemPlace}
  (hf:DataW.trod enc Tryz.prog W 0 (fun _=>true) true n 22 [v]=some y) (hb:∀ m,m∈DataW.weights Tryz.prog 22 y.1→m≤140737488351232):
  ∃ a cap l,v=.slice a l.length cap∧Bytes W a l∧Small l∧l.length≤cap∧cap≤9223372036854775807∧l.length≤140737488351232∧(a=none→cap=0):=by
 rcases open_ints Tryz.underlying22 Tryz.underlying5 (by kernel_rfl) hf with ⟨hcs,_⟩|⟨x,len,cap,zs,hcs,_,hl,hm,hz,hy,hcell,hwz⟩
 ·cases hcs
  exact ⟨none,0,[],rfl,.inl rfl,(fun i hi=>by simp at hi),by simp,by decide,by simp,fun _=>rfl⟩
 ·cases hcs
  simp only[if_true] at hz
  have hlz:len≤zs.length:=by omega
  have hlen:((zs.take len).map Int.toNat).length=len:=by simp;omega
  have hget:∀ i,i<len→((((zs.take len).map Int.toNat).getD i 0:Nat):Int)=zs.getD i 0∧((zs.take len).map Int.toNat).getD i 0<256:=by
   intro i hi
   have hiz:i<zs.length:=by omega
   have hb:=u8_wf (hwz (zs[i]) (List.getElem_mem hiz))
   have e1:((zs.take len).map Int.toNat).getD i 0=(zs[i]).toNat:=by
    rw[List.getD_eq_getElem?_getD,List.getElem?_map,List.getElem?_take,if_pos hi,List.getElem?_eq_getElem hiz];rfl
   have e2:zs.getD i 0=zs[i]:=by rw[List.getD_eq_getElem?_getD,List.getElem?_eq_getElem hiz];rfl
   rw[e1,e2]
   omega
  refine ⟨some x,cap,(zs.take len).map Int.toNat,by rw[hlen],?_,?_,by omega,by unfold maxLen at hm;omega,?_,fun h=>by cases h⟩
  ·by_cases h0:len=0
   ·left;subst h0;simp
   ·right
    obtain ⟨b,off,spot⟩:=x
    have hc:=hcell 0 (by omega)
    have hspot:spot=none:=by simpa [Addr.add] using World.cell?_spot hc
    subst hspot
    refine ⟨b,off,rfl,?_,?_⟩
    ·have:=block_lt_of_cell hc
     simpa [add_plain] using this
    ·intro i hi
     rw[hlen] at hi
     have:=hcell i (by omega)
     rw[add_plain] at this
     rw[this,(hget i hi).1]
  ·intro i hi
   rw[hlen] at hi
   exact (hget i hi).2
  ·have h1:=hb (((lits .u8 (zs.take len):List (DataW H)).length+(lits .u8 (zs.drop len):List (DataW H)).length)*Tryz.prog.bytesOf 5) (by rw[hy];simp [DataW.weights,Tryz.underlying22])
   rw[Tryz.bytes5] at h1
   have h2:(lits .u8 (zs.take len):List (DataW H)).length=len:=by simp [lits];omega
   omega
theorem open_waste {H:Type}{enc:TypeId × Value→H}{W:World}{n:Nat}{v:Value}{y:DataW H × List MemPlace}
  (hf:DataW.trod enc Tryz.prog W 0 (fun _=>true) true n 23 [v]=some y):
  ∃ a k cap,v=.slice a k cap∧IntsB W a k∧k≤9223372036854775807:=by
 rcases open_ints Tryz.underlying23 Tryz.underlying3 (by kernel_rfl) hf with ⟨hcs,_⟩|⟨x,len,cap,zs,hcs,_,hl,hm,hz,hy,hcell,hwz⟩
 ·cases hcs
  exact ⟨none,0,0,rfl,.inl rfl,by decide⟩
 ·cases hcs
  simp only[if_true] at hz
  refine ⟨some x,len,cap,rfl,?_,by unfold maxLen at hm;omega⟩
  by_cases h0:len=0
  ·exact .inl h0
  ·right
   obtain ⟨b,off,spot⟩:=x
   have hc:=hcell 0 (by omega)
   have hspot:spot=none:=by simpa [Addr.add] using World.cell?_spot hc
   subst hspot
   refine ⟨b,off,rfl,?_,fun i hi=>?_⟩
   ·have:=block_lt_of_cell hc
    simpa [add_plain] using this
   ·have hiz:i<zs.length:=by omega
    have:=hcell i (by omega)
    rw[add_plain] at this
    have e2:zs.getD i 0=zs[i]:=by rw[List.getD_eq_getElem?_getD,List.getElem?_eq_getElem hiz];rfl
    have hb:=bounds_i64 (hwz (zs[i]) (List.getElem_mem hiz))
    exact ⟨zs[i],by rw[this,e2],hb.1,hb.2⟩
theorem held_sized {H:Type}{P:Program}{t:TypeId}{ts:List TypeId}{d:DataW H}{ds:List (DataW H)}{m:Nat} (hsz:(DataW.weightsEach P (t :: ts) (d :: ds)).all (·≤reachBytes)=true) (hm:m∈DataW.weights P t d):m≤140737488351232:=by
 have h:=List.all_eq_true.1 hsz _ (DataW.weights_mem_each (j:=0) (t:=t) (d:=d) rfl rfl _ hm)
 exact of_decide_eq_true h
theorem array_5 {α:Type}{cs:Array α} (h:cs.size=5):∃ c0 c1 c2 c3 c4,cs=#[c0,c1,c2,c3,c4]:=by
 obtain ⟨l⟩:=cs
 match l,h with
 | [c0,c1,c2,c3,c4],_=>exact ⟨c0,c1,c2,c3,c4,rfl⟩
theorem open_list5 {H:Type}{enc:TypeId × Value→H}{P:Program}{w:World}{base:Nat}{spare:Nat→Bool}{held:Bool}{fuel:Nat}{t:TypeId}{f0 f1 f2 f3 f4:Go.Field}{c0 c1 c2 c3 c4:Value}{y:DataW H × List MemPlace} (hs:P.underlying t=some (.struct #[f0,f1,f2,f3,f4])) (hone:oneCellFields P #[f0,f1,f2,f3,f4]=true)
  (h:DataW.trod enc P w base spare held fuel t [c0,c1,c2,c3,c4]=some y):
  ∃ (y0 y1 y2 y3 y4:DataW H × List MemPlace) (q:Nat),y.1=.agg [y0.1,y1.1,y2.1,y3.1,y4.1]∧DataW.trod enc P w base spare held q f0.type [c0]=some y0∧DataW.trod enc P w base spare held q f1.type [c1]=some y1∧DataW.trod enc P w base spare held q f2.type [c2]=some y2∧DataW.trod enc P w base spare held q f3.type [c3]=some y3∧DataW.trod enc P w base spare held q f4.type [c4]=some y4:=by
 obtain ⟨xs,q,_,hx,_,hlen,hf⟩:=DataW.trod_struct hs h
 obtain ⟨o0,k0⟩:=hone_of hone 0 f0 rfl
 obtain ⟨o1,k1⟩:=hone_of hone 1 f1 rfl
 obtain ⟨o2,k2⟩:=hone_of hone 2 f2 rfl
 obtain ⟨o3,k3⟩:=hone_of hone 3 f3 rfl
 obtain ⟨o4,k4⟩:=hone_of hone 4 f4 rfl
 match xs,hlen with
 | [y0,y1,y2,y3,y4],_=>exact ⟨y0,y1,y2,y3,y4,q,by rw[hx];rfl,by simpa [o0,k0] using hf 0 f0 rfl,by simpa [o1,k1] using hf 1 f1 rfl,by simpa [o2,k2] using hf 2 f2 rfl,by simpa [o3,k3] using hf 3 f3 rfl,by simpa [o4,k4] using hf 4 f4 rfl⟩
theorem open_pair2 {H:Type}{enc:TypeId × Value→H}{W:World}{r:Reach}{b0:Nat}{v:Value}{d:DataW H}{p:List MemPlace} (hv:Value.okWide Tryz.prog W r b0 25 v) (h:DataW.Trod enc Tryz.prog W 0 (fun _=>true) true 25 v d p) (hb:∀ m,m∈DataW.weights Tryz.prog 25 d→m≤140737488351232):
  ∃ a1 c1 A a2 c2 B at' N a3 n3 c3,v=.agg #[.slice a1 A.length c1,.slice a2 B.length c2,.int .i64 at',.int .i64 N,.slice a3 n3 c3]∧Bytes W a1 A∧Small A∧(A.length≤c1∧c1≤9223372036854775807∧(a1=none→c1=0))∧Bytes W a2 B∧Small B∧(-9223372036854775808≤at'∧at'≤9223372036854775807)∧IntsB W a3 n3:=by
 obtain ⟨cs,rfl,hsz⟩:=okWide_struct Tryz.underlying25 hv
 obtain ⟨x0,x1,x2,x3,x4,rfl⟩:=array_5 (hsz.trans (by kernel_rfl))
 obtain ⟨fuel,hf⟩:=h
 obtain ⟨y0,y1,y2,y3,y4,q,hy,h0,h1,h2,h3,h4⟩:=open_list5 Tryz.underlying25 (by kernel_rfl) hf
 dsimp only at hy
 subst hy
 have hup:∀ (j:Nat) (t:TypeId) (z:DataW H),([22,22,3,3,23]:List TypeId)[j]?=some t→([y0.1,y1.1,y2.1,y3.1,y4.1]:List (DataW H))[j]?=some z→∀ m,m∈DataW.weights Tryz.prog t z→m≤140737488351232:=fun j t z e1 e2 m hm=>hb m (by
  simp only[DataW.weights,Tryz.underlying25]
  exact DataW.weights_mem_each (j:=j) (t:=t) (d:=z) e1 e2 _ hm)
 obtain ⟨a1,c1,A,rfl,bA,sA,u1,u2,_,u3⟩:=open_bytes h0 (hup 0 22 y0.1 rfl rfl)
 obtain ⟨a2,c2,B,rfl,bB,sB,_,_,_,_⟩:=open_bytes h1 (hup 1 22 y1.1 rfl rfl)
 obtain ⟨at',e2,_,w2⟩:=DataW.trod_int Tryz.underlying3 h2
 cases e2
 obtain ⟨N,e3,_,w3⟩:=DataW.trod_int Tryz.underlying3 h3
 cases e3
 obtain ⟨a3,n3,c3,rfl,hI,hn⟩:=open_waste h4
 exact ⟨a1,c1,A,a2,c2,B,at',N,a3,n3,c3,rfl,bA,sA,⟨u1,u2,u3⟩,bB,sB,bounds_i64 w2,hI⟩
end Go.Proofs.YtnfbaapbpgbgpaaGreat
