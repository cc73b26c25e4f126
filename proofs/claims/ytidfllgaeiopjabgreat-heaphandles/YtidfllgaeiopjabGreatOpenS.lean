import Derived.Test.YtidfllgaeiopjabGreatLkF
import Derived.Test.YtidfllgaeiopjabGreatRows
import Derived.Lib.SmallJoins
import Derived.SizedLaws
namespace Go.Proofs.YtidfllgaeiopjabGreat
open Go.ChangeShapes Go.WideShapes Go.ChangeAt Go.RowKit Go.Joins Go.Deep
set_option linter.unusedVariables false
set_option maxRecDepth 100000
theorem own:ownKnob Tryz.prog.godebug=none:=by kernel_rfl
theorem laidOut:laidOutB Tryz.prog=true:=by kernel_rfl
theorem mapM_some {α β:Type} (f:α→Option β) (l:List α) (cs:List β) (h:l.mapM f=some cs):l.map f=cs.map some:=by
 induction l generalizing cs with
 | nil=>simp at h;subst h;rfl
 | cons x l ih=>
  rw[List.mapM_cons] at h
  cases hx:f x with
  | none=>rw[hx] at h;simp at h
  | some y=>
   rw[hx] at h
   cases hl:l.mapM f with
   | none=>rw[hl] at h;simp at h
   | some ys=>
    rw[hl] at h
    simp at h
    subst h
    simp [hx,ih ys hl]
theorem cells_each {W:World}{a:Addr}{n:Nat}{cs:List Value} (h:W.cells? 0 a n=some cs):cs.length=n∧∀ i,i<n→W.cell? (a.add i)=cs[i]?:=by
 unfold World.cells? at h
 rw[if_pos (Nat.zero_le _)] at h
 have hm:=mapM_some _ _ _ h
 have hlen:cs.length=n:=by have:=congrArg List.length hm;simpa using this.symm
 refine ⟨hlen,fun i hi=>?_⟩
 have:=congrArg (fun l=>l[i]?) hm
 simp only[List.getElem?_map,List.getElem?_range hi,Option.map_some] at this
 rw[List.getElem?_eq_getElem (by omega:i<cs.length)] at this ⊢
 simpa using this
theorem u8_wf {x:Int} (h:(Lit.int .u8 x).wf=true):0≤x∧x<256:=by
 have:=bounds_u8 h
 omega
theorem Tryz.bytes5:Tryz.prog.bytesOf 5=1:=by kernel_rfl
theorem weights_all {H:Type}{P:Program}{e:TypeId}{d:DataW H}{m:Nat}:∀ {l:List (DataW H)},d∈l→m∈DataW.weights P e d→m∈DataW.weightsAll P e l
 | x :: l,hd,hm=>by
  simp only[DataW.weightsAll,List.mem_append]
  rcases List.mem_cons.1 hd with rfl|h
  ·exact .inl hm
  ·exact .inr (weights_all h hm)
theorem open_bytes {H:Type}{enc:TypeId × Value→H}{W:World}{n:Nat}{v:Value}{y:DataW H × List MemPlace}
  (hf:DataW.trod enc Tryz.prog W 0 (fun _=>true) true n 42 [v]=some y) (hb:∀ m,m∈DataW.weights Tryz.prog 42 y.1→m≤140737488351232):
  ∃ a cap l,v=.slice a l.length cap∧Bytes W a l∧Small l∧l.length≤cap∧cap≤9223372036854775807∧l.length≤140737488351232∧(a=none→cap=0):=by
 rcases open_ints Tryz.underlying42 Tryz.underlying5 (by kernel_rfl) hf with ⟨hcs,_⟩|⟨x,len,cap,zs,hcs,_,hl,hm,hz,hy,hcell,hwz⟩
 ·cases hcs
  exact ⟨none,0,[],rfl,.inl rfl,(fun i hi=>by simp at hi),by simp,by decide,by simp,fun _=>rfl⟩
 ·cases hcs
  simp only[if_true] at hz
  have hlz:len≤zs.length:=by omega
  have hlen:((zs.take len).map Int.toNat).length=len:=by simp;omega
  have hget:∀ i,i<len→((((zs.take len).map Int.toNat).getD i 0:Nat):Int)=zs.getD i 0∧((zs.take len).map Int.toNat).getD i 0<256:=by
   intro i hi
   have hiz:i<zs.length:=by omega
   have hb:=u8_wf (hwz (zs[i]) (List.getElem_mem hiz))
   have e1:((zs.take len).map Int.toNat).getD i 0=(zs[i]).toNat:=by
    rw[List.getD_eq_getElem?_getD,List.getElem?_map,List.getElem?_take,if_pos hi,List.getElem?_eq_getElem hiz];rfl
   have e2:zs.getD i 0=zs[i]:=by rw[List.getD_eq_getElem?_getD,List.getElem?_eq_getElem hiz];rfl
   rw[e1,e2]
   omega
  refine ⟨some x,cap,(zs.take len).map Int.toNat,by rw[hlen],?_,?_,by omega,by unfold maxLen at hm;omega,?_,fun h=>by cases h⟩
  ·by_cases h0:len=0
   ·left;subst h0;simp
   ·right
    obtain ⟨b,off,spot⟩:=x
    have hc:=hcell 0 (by omega)
    have hspot:spot=none:=by simpa [Addr.add] using World.cell?_spot hc
    subst hspot
    refine ⟨b,off,rfl,?_,?_⟩
    ·have:=block_lt_of_cell hc
     simpa [add_plain] using this
    ·intro i hi
     rw[hlen] at hi
     have:=hcell i (by omega)
     rw[add_plain] at this
     rw[this,(hget i hi).1]
  ·intro i hi
   rw[hlen] at hi
   exact (hget i hi).2
  ·have h1:=hb (((lits .u8 (zs.take len):List (DataW H)).length+(lits .u8 (zs.drop len):List (DataW H)).length)*Tryz.prog.bytesOf 5) (by rw[hy];simp [DataW.weights,Tryz.underlying42])
   rw[Tryz.bytes5] at h1
   have h2:(lits .u8 (zs.take len):List (DataW H)).length=len:=by simp [lits];omega
   omega
theorem held_sized {H:Type}{P:Program}{t:TypeId}{ts:List TypeId}{d:DataW H}{ds:List (DataW H)}{m:Nat} (hsz:(DataW.weightsEach P (t :: ts) (d :: ds)).all (·≤reachBytes)=true) (hm:m∈DataW.weights P t d):m≤140737488351232:=by
 have h:=List.all_eq_true.1 hsz _ (DataW.weights_mem_each (j:=0) (t:=t) (d:=d) rfl rfl _ hm)
 exact of_decide_eq_true h
end Go.Proofs.YtidfllgaeiopjabGreat
