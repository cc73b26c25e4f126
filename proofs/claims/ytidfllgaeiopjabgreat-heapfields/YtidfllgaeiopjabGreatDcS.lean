import Derived.Test.YtidfllgaeiopjabGreatDcO
import Derived.Test.YtidfllgaeiopjabGreatLkF
import Derived.Deep.RegionHeld3
namespace Go.Proofs.YtidfllgaeiopjabGreat
open Go.ChangeShapes Go.WideShapes Go.ChangeAt Go.RowKit
set_option linter.unusedVariables false
set_option linter.unusedSimpArgs false
set_option maxRecDepth 100000
set_option maxHeartbeats 1000000
def nums1 (M:Hp) (sn u:Nat) (j:Nat):Nat:=if j=2 then u else numM M sn j
def nums3 (M:Hp) (sn u l:Nat) (j:Nat):Nat:=if j=3 then l else nums1 M sn u j
def WxAt (w0:World) (M:Hp) (k:Wk) (x:CX) (W:World):Prop:=∃ vL,WkAt W w0.heap.size x.pw M.objs.length k ⟨.slice x.aD M.objs.length x.cD,.slice x.aC k.cop.length x.cC,vL⟩
theorem WxAt.same {w0:World}{M:Hp}{k:Wk}{x:CX}{W W':World} (h:WxAt w0 M k x W) (hb:∀ q,w0.heap.size≤q→W'.heap[q]?=W.heap[q]?):WxAt w0 M k x W':=by
 obtain ⟨vL,h⟩:=h
 exact ⟨vL,h.same hb⟩
theorem WxAt.set {w0:World}{M:Hp}{k:Wk}{x:CX}{W:World} (h:WxAt w0 M k x W) {g:Nat} (hg:g<w0.heap.size) (o:Nat) (v:Value):WxAt w0 M k x (W.setCell ⟨g,o,none⟩ v):=h.same fun q hq=>setCell_else _ _ _ _ _ (by omega)
theorem WxAt.still {w0:World}{M:Hp}{k:Wk}{x:CX}{W W':World} (h:WxAt w0 M k x W) (s:Still W W'):WxAt w0 M k x W':=h.same fun q _=>by rw[s.heap]
def DmAt (w0:World) (pd:Nat) (dt dt':Nat→Nat) (M:Hp) (k:Wk) (C:DC) (N:Nat→Nat) (ol:List Ob) (sm sl:List Nat) (x:CX) (W:World):Prop:=∃ C',DRaw W pd dt' N ol sm sl M.roots C'∧C'.vO=C.vO∧C'.vL=C.vL∧WxAt w0 M k x W∧Fr dt dt' w0 W
theorem DmAt.still {w0:World}{pd:Nat}{dt dt':Nat→Nat}{M:Hp}{k:Wk}{C:DC}{N:Nat→Nat}{ol:List Ob}{sm sl:List Nat}{x:CX}{W W':World} (h:DmAt w0 pd dt dt' M k C N ol sm sl x W) (s:Still W W'):DmAt w0 pd dt dt' M k C N ol sm sl x W':=by
 obtain ⟨C',h1,h2,h3,h4,h5⟩:=h
 exact ⟨C',h1.still s.below,h2,h3,h4.still s,h5.trans (Fr.still s)⟩
theorem DmAt.setN {w0:World}{pd:Nat}{dt dt':Nat→Nat}{M:Hp}{k:Wk}{C:DC}{N N':Nat→Nat}{ol:List Ob}{sm sl:List Nat}{x:CX}{W:World} (h:DmAt w0 pd dt dt' M k C N ol sm sl x W) (hp:pd<w0.heap.size) {i:Nat} (hi:i<6∨(10≤i∧i<13)) (u:Nat) (hN:∀ j,j<6∨(10≤j∧j<13)→(if j=i then u else N j)=N' j):DmAt w0 pd dt dt' M k C N' ol sm sl x (W.setCell ⟨pd,i,none⟩ (.int .i64 (u:Nat))):=by
 obtain ⟨C',h1,h2,h3,h4,h5⟩:=h
 exact ⟨C',(h1.setN hi u).congr hN,h2,h3,h4.set hp _ _,h5.trans (Fr.set (by rw[h1.t1];decide) _ _)⟩
theorem place_le_used {M:Hp}{k:Wk} (wf:HpWf M) (f:Fin' M k) {i:Nat} (hi:i≤k.cop.length):place (shapes M k.cop) i≤10000000:=by
 have h1:=place_le (shapes M k.cop) hi
 have h2:=place_sub M k.cop M.small f.nd.1 f.cs
 have h3:=wf.ok.us;have h4:=wf.ok.u2;have h5:=wf.ok.h2
 omega
theorem dcoll_any {w0:World}{pd sn:Nat}{dt:Nat→Nat}{M:Hp}{C:DC} (h:DAt w0 pd dt M sn C) (wf:HpWf M) (hz:ob M 0=ob0) (hn:M.objs.length≤1000000) (h1:1≤M.objs.length) (hrl:M.roots.length≤1000000) (hcl:M.coll≤100000000000):
  Calls Tryz.prog 99 #[.pointer (some ⟨pd,0,none⟩)] w0 fun e w'=>e=.returned (.tuple #[])∧∃ M1,IsColl M M1∧∃ dt' C',DAt w' pd dt' M1 0 C'∧Fr dt dt' w0 w':=by
 have ok:=wf.ok
 obtain ⟨t,a1,a2,f,_⟩:=walk_done ok M.roots.length (fun x hx=>by rw[List.getD_eq_getElem?_getD,List.getElem?_eq_none hx];rfl)
 obtain ⟨k,ka,kb⟩:=t
 dsimp only at f
 have hsml:=small_len wf
 have hsl:=ok.sl
 have hlens:=f.pu.lens
 have hpd:=h.lt
 obtain ⟨gO,cO,evO,hoO,_⟩:=h.ob.at (by omega)
 have hgO:gO<w0.heap.size:=h.ob.lt gO hoO
 obtain ⟨aL,cL,eL,hL⟩:=line_list h.sl
 have hcl':∀ i,i<k.cop.length→k.cop.getD i 0<M.objs.length∧Is M (k.cop.getD i 0):=fun i hi=>by
  have:=f.is (.inl (getD_mem0 hi))
  exact ⟨wf.ln _ this,this⟩
 have hdis:∀ i,i∈k.lin→i ∉ k.cop:=fun i hi hc=>small_not_slot ok (f.cs i hc) (f.ls i hi).2
 have h0n:¬ (0∈k.cop∨0∈k.lin):=fun z=>z.elim (fun q=>(ok.s1 0 (f.cs 0 q)).1 rfl) (fun q=>(f.ls 0 q).1 rfl)
 have hslC:∀ i,(slC M k).getD i 0=if M.slots.getD i 0∈k.lin then M.slots.getD i 0 else 0:=fun i=>slC_at M k i
 have hbig:∀ i,M.slots.getD i 0≠0→Is M (M.slots.getD i 0):=fun i hi=>.inr ⟨hi,(slot_mem hi).2⟩
 have hlgle:∀ i,i≤M.slots.length→lgOf M ((slC M k).take i)≤10000000:=fun i hi=>by
  have h2:lgOf M ((slC M k).take i)≤lgOf M (slC M k):=by
   unfold lgOf
   conv=>rhs;rw[← List.take_append_drop i (slC M k)]
   rw[List.map_append,List.sum_append]
   omega
  have h3:=lgOf_le M k M.slots
  have h4:=wf.lg
  have h5:=wf.lm;have h6:=wf.l2
  unfold slC at h2
  unfold slC
  omega
 have hszle:∀ i,Is M i→osz (ob M i)≤10000000:=fun i hi=>by
  rcases hi with z|⟨z0,z⟩
  ·have:=wf.ss i z;omega
  ·have:=sum_sub (fun i=>if i=0 then 0 else 1+osz (ob M i)) [i] M.slots (by simp) (fun x hx=>by rw[List.mem_singleton.1 hx];exact z)
   have hg:=wf.lg
   have h1:=wf.lm
   have h2:=wf.l2
   unfold lgOf at hg
   simp [z0] at this
   omega
 have hmid:∀ (dt':Nat→Nat) (N:Nat→Nat) (ol:List Ob) (sm sl:List Nat) (x:CX) (W:World) j,ol.length=M.objs.length→Is M j→osz (ol.getD j ob0)=osz (ob M j)→DmAt w0 pd dt dt' M k C N ol sm sl x W→∀ W',Still W W'→Calls Tryz.prog 156 #[.pointer (some ⟨pd,0,none⟩),.int .i64 (j:Nat)] W' fun e w'=>e=.returned (.int .i64 (osz (ob M j):Nat))∧Still W' w':=fun dt' N ol sm sl x W j hol hj e hc W' s=>by
  obtain ⟨C',c1,_⟩:=hc.still s
  have hs:=hszle j hj
  rw[← e] at hs
  have:=dsize_any c1 (by omega) (i:=j) (by rw[hol];exact wf.ln j hj) (by unfold osz at hs;omega) (by unfold osz at hs;omega)
  rw[e] at this
  exact this
 have hobj:∀ (dt':Nat→Nat) (N:Nat→Nat) (ol:List Ob) (sm sl:List Nat) (x:CX) (W:World),ol.length=M.objs.length→DmAt w0 pd dt dt' M k C N ol sm sl x W→W.cell? ⟨pd,6,none⟩=some (.slice (some ⟨gO,0,none⟩) M.objs.length cO)∧∀ j c,j<M.objs.length→c<6→(∃ y,W.cell? ⟨gO,j*6+c,none⟩=some y)∧W.frozen? ⟨gO,j*6+c,none⟩=false:=fun dt' N ol sm sl x W hol hc=>by
  obtain ⟨C',c1,c2,_⟩:=hc
  obtain ⟨g',cap',ev,_,hcc⟩:=c1.ob.at (by omega)
  rw[c2,evO] at ev
  rw[hol] at ev hcc
  cases ev
  refine ⟨by rw[c1.c6,c2,evO],fun j c hj h6=>?_⟩
  have:=hcc (j*6+c) (by omega)
  exact ⟨⟨_,this.1⟩,this.2⟩
 have hwx:∀ x W,WxAt w0 M k x W→W.cell? ⟨x.pw,0,none⟩=some (.slice x.aD M.objs.length x.cD)∧W.cell? ⟨x.pw,1,none⟩=some (.slice x.aC k.cop.length x.cC)∧(∀ j,j<k.cop.length→∃ g,x.aC=some ⟨g,0,none⟩∧W.cell? ⟨g,j,none⟩=some (.int .i64 (k.cop.getD j 0:Nat)))∧(∀ j,j<M.objs.length→∃ g,x.aD=some ⟨g,0,none⟩∧W.cell? ⟨g,j,none⟩=some (.bool (decide (j∈k.cop∨j∈k.lin))))∧∀ g,(Value.slice x.aC k.cop.length x.cC).ownBlock=some g→w0.heap.size≤g:=fun x W hx=>by
  obtain ⟨vL,hk⟩:=hx
  obtain ⟨a,cap,e,hc⟩:=line_list hk.c
  obtain ⟨a',cap',e',hd⟩:=line_list hk.d
  cases e
  cases e'
  refine ⟨hk.c0,hk.c1,fun j hj=>?_,fun j hj=>?_,fun g e=>(hk.lo.2 g (.inr (.inl e))).1⟩
  ·obtain ⟨g,z1,z2,_⟩:=hc j hj
   exact ⟨g,z1,z2⟩
  ·obtain ⟨g,z1,z2,_⟩:=hd j hj
   exact ⟨g,z1,z2⟩
 have hnum:∀ (dt':Nat→Nat) (N:Nat→Nat) (ol:List Ob) (sm sl:List Nat) (x:CX) (W:World),DmAt w0 pd dt dt' M k C N ol sm sl x W→(∀ j,j<6∨(10≤j∧j<13)→W.cell? ⟨pd,j,none⟩=some (.int .i64 (N j:Nat)))∧∀ j,j<13→W.frozen? ⟨pd,j,none⟩=false:=fun dt' N ol sm sl x W hc=>by
  obtain ⟨C',c1,_⟩:=hc
  exact ⟨c1.num,c1.fz⟩
 have key:CollP pd gO M.objs.length cO k.cop.length M.slots.length cL (lgOf M (slC M k)) M.coll (place (shapes M k.cop) k.cop.length) aL (fun i=>k.cop.getD i 0) (fun i=>place (shapes M k.cop) i) (fun i=>osz (ob M (k.cop.getD i 0))) (fun j=>osz (ob M j)) (fun i=>M.slots.getD i 0) (fun i=>lgOf M ((slC M k).take i)) (fun j=>decide (j∈k.cop∨j∈k.lin))
   (fun x i W=>i≤k.cop.length∧DmAt w0 pd dt dt M k C (nums1 M sn (place (shapes M k.cop) i)) (atOl M k.cop i) M.small M.slots x W)
   (fun x i W=>i<k.cop.length∧DmAt w0 pd dt dt M k C (nums1 M sn (place (shapes M k.cop) i)) (atOl M k.cop (i+1)) M.small M.slots x W)
   (fun x i W=>i≤M.slots.length∧DmAt w0 pd dt (tagAt dt (.slice x.aC k.cop.length x.cC) 3) M k C (nums3 M sn (place (shapes M k.cop) k.cop.length) (lgOf M ((slC M k).take i))) (atOl M k.cop k.cop.length) k.cop (slE M k i) x W)
   (fun x q W=>1≤q∧q≤M.objs.length∧DmAt w0 pd dt (tagAt dt (.slice x.aC k.cop.length x.cC) 3) M k C (nums3 M sn (place (shapes M k.cop) k.cop.length) (lgOf M (slC M k))) (clOl M k q) k.cop (slC M k) x W)
   (fun W=>∃ dt' C',DAt W pd dt' (collM M k) 0 C'∧Fr dt dt' w0 W):=by
  refine { a1:=?_,f1:=?_,s1:=?_,f2:=?_,b2:=?_,f3:=?_,a3:=?_,f4:=?_,f5:=?_,a4:=?_,f6:=?_,f7:=?_ }
  ·rintro x i W ⟨_,C',_,_,_,hx,_⟩
   exact (hwx x W hx).2.1
  ·rintro x i W ⟨_,hc⟩ hi
   obtain ⟨o1,o2⟩:=hobj _ _ _ _ _ _ _ (atOl_len _ _ _) hc
   obtain ⟨n1,n2⟩:=hnum _ _ _ _ _ _ _ hc
   obtain ⟨C',c1,c2,c3,hx,c5⟩:=hc
   obtain ⟨_,x2,x3,_,_⟩:=hwx x W hx
   obtain ⟨hlt,hI⟩:=hcl' i hi
   refine ⟨⟨o1,x3 i hi,n1 2 (by omega),(o2 _ 5 hlt (by decide)).1,(o2 _ 5 hlt (by decide)).2⟩,fun W' s=>⟨hi,?_⟩⟩
   obtain ⟨C2,d1,d2,d3⟩:=c1.setAt (g:=gO) (by rw[c2];exact hoO) (i:=k.cop.getD i 0) (by rw[atOl_len];exact hlt) (place (shapes M k.cop) i)
   rw[atOl_step f.nd.1 hi hlt] at d1
   have:DmAt w0 pd dt dt M k C (nums1 M sn (place (shapes M k.cop) i)) (atOl M k.cop (i+1)) M.small M.slots x (W.setCell ⟨gO,k.cop.getD i 0*6+5,none⟩ (.int .i64 (place (shapes M k.cop) i:Nat))):=⟨C2,d1,d2.trans c2,d3.trans c3,hx.set hgO _ _,c5.trans (Fr.set (by rw[h.t2 gO hoO];decide) _ _)⟩
   exact this.still s
  ·rintro x i W W' ⟨hi,hc⟩ s
   exact ⟨hi,hc.still s⟩
  ·rintro x i W ⟨_,hc⟩ hi
   obtain ⟨n1,n2⟩:=hnum _ _ _ _ _ _ _ hc
   obtain ⟨hlt,hI⟩:=hcl' i hi
   have hcall:=hmid _ _ _ _ _ _ _ _ (atOl_len _ _ _) hI (atOl_osz M k.cop (i+1) hlt) hc
   have hx:WxAt w0 M k x W:=by obtain ⟨_,_,_,_,hx,_⟩:=hc;exact hx
   obtain ⟨_,x2,x3,_,_⟩:=hwx x W hx
   refine ⟨⟨x2,x3 i hi,n1 2 (by omega),n2 2 (by decide)⟩,hcall,fun W' s=>⟨hi,?_⟩⟩
   exact (hc.setN (N':=nums1 M sn (place (shapes M k.cop) (i+1))) hpd (i:=2) (by omega) _ (fun j hj=>by unfold nums1;by_cases e:j=2 <;> simp [e])).still s
  ·intro i hi
   obtain ⟨hlt,hI⟩:=hcl' i hi
   refine ⟨hlt,?_,place_le_used wf f (Nat.le_of_lt hi),hszle _ hI⟩
   show place (shapes M k.cop) (i+1)=_
   rw[place,shapes_at M k.cop i hi]
   rfl
  ·rintro x W ⟨_,hc⟩
   obtain ⟨n1,n2⟩:=hnum _ _ _ _ _ _ _ hc
   have hc':=hc
   obtain ⟨C',c1,c2,c3,hx,c5⟩:=hc'
   refine ⟨⟨_,c1.c7⟩,n2 7 (by decide),⟨_,n1 3 (by omega)⟩,n2 3 (by decide),fun W' s=>⟨Nat.zero_le _,?_⟩⟩
   obtain ⟨x1,x2,x3,x4,x5⟩:=hwx x W hx
   obtain ⟨vL,hk⟩:=hx
   have hb:∀ q,q≠pd→(W.setCell ⟨pd,7,none⟩ (.slice x.aC k.cop.length x.cC)).heap[q]?=W.heap[q]?:=fun q hq=>setCell_else _ _ _ _ _ hq
   have hnb:∀ g,(Value.slice x.aC k.cop.length x.cC).ownBlock=some g→dt g=0:=fun g e=>by
    by_cases q:dt g=0
    ·exact q
    ·have:=h.un g q;have:=x5 g e;omega
   have hot:∀ g,dt g≠0→tagAt dt (.slice x.aC k.cop.length x.cC) 3 g=dt g:=fun g q=>by
    unfold tagAt
    rw[if_neg (fun e=>q (hnb g e))]
   have d1:DRaw (W.setCell ⟨pd,7,none⟩ (.slice x.aC k.cop.length x.cC)) pd (tagAt dt (.slice x.aC k.cop.length x.cC) 3) (nums1 M sn (place (shapes M k.cop) k.cop.length)) (atOl M k.cop k.cop.length) k.cop M.slots M.roots { C' with vS:=.slice x.aC k.cop.length x.cC,vL:=C'.vL,vR:=C'.vR }:=by
    have hpt:=c1.t1
    have ho:∀ j,j≠7→(W.setCell ⟨pd,7,none⟩ (.slice x.aC k.cop.length x.cC)).cell? ⟨pd,j,none⟩=W.cell? ⟨pd,j,none⟩:=fun j hj=>World.cell?_setCell_other _ _ _ _ (by simp)
    refine c1.lists (by rw[World.size_setCell];exact Nat.le_refl _) (fun g _ e=>hot g (by omega)) (fun g e=>hb g (by rintro rfl;omega)) (fun j hj=>(ho j (by omega)).trans (c1.num j hj)) ((ho 6 (by decide)).trans c1.c6) (World.cell?_setCell_same' _ _ _ (by rw[c1.c7];rfl)) ((ho 8 (by decide)).trans c1.c8) ((ho 9 (by decide)).trans c1.c9) (fun j hj=>(setCell_froz _ _ _ _).trans (c1.fz j hj))
     (hk.c.same fun g e=>hb g (by have:=(hk.lo.2 g (.inr (.inl e))).1;omega)) (c1.sl.same fun g e=>hb g (by rintro rfl;have:=c1.t4 g e;omega)) (c1.rt.same fun g e=>hb g (by rintro rfl;have:=c1.t5 g e;omega)) (fun g e=>by unfold tagAt;exact if_pos e) (fun g e=>by rw[hot g (by rw[c1.t4 g e];decide)];exact c1.t4 g e) (fun g e=>by rw[hot g (by rw[c1.t5 g e];decide)];exact c1.t5 g e) (fun g e=>?_)
    rw[World.size_setCell]
    unfold tagAt at e
    split at e
    ·rename_i q;exact hk.c.lt g q
    ·exact c1.un g e
   have d2:DmAt w0 pd dt (tagAt dt (.slice x.aC k.cop.length x.cC) 3) M k C (nums1 M sn (place (shapes M k.cop) k.cop.length)) (atOl M k.cop k.cop.length) k.cop M.slots x (W.setCell ⟨pd,7,none⟩ (.slice x.aC k.cop.length x.cC)):=⟨_,d1,c2,c3,WxAt.set ⟨vL,hk⟩ hpd _ _,by
    have fs:Fr dt dt W (W.setCell ⟨pd,7,none⟩ (.slice x.aC k.cop.length x.cC)):=Fr.set (by rw[c1.t1];decide) _ _
    have ff:=c5.trans fs
    refine ⟨ff.os,ff.tape,ff.output,ff.size,fun g hg e=>⟨(ff.blk g hg e).1,?_⟩⟩
    unfold tagAt
    split
    ·rename_i q;have:=x5 g q;omega
    ·exact e⟩
   have e0:slE M k 0=M.slots:=by unfold slE;simp
   rw[e0]
   exact (d2.setN (N':=nums3 M sn (place (shapes M k.cop) k.cop.length) (lgOf M ((slC M k).take 0))) hpd (i:=3) (by omega) 0 (fun j hj=>by unfold nums3;by_cases e:j=3 <;> simp [e,lgOf])).still s
  ·rintro x i W ⟨hi,C',c1,c2,c3,_,_⟩
   rw[c1.c8,c3,eL]
  ·rintro x i W ⟨_,hc⟩ hi
   obtain ⟨n1,n2⟩:=hnum _ _ _ _ _ _ _ hc
   have hc':=hc
   obtain ⟨C',c1,c2,c3,hx,c5⟩:=hc'
   obtain ⟨x1,x2,x3,x4,x5⟩:=hwx x W hx
   obtain ⟨a',cap',e',hl⟩:=line_list c1.sl
   rw[c3,eL,slE_len M k (Nat.le_of_lt hi)] at e'
   cases e'
   obtain ⟨g,z1,z2,z3,z4⟩:=hl i (by rw[slE_len M k (Nat.le_of_lt hi)];exact hi)
   unfold numsV at z2
   rw[slE_at M k hi] at z2
   have hgl:g<w0.heap.size:=h.sl.lt g (by rw[← c3];exact z4)
   refine ⟨⟨g,z1,z2,z3,fun hno W' s=>⟨hi,?_⟩⟩,fun hs0=>⟨wf.ln _ (hbig i hs0),x1,x4 _ (wf.ln _ (hbig i hs0))⟩,fun hs0 hd=>?_⟩
   ·have hzero:(slC M k).getD i 0=0:=by
     rw[hslC i]
     rcases hno with e|e
     ·rw[e];split <;> rfl
     ·have:=of_decide_eq_false e
      rw[if_neg (fun q=>this (.inr q))]
    have d1:=c1.setL (g:=g) (k:=i) z4 (by rw[slE_len M k (Nat.le_of_lt hi)];exact hi) 0
    rw[← hzero,slE_step M k hi] at d1
    have elg:lgOf M ((slC M k).take (i+1))=lgOf M ((slC M k).take i):=by
     rw[take_more i (by rw[slC_len];exact hi),lg_app,hzero]
     simp
    rw[elg]
    have:DmAt w0 pd dt (tagAt dt (.slice x.aC k.cop.length x.cC) 3) M k C (nums3 M sn (place (shapes M k.cop) k.cop.length) (lgOf M ((slC M k).take i))) (atOl M k.cop k.cop.length) k.cop (slE M k (i+1)) x (W.setCell ⟨g,i,none⟩ (.int .i64 0)):=by
     rw[hzero] at d1
     exact ⟨C',d1,c2,c3,hx.set hgl _ _,c5.trans (Fr.set (by rw[c1.t4 g z4];decide) _ _)⟩
    exact this.still s
   ·have hin:M.slots.getD i 0∈k.lin:=by
     have:=of_decide_eq_true hd
     rcases this with q|q
     ·exact absurd (slot_mem hs0).2 (fun z=>small_not_slot ok (f.cs _ q) z)
     ·exact q
    have hsame:(slC M k).getD i 0=M.slots.getD i 0:=by rw[hslC i,if_pos hin]
    have hI:=hbig i hs0
    have elg:lgOf M ((slC M k).take (i+1))=lgOf M ((slC M k).take i)+1+osz (ob M (M.slots.getD i 0)):=by
     rw[take_more i (by rw[slC_len];exact hi),lg_app,hsame,if_neg hs0]
     omega
    refine ⟨n1 3 (by omega),n2 3 (by decide),elg,hlgle i (Nat.le_of_lt hi),hszle _ hI,hmid _ _ _ _ _ _ _ _ (atOl_len _ _ _) hI (atOl_osz M k.cop _ (wf.ln _ hI)) hc,fun W' s=>⟨hi,?_⟩⟩
    rw[slE_keep M k hi hsame]
    exact (hc.setN (N':=nums3 M sn (place (shapes M k.cop) k.cop.length) (lgOf M ((slC M k).take (i+1)))) hpd (i:=3) (by omega) _ (fun j hj=>by unfold nums3;by_cases e:j=3 <;> simp [e])).still s
  ·rintro x W ⟨_,hc⟩
   have e1:(slC M k).take M.slots.length=slC M k:=by rw[← slC_len M k,List.take_length]
   have e2:slE M k M.slots.length=slC M k:=by unfold slE;rw[e1];simp
   rw[e1,e2] at hc
   rw[clOl_one]
   exact ⟨Nat.le_refl _,h1,hc⟩
  ·rintro x q W ⟨_,_,hc⟩
   exact (hobj _ _ _ _ _ _ _ (clOl_len _ _ _) hc).1
  ·rintro x q W ⟨hq1,_,hc⟩ hq
   have hc':=hc
   obtain ⟨C',c1,c2,c3,hx,c5⟩:=hc'
   obtain ⟨x1,x2,x3,x4,x5⟩:=hwx x W hx
   refine ⟨⟨x1,x4 q hq⟩,fun hd=>⟨by omega,by omega,?_⟩,fun hd=>⟨fun c h6=>(hobj _ _ _ _ _ _ _ (clOl_len _ _ _) hc).2 q c hq h6,fun W' s=>⟨by omega,by omega,?_⟩⟩⟩
   ·rw[clOl_yes M k (of_decide_eq_true hd)]
    exact hc
   ·obtain ⟨C2,d1,d2,d3⟩:=c1.clear (g:=gO) (by rw[c2];exact hoO) (i:=q) (by rw[clOl_len];exact hq)
    rw[clOl_no M k hq1 hq (of_decide_eq_false hd)] at d1
    have hb:∀ p,p≠gO→(clr6 W gO (q*6)).heap[p]?=W.heap[p]?:=fun p hp=>by
     unfold clr6
     rw[setCell_else _ _ _ _ _ hp,setCell_else _ _ _ _ _ hp,setCell_else _ _ _ _ _ hp,setCell_else _ _ _ _ _ hp,setCell_else _ _ _ _ _ hp,setCell_else _ _ _ _ _ hp]
    have hne:tagAt dt (.slice x.aC k.cop.length x.cC) 3 gO≠0:=by rw[c1.t2 gO (by rw[c2];exact hoO)];decide
    have:DmAt w0 pd dt (tagAt dt (.slice x.aC k.cop.length x.cC) 3) M k C (nums3 M sn (place (shapes M k.cop) k.cop.length) (lgOf M (slC M k))) (clOl M k (q+1)) k.cop (slC M k) x (clr6 W gO (q*6)):=⟨C2,d1,d2.trans c2,d3.trans c3,hx.same fun p hp=>hb p (by omega),by
     unfold clr6
     exact c5.trans ((((((Fr.set hne _ _).trans (Fr.set hne _ _)).trans (Fr.set hne _ _)).trans (Fr.set hne _ _)).trans (Fr.set hne _ _)).trans (Fr.set hne _ _))⟩
    exact this.still s
  ·rintro x W ⟨_,_,hc⟩
   obtain ⟨n1,n2⟩:=hnum _ _ _ _ _ _ _ hc
   refine ⟨⟨_,n1 4 (by omega)⟩,n1 3 (by omega),⟨_,n1 5 (by omega)⟩,n1 10 (by omega),n1 2 (by omega),⟨_,n1 12 (by omega)⟩,n2,fun W' s=>?_⟩
   have e4:=hc.setN (N':=fun j=>if j=4 then 0 else nums3 M sn (place (shapes M k.cop) k.cop.length) (lgOf M (slC M k)) j) hpd (i:=4) (by omega) 0 (fun j hj=>rfl)
   have e5:=e4.setN (N':=fun j=>if j=5 then lgOf M (slC M k) else if j=4 then 0 else nums3 M sn (place (shapes M k.cop) k.cop.length) (lgOf M (slC M k)) j) hpd (i:=5) (by omega) (lgOf M (slC M k)) (fun j hj=>rfl)
   have e10:=e5.setN (N':=fun j=>if j=10 then M.coll+1 else if j=5 then lgOf M (slC M k) else if j=4 then 0 else nums3 M sn (place (shapes M k.cop) k.cop.length) (lgOf M (slC M k)) j) hpd (i:=10) (by omega) (M.coll+1) (fun j hj=>rfl)
   have e12:=e10.setN (N':=numM (collM M k) 0) hpd (i:=12) (by omega) (place (shapes M k.cop) k.cop.length-1) (fun j hj=>by
    have:j=0∨j=1∨j=2∨j=3∨j=4∨j=5∨j=10∨j=11∨j=12:=by omega
    rcases this with rfl|rfl|rfl|rfl|rfl|rfl|rfl|rfl|rfl <;> rfl)
   obtain ⟨C',c1,_,_,_,c5⟩:=e12.still s
   rw[clOl_end hz h0n hdis] at c1
   exact ⟨_,C',c1,c5⟩
 refine (coll_walk (P0:=fun x W=>Below w0.heap.size w0 W∧WxAt w0 M k x W) key (by omega) (by omega) (by omega) h1 hcl ⟨place_pos _ _,place_le_used wf f (Nat.le_refl _)⟩ ?_ ?_ ?_).mono fun e w' ⟨q1,q2⟩=>⟨q1,collM M k,⟨⟨k,ka,kb⟩,a1,a2,f,rfl⟩,q2⟩
 ·have:=hlgle M.slots.length (Nat.le_refl _)
  rw[← slC_len M k,List.take_length] at this
  exact this
 ·refine (reached_any h wf hn h1 hrl).mono fun e w' ⟨pw,u,q1,⟨V,q2,q3,q4⟩,q5,q6⟩=>?_
  have eu:=star_end a1 a2 q5 q6
  rw[← eu] at q3
  obtain ⟨aC,cC,eC⟩:=q3.c.shape
  obtain ⟨aD,cD,eD⟩:=q3.d.shape
  refine ⟨⟨pw,aC,cC,aD,cD⟩,q1,q2,V.vL,?_⟩
  obtain ⟨v1,v2,v3⟩:=V
  dsimp only at eC eD
  subst eC eD
  exact q3
 ·rintro x W ⟨q,hx⟩
  have hc:DmAt w0 pd dt dt M k C (numM M sn) M.objs M.small M.slots x W:=⟨C,h.still q,rfl,rfl,hx,Fr.of_below q⟩
  obtain ⟨n1,n2⟩:=hnum _ _ _ _ _ _ _ hc
  refine ⟨⟨_,n1 2 (by omega)⟩,n2 2 (by decide),fun W' s=>⟨Nat.zero_le _,?_⟩⟩
  rw[atOl_zero]
  exact (hc.setN (N':=nums1 M sn (place (shapes M k.cop) 0)) hpd (i:=2) (by omega) 1 (fun j hj=>by unfold nums1;by_cases e:j=2 <;> simp [e,place])).still s
theorem dwant_any (u:Nat) (hu:u≤4194304) (w:World):Calls Tryz.prog 157 #[.int .i64 (u:Nat)] w fun e w'=>e=.returned (.int .i64 (wantOf u:Nat))∧w'=w:=by
 go_enter Tryz.func157,Tryz.ntmps157
 go_wp2_with fail
 go_loopw [3] (fun hv wr=>wr=w∧∃ f h:Nat,hv=.int .i64 (h:Nat)∧1≤h∧h≤16777216∧h*2 ^ f=70368744177664∧wantF f u h=wantOf u) (fun hv _=>33554432-(intOf hv).toNat)
 case atStart=>exact ⟨rfl,40,64,rfl,by decide,by decide,by decide,rfl⟩
 case round=>
  obtain ⟨rfl,f,h,rfl,h1,h2,h3,h4⟩:=hrel
  by_cases hlt:3*h<4*u
  ·have d:decide (3*(h:Int)<4*(u:Int))=true:=decide_eq_true (by omega)
   cases f with
   | zero=>simp at h3;omega
   | succ f=>
    have HR:=hide (show h*2*2 ^ f=70368744177664∧wantF f u (h*2)=wantOf u from ⟨by rw[← h3,Nat.pow_succ,Nat.mul_assoc,Nat.mul_comm 2],by rw[← h4];unfold wantF;rw[if_pos hlt];cases f <;> rfl⟩)
    clear h3 h4
    go_wp2
    go_roundw
    case rel=>exact ⟨trivial,f,h*2,by simp;omega,by omega,by omega,unhide HR⟩
    case measure=>simp [intOf];omega
  ·have d:decide (3*(h:Int)<4*(u:Int))=false:=decide_eq_false (by omega)
   have hw:wantOf u=h:=by
    rw[← h4]
    cases f with
    | zero=>rfl
    | succ f=>unfold wantF;rw[if_neg hlt]
   have HW:=hide hw
   clear h3 h4 hw
   go_wp2
   go_ret
   exact ⟨by rw[unhide HW];rfl,rfl⟩
structure DNum (w:World) (pd:Nat) (M:Hp) (sn:Nat):Prop where
 n0:w.cell? ⟨pd,0,none⟩=some (.int .i64 (M.limit:Nat))
 n1:w.cell? ⟨pd,1,none⟩=some (.int .i64 (M.half:Nat))
 n2:w.cell? ⟨pd,2,none⟩=some (.int .i64 (M.used:Nat))
 n3:w.cell? ⟨pd,3,none⟩=some (.int .i64 (M.large:Nat))
 n4:w.cell? ⟨pd,4,none⟩=some (.int .i64 (sn:Nat))
 n5:w.cell? ⟨pd,5,none⟩=some (.int .i64 (M.kept:Nat))
 n10:w.cell? ⟨pd,10,none⟩=some (.int .i64 (M.coll:Nat))
 n11:w.cell? ⟨pd,11,none⟩=some (.int .i64 (M.resz:Nat))
 n12:w.cell? ⟨pd,12,none⟩=some (.int .i64 (M.moved:Nat))
theorem DAt.nums {w:World}{pd sn:Nat}{dt:Nat→Nat}{M:Hp}{C:DC} (h:DAt w pd dt M sn C):DNum w pd M sn:=⟨h.num 0 (by omega),h.num 1 (by omega),h.num 2 (by omega),h.num 3 (by omega),h.num 4 (by omega),h.num 5 (by omega),h.num 10 (by omega),h.num 11 (by omega),h.num 12 (by omega)⟩
theorem DAt.setN {w:World}{pd sn sn':Nat}{dt:Nat→Nat}{M M':Hp}{C:DC} (h:DAt w pd dt M sn C) {i:Nat} (hi:i<6∨(10≤i∧i<13)) (u:Nat) (e1:M'.objs=M.objs) (e2:M'.small=M.small) (e3:M'.slots=M.slots) (e4:M'.roots=M.roots) (hN:∀ j,j<6∨(10≤j∧j<13)→(if j=i then u else numM M sn j)=numM M' sn' j):
  DAt (w.setCell ⟨pd,i,none⟩ (.int .i64 (u:Nat))) pd dt M' sn' C∧Fr dt dt w (w.setCell ⟨pd,i,none⟩ (.int .i64 (u:Nat))):=by
 unfold DAt at h ⊢
 rw[e1,e2,e3,e4]
 exact ⟨(h.setN hi u).congr hN,Fr.set (by rw[h.t1];decide) _ _⟩
theorem numM_cases {M M':Hp}{sn sn':Nat}{i u:Nat} (h:∀ j,j=0∨j=1∨j=2∨j=3∨j=4∨j=5∨j=10∨j=11∨j=12→(if j=i then u else numM M sn j)=numM M' sn' j):∀ j,j<6∨(10≤j∧j<13)→(if j=i then u else numM M sn j)=numM M' sn' j:=fun j hj=>h j (by omega)
theorem dbecome_any {w:World}{pd sn:Nat}{dt:Nat→Nat}{M:Hp}{C:DC} (h:DAt w pd dt M sn C) (n:Nat) (hn:n≤100000000) (hh:M.half≤100000000) (hr:M.resz≤100000000000):
  Calls Tryz.prog 114 #[.pointer (some ⟨pd,0,none⟩),.int .i64 (n:Nat)] w fun e w'=>e=.returned (.tuple #[])∧(∃ C',DAt w' pd dt (becM M n) sn C')∧Fr dt dt w w':=by
 obtain ⟨n0,n1,n2,n3,n4,n5,n10,n11,n12⟩:=h.nums
 have z1:=h.fz 1 (by decide)
 have z11:=h.fz 11 (by decide)
 by_cases e:n=M.half
 ·have HF:Hid ((∃ C',DAt w pd dt (becM M n) sn C')∧Fr dt dt w w):=hide ⟨⟨C,by unfold becM;rw[if_pos e];exact h⟩,Fr.refl w⟩
  have d1:((n:Int) != (M.half:Nat))=false:=by rw[e];simp
  clear h e
  go_enter Tryz.func114,Tryz.ntmps114
  go_wp2_with fail
  all_goals go_end0
  all_goals exact ⟨rfl,unhide HF⟩
 ·have d1:((n:Int) != (M.half:Nat))=true:=by simp;omega
  have w1:IntKind.i64.wrap ((M.resz:Int)+1)=(M.resz:Int)+1:=wrap_small _ (by omega) (by omega)
  have HF:Hid ((∃ C',DAt ((w.setCell ⟨pd,1,none⟩ (.int .i64 (n:Nat))).setCell ⟨pd,11,none⟩ (.int .i64 ((M.resz:Int)+1))) pd dt (becM M n) sn C')∧Fr dt dt w ((w.setCell ⟨pd,1,none⟩ (.int .i64 (n:Nat))).setCell ⟨pd,11,none⟩ (.int .i64 ((M.resz:Int)+1)))):=hide (by
   obtain ⟨a1,a2⟩:=h.setN (M':={ M with half:=n }) (sn':=sn) (i:=1) (by omega) n rfl rfl rfl rfl (numM_cases fun j hj=>by rcases hj with rfl|rfl|rfl|rfl|rfl|rfl|rfl|rfl|rfl <;> rfl)
   obtain ⟨b1,b2⟩:=a1.setN (M':={ M with half:=n,resz:=M.resz+1 }) (sn':=sn) (i:=11) (by omega) (M.resz+1) rfl rfl rfl rfl (numM_cases fun j hj=>by rcases hj with rfl|rfl|rfl|rfl|rfl|rfl|rfl|rfl|rfl <;> rfl)
   rw[show (((M.resz+1:Nat):Nat):Int)=(M.resz:Int)+1 by push_cast;rfl] at b1 b2
   refine ⟨⟨C,?_⟩,a2.trans b2⟩
   unfold becM
   rw[if_neg e]
   exact b1)
  have k11:(w.setCell ⟨pd,1,none⟩ (.int .i64 (n:Nat))).cell? ⟨pd,11,none⟩=some (.int .i64 (M.resz:Nat)):=(World.cell?_setCell_other _ _ _ _ (by simp)).trans n11
  have y11:(w.setCell ⟨pd,1,none⟩ (.int .i64 (n:Nat))).frozen? ⟨pd,11,none⟩=false:=(setCell_froz _ _ _ _).trans z11
  clear h e
  go_enter Tryz.func114,Tryz.ntmps114
  go_wp2_with fail
  all_goals go_end0
  all_goals exact ⟨rfl,unhide HF⟩
theorem dfit_any {w:World}{pd sn:Nat}{dt:Nat→Nat}{M:Hp}{C:DC} (h:DAt w pd dt M sn C) (s:Nat) (hs:s≤64) (hu:M.used≤1048576) (hlg:M.large≤M.limit) (hlm:M.limit≤1048576) (hh:M.half≤1048576) (hr:M.resz≤100000000000):
  Calls Tryz.prog 100 #[.pointer (some ⟨pd,0,none⟩),.int .i64 (s:Nat)] w fun e w'=>e=.returned (.tuple #[])∧(∃ C',DAt w' pd dt (fitM M s) sn C')∧Fr dt dt w w':=by
 obtain ⟨n0,n1,n2,n3,n4,n5,n10,n11,n12⟩:=h.nums
 have hfit:fitM M s=if 3*M.half<4*(M.used+s) then (if M.half<min (wantOf (M.used+s)) ((M.limit-M.large) / 2) then becM M (min (wantOf (M.used+s)) ((M.limit-M.large) / 2)) else M) else if 64<M.half∧8*(M.used+s)<M.half then becM M (wantOf (M.used+s)) else M:=rfl
 obtain ⟨g1,g2,g3,g4⟩:=wantOf_ok (M.used+s) (by omega)
 have H140:=hide (fun w=>dwant_any (M.used+s) (by omega) w)
 have HB:Hid (∀ n,n≤100000000→∀ W,Still w W→Calls Tryz.prog 114 #[.pointer (some ⟨pd,0,none⟩),.int .i64 (n:Nat)] W fun e w'=>e=.returned (.tuple #[])∧(∃ C',DAt w' pd dt (becM M n) sn C')∧Fr dt dt w w'):=hide (fun n hn W s=>(dbecome_any (h.still s.below) n hn (by omega) hr).mono fun e w' ⟨q1,q2,q3⟩=>⟨q1,q2,(Fr.still s).trans q3⟩)
 have HST:Hid (∀ W,Still w W→(∃ C',DAt W pd dt M sn C')∧Fr dt dt w W):=hide (fun W s=>⟨⟨C,h.still s.below⟩,Fr.still s⟩)
 obtain ⟨U,hU⟩:∃ U,M.used+s=U:=⟨_,rfl⟩
 have w1:IntKind.i64.wrap ((M.used:Int)+(s:Int))=(U:Int):=by rw[← hU,show (M.used:Int)+(s:Int)=((M.used+s:Nat):Int) by omega];exact wrap_nat _ (by omega)
 have w1':(M.used:Int)+(s:Int)=(U:Int):=by omega
 rw[hU] at hfit g1 g2 g3 g4 H140
 obtain ⟨T,hT⟩:∃ T,(M.limit-M.large) / 2=T:=⟨_,rfl⟩
 rw[hT] at hfit
 have w2:IntKind.i64.wrap ((M.limit:Int)-(M.large:Int))=(M.limit:Int)-(M.large:Int):=wrap_small _ (by omega) (by omega)
 have w3:((M.limit:Int)-(M.large:Int)).tdiv 2=(T:Int):=by rw[Int.tdiv_eq_ediv_of_nonneg (by omega)];omega
 have w4:IntKind.i64.wrap (T:Int)=(T:Int):=wrap_small _ (by omega) (by omega)
 have w5:IntKind.i64.wrap (4*(U:Int))=4*(U:Int):=wrap_small _ (by omega) (by omega)
 have w6:IntKind.i64.wrap (3*(M.half:Int))=3*(M.half:Int):=wrap_small _ (by omega) (by omega)
 have w7:IntKind.i64.wrap (8*(U:Int))=8*(U:Int):=wrap_small _ (by omega) (by omega)
 generalize wantOf U=V at *
 have HU:=hide hU
 have HT:=hide hT
 clear hU hT h n4 n5 n10 n11 n12
 by_cases c1:3*M.half<4*U
 ·have d1:decide (3*(M.half:Int)<4*(U:Int))=true:=decide_eq_true (by omega)
  rw[if_pos c1] at hfit
  by_cases c2:V<T
  ·have d2:decide ((V:Int)<(T:Nat))=true:=decide_eq_true (by omega)
   have d2':decide (V<T)=true:=decide_eq_true (by omega)
   rw[Nat.min_eq_left (by omega)] at hfit
   by_cases c3:M.half<V
   ·have d3:decide ((M.half:Int)<(V:Nat))=true:=decide_eq_true (by omega)
    have d3':decide (M.half<V)=true:=decide_eq_true (by omega)
    rw[if_pos c3] at hfit
    rw[hfit]
    have H121:=hide (unhide HB V (by omega))
    clear hfit HB HST
    go_enter Tryz.func100,Tryz.ntmps100
    go_wp2_with fail
    refine (unhide H140 w).mono ?_
    rintro e w2 ⟨rfl,rfl⟩
    clear H140
    go_wp2_with fail
    go_region_held3 (fun W=>W.cell? ⟨pd,0,none⟩=some (.int .i64 (M.limit:Nat))∧W.cell? ⟨pd,3,none⟩=some (.int .i64 (M.large:Nat))) (go_keep) (fail)
    all_goals go_wp2_with fail
    all_goals refine (unhide H121 _ ((Still.refl _).drew _)).mono ?_
    all_goals rintro e w3 ⟨rfl,hR⟩
    all_goals have HR:=hide hR
    all_goals clear hR H121
    all_goals go_wp2_with fail
    all_goals go_end0
    all_goals exact ⟨rfl,unhide HR⟩
   ·exfalso;omega
  ·have d2:decide ((V:Int)<(T:Nat))=false:=decide_eq_false (by omega)
   have d2':decide (V<T)=false:=decide_eq_false (by omega)
   rw[Nat.min_eq_right (by omega)] at hfit
   by_cases c3:M.half<T
   ·have d3:decide ((M.half:Int)<(T:Nat))=true:=decide_eq_true (by omega)
    have d3':decide (M.half<T)=true:=decide_eq_true (by omega)
    rw[if_pos c3] at hfit
    rw[hfit]
    have H121:=hide (unhide HB T (by have:=unhide HT;omega))
    clear hfit HB HST
    go_enter Tryz.func100,Tryz.ntmps100
    go_wp2_with fail
    refine (unhide H140 w).mono ?_
    rintro e w2 ⟨rfl,rfl⟩
    clear H140
    go_wp2_with fail
    go_region_held3 (fun W=>W.cell? ⟨pd,0,none⟩=some (.int .i64 (M.limit:Nat))∧W.cell? ⟨pd,3,none⟩=some (.int .i64 (M.large:Nat))) (go_keep) (fail)
    all_goals go_wp2_with fail
    all_goals refine (unhide H121 _ ((Still.refl _).drew _)).mono ?_
    all_goals rintro e w3 ⟨rfl,hR⟩
    all_goals have HR:=hide hR
    all_goals clear hR H121
    all_goals go_wp2_with fail
    all_goals go_end0
    all_goals exact ⟨rfl,unhide HR⟩
   ·have d3:decide ((M.half:Int)<(T:Nat))=false:=decide_eq_false (by omega)
    have d3':decide (M.half<T)=false:=decide_eq_false (by omega)
    rw[if_neg c3] at hfit
    rw[hfit]
    clear hfit HB
    go_enter Tryz.func100,Tryz.ntmps100
    go_wp2_with fail
    refine (unhide H140 w).mono ?_
    rintro e w2 ⟨rfl,rfl⟩
    clear H140
    go_wp2_with fail
    go_region_held3 (fun W=>W.cell? ⟨pd,0,none⟩=some (.int .i64 (M.limit:Nat))∧W.cell? ⟨pd,3,none⟩=some (.int .i64 (M.large:Nat))) (go_keep) (fail)
    all_goals go_wp2_with fail
    all_goals go_end0
    all_goals exact ⟨rfl,unhide HST _ ((Still.refl _).drew _)⟩
 ·have d1:decide (3*(M.half:Int)<4*(U:Int))=false:=decide_eq_false (by omega)
  rw[if_neg c1] at hfit
  by_cases c2:64<M.half
  ·have d2:decide ((64:Int)<(M.half:Nat))=true:=decide_eq_true (by omega)
   by_cases c3:8*U<M.half
   ·have d3:decide (8*(U:Int)<(M.half:Nat))=true:=decide_eq_true (by omega)
    rw[if_pos ⟨c2,c3⟩] at hfit
    rw[hfit]
    have H121:=hide (unhide HB V (by omega))
    clear hfit HB HST
    go_enter Tryz.func100,Tryz.ntmps100
    go_wp2_with fail
    refine (unhide H140 w).mono ?_
    rintro e w2 ⟨rfl,rfl⟩
    clear H140
    go_wp2_with fail
    all_goals refine (unhide H121 _ (Still.refl _)).mono ?_
    all_goals rintro e w3 ⟨rfl,hR⟩
    all_goals have HR:=hide hR
    all_goals clear hR H121
    all_goals go_wp2_with fail
    all_goals go_end0
    all_goals exact ⟨rfl,unhide HR⟩
   ·have d3:decide (8*(U:Int)<(M.half:Nat))=false:=decide_eq_false (by omega)
    rw[if_neg (fun z=>c3 z.2)] at hfit
    rw[hfit]
    clear hfit HB
    go_enter Tryz.func100,Tryz.ntmps100
    go_wp2_with fail
    refine (unhide H140 w).mono ?_
    rintro e w2 ⟨rfl,rfl⟩
    clear H140
    go_wp2_with fail
    all_goals go_end0
    all_goals exact ⟨rfl,unhide HST _ (Still.refl _)⟩
  ·have d2:decide ((64:Int)<(M.half:Nat))=false:=decide_eq_false (by omega)
   rw[if_neg (fun z=>c2 z.1)] at hfit
   rw[hfit]
   clear hfit HB
   go_enter Tryz.func100,Tryz.ntmps100
   go_wp2_with fail
   refine (unhide H140 w).mono ?_
   rintro e w2 ⟨rfl,rfl⟩
   clear H140
   go_wp2_with fail
   all_goals go_end0
   all_goals exact ⟨rfl,unhide HST _ (Still.refl _)⟩
theorem coll_bounds {M M1:Hp} (wf:HpWf M) (h:IsColl M M1):HpWf M1∧M1.used≤1048576∧M1.large≤M1.limit∧M1.limit≤1048576∧M1.half≤1048576∧M1.resz=M.resz:=by
 obtain ⟨t,_,_,f,rfl⟩:=h
 have w1:=f.wf wf
 have h1:=w1.ok.u2;have h2:=w1.ok.h2;have h3:=w1.lm;have h4:=w1.l2
 exact ⟨w1,by omega,by omega,h4,h2,rfl⟩
theorem dcollect_any {w:World}{pd sn:Nat}{dt:Nat→Nat}{M:Hp}{C:DC} (h:DAt w pd dt M sn C) (wf:HpWf M) (hz:ob M 0=ob0) (hn:M.objs.length≤1000000) (h1:1≤M.objs.length) (hrl:M.roots.length≤1000000) (hcl:M.coll≤100000000000) (hrz:M.resz≤100000000000):
  Calls Tryz.prog 48 #[.pointer (some ⟨pd,0,none⟩)] w fun e w'=>e=.returned (.tuple #[])∧∃ M1,IsColl M M1∧∃ dt' C',DAt w' pd dt' (fitM M1 0) 0 C'∧Fr dt dt' w w':=by
 have H106:Hid (Calls Tryz.prog 99 #[.pointer (some ⟨pd,0,none⟩)] w fun e w'=>e=.returned (.tuple #[])∧Hid (Calls Tryz.prog 100 #[.pointer (some ⟨pd,0,none⟩),.int .i64 0] w' fun e w''=>e=.returned (.tuple #[])∧∃ M1,IsColl M M1∧∃ dt' C',DAt w'' pd dt' (fitM M1 0) 0 C'∧Fr dt dt' w w'')):=hide ((dcoll_any h wf hz hn h1 hrl hcl).mono fun e w' ⟨q1,M1,q2,dt',C',q3,q4⟩=>⟨q1,hide (by
  obtain ⟨b0,b1,b2,b3,b4,b5⟩:=coll_bounds wf q2
  exact (dfit_any q3 0 (by decide) b1 b2 b3 b4 (by omega)).mono fun e w'' ⟨z1,⟨C2,z2⟩,z3⟩=>⟨z1,M1,q2,dt',C2,z2,q4.trans z3⟩)⟩)
 clear h wf hz
 go_enter Tryz.func48,Tryz.ntmps48
 go_wp2_with fail
 refine (unhide H106).mono ?_
 rintro e w2 ⟨rfl,hF⟩
 clear H106
 go_wp2_with fail
 refine (unhide hF).mono ?_
 rintro e w3 ⟨rfl,hR⟩
 have HR:=hide hR
 clear hR hF
 go_wp2_with fail
 all_goals go_end0
 all_goals exact ⟨rfl,unhide HR⟩
theorem becM_since (M:Hp) (n:Nat):(becM M n).large=M.large∧(becM M n).kept=M.kept:=by
 unfold becM
 split <;> exact ⟨rfl,rfl⟩
def ResD (pd:Nat) (dt:Nat→Nat) (M:Hp) (A:Int) (w w':World) (c:Nat):Prop:=∃ M',ResR M A M' c∧∃ dt' C',DAt w' pd dt' M' (M'.large-M'.kept) C'∧Fr dt dt' w w'
theorem dresize_any {w:World}{pd sn:Nat}{dt:Nat→Nat}{M:Hp}{C:DC} (h:DAt w pd dt M sn C) (hsn:sn=M.large-M.kept) (wf:HpWf M) (hz:ob M 0=ob0) (hn:M.objs.length≤1000000) (h1:1≤M.objs.length) (hrl:M.roots.length≤1000000) (hcl:M.coll≤100000000000) (hrz:M.resz≤100000000000) (A:Int):
  Calls Tryz.prog 50 #[.pointer (some ⟨pd,0,none⟩),.int .i64 A] w fun e w'=>∃ c:Nat,e=.returned (.int .i64 (c:Nat))∧ResD pd dt M A w w' c:=by
 by_cases hA:64≤A∧A≤524288
 ·obtain ⟨a,rfl⟩:∃ a:Nat,A=(a:Nat):=⟨A.toNat,by omega⟩
  have hat:((a:Nat):Int).toNat=a:=by omega
  have H106:Hid (Calls Tryz.prog 99 #[.pointer (some ⟨pd,0,none⟩)] w fun e w'=>e=.returned (.tuple #[])∧∃ M1 dt' C',Hid (IsColl M M1)∧Hid (DAt w' pd dt' M1 0 C')∧Hid (Fr dt dt' w w')):=hide ((dcoll_any h wf hz hn h1 hrl hcl).mono fun e w' ⟨q1,M1,q2,dt',C',q3,q4⟩=>⟨q1,M1,dt',C',hide q2,hide q3,hide q4⟩)
  have HWF:=hide wf
  have d1:decide ((a:Int)<64)=false:=decide_eq_false (by omega)
  have d2:decide ((524288:Int)<(a:Nat))=false:=decide_eq_false (by omega)
  have HRZ:=hide hrz
  have HA:=hide (⟨hA,hat⟩:_∧_)
  have a1:(a:Int)≤524288:=hA.2
  clear h wf hz hA hat hsn hrz
  go_enter Tryz.func50,Tryz.ntmps50
  go_wp2_with fail
  refine (unhide H106).mono ?_
  rintro e w2 ⟨rfl,M1,dt',C',hc,hD,hF⟩
  clear H106
  obtain ⟨b0,b1,b2,b3,b4,b5⟩:=coll_bounds (unhide HWF) (unhide hc)
  obtain ⟨n0,n1,n2,n3,n4,n5,n10,n11,n12⟩:=(unhide hD).nums
  have hsn1:M1.large-M1.kept=0:=by
   obtain ⟨t,_,_,_,rfl⟩:=unhide hc
   show lgOf M (slC M t.k)-lgOf M (slC M t.k)=0
   omega
  have w1:IntKind.i64.wrap (2*(a:Int))=2*(a:Int):=wrap_small _ (by omega) (by omega)
  have w2':IntKind.i64.wrap (2*(a:Int)+(M1.large:Int))=2*(a:Int)+(M1.large:Int):=wrap_small _ (by omega) (by omega)
  have HSN:=hide hsn1
  have HB5:=hide b5
  clear b0 hsn1 b5 n4 n5 n10 n11 n12 HWF
  by_cases c1:a<M1.used
  ·have d3:decide ((a:Int)<(M1.used:Nat))=true:=decide_eq_true (by omega)
   have d3':decide (a<M1.used)=true:=decide_eq_true c1
   have HF:Hid (∀ W,Still w2 W→ResD pd dt M (a:Nat) w W 31):=hide (fun W s=>⟨M1,.inr ⟨(unhide HA).1,M1,unhide hc,.inl ⟨.inl (by rw[(unhide HA).2];exact c1),rfl,rfl⟩⟩,dt',C',by rw[unhide HSN];exact (unhide hD).still s.below,(unhide hF).trans (Fr.still s)⟩)
   clear hc hD hF HA HSN HRZ
   go_wp2_with fail
   refine wp_region_noPanic ?_
   go_region
   all_goals refine NoPanic.normal ?_
   all_goals go_wp2_with fail
   all_goals go_ret
   all_goals exact ⟨31,by simp,unhide HF _ (by first|exact (Still.refl _).drew _|exact Still.refl _)⟩
  ·have d3:decide ((a:Int)<(M1.used:Nat))=false:=decide_eq_false (by omega)
   have d3':decide (a<M1.used)=false:=decide_eq_false c1
   by_cases c2:M1.limit<2*a+M1.large
   ·have d4:decide ((M1.limit:Int)<2*(a:Int)+(M1.large:Int))=true:=decide_eq_true (by omega)
    have HF:Hid (∀ W,Still w2 W→ResD pd dt M (a:Nat) w W 31):=hide (fun W s=>⟨M1,.inr ⟨(unhide HA).1,M1,unhide hc,.inl ⟨.inr (by rw[(unhide HA).2];exact c2),rfl,rfl⟩⟩,dt',C',by rw[unhide HSN];exact (unhide hD).still s.below,(unhide hF).trans (Fr.still s)⟩)
    clear hc hD hF HA HSN HRZ
    go_wp2_with fail
    go_region_held3 (fun W=>W.cell? ⟨pd,0,none⟩=some (.int .i64 (M1.limit:Nat))∧W.cell? ⟨pd,2,none⟩=some (.int .i64 (M1.used:Nat))∧W.cell? ⟨pd,3,none⟩=some (.int .i64 (M1.large:Nat))) (go_keep) (fail)
    all_goals go_wp2_with fail
    all_goals go_ret
    all_goals exact ⟨31,by simp,unhide HF _ ((Still.refl _).drew _)⟩
   ·have d4:decide ((M1.limit:Int)<2*(a:Int)+(M1.large:Int))=false:=decide_eq_false (by omega)
    have H121:Hid (∀ W,Still w2 W→Calls Tryz.prog 114 #[.pointer (some ⟨pd,0,none⟩),.int .i64 (a:Nat)] W fun e w'=>e=.returned (.tuple #[])∧ResD pd dt M (a:Nat) w w' 0):=hide (fun W s=>(dbecome_any ((unhide hD).still s.below) a (by omega) (by omega) (by have:=unhide HRZ;have:=unhide HB5;omega)).mono fun e w' ⟨q1,⟨C2,q2⟩,q3⟩=>⟨q1,becM M1 a,.inr ⟨(unhide HA).1,M1,unhide hc,.inr ⟨by rw[(unhide HA).2];omega,rfl,by rw[(unhide HA).2]⟩⟩,dt',C2,by rw[(becM_since M1 a).1,(becM_since M1 a).2,unhide HSN];exact q2,(unhide hF).trans ((Fr.still s).trans q3)⟩)
    clear hc hD hF HA HSN HRZ
    go_wp2_with fail
    go_region_held3 (fun W=>W.cell? ⟨pd,0,none⟩=some (.int .i64 (M1.limit:Nat))∧W.cell? ⟨pd,2,none⟩=some (.int .i64 (M1.used:Nat))∧W.cell? ⟨pd,3,none⟩=some (.int .i64 (M1.large:Nat))) (go_keep) (fail)
    all_goals go_wp2_with fail
    all_goals refine (unhide H121 _ ((Still.refl _).drew _)).mono ?_
    all_goals rintro e w3 ⟨rfl,hR⟩
    all_goals have HR:=hide hR
    all_goals clear hR H121
    all_goals go_wp2_with fail
    all_goals go_ret
    all_goals exact ⟨0,by simp,unhide HR⟩
 ·have HF:Hid (ResD pd dt M A w w 36):=hide ⟨M,.inl ⟨hA,rfl,rfl⟩,dt,C,by rw[← hsn];exact h,Fr.refl w⟩
  by_cases c1:A<64
  ·have d1:decide (A<64)=true:=decide_eq_true c1
   clear h wf hz hA hsn
   go_enter Tryz.func50,Tryz.ntmps50
   go_wp2_with fail
   all_goals go_ret
   all_goals exact ⟨36,by simp,unhide HF⟩
  ·have d1:decide (A<64)=false:=decide_eq_false c1
   have d2:decide ((524288:Int)<A)=true:=decide_eq_true (by omega)
   clear h wf hz hA hsn
   go_enter Tryz.func50,Tryz.ntmps50
   go_wp2_with fail
   all_goals go_ret
   all_goals exact ⟨36,by simp,unhide HF⟩
end Go.Proofs.YtidfllgaeiopjabGreat
