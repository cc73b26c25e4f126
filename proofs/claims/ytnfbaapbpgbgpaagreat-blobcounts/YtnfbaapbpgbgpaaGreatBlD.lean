import Derived.Test.YtnfbaapbpgbgpaaGreatShH
import Derived.Test.YtnfbaapbpgbgpaaGreatPool4
import Derived.Test.YtnfbaapbpgbgpaaGreatByteM
import Derived.Test.YtnfbaapbpgbgpaaGreatBlQ
import Derived.Test.YtnfbaapbpgbgpaaGreatHObj
import Derived.Deep.RegionHeld3
import Derived.Test.YtnfbaapbpgbgpaaGreatAllocM
import Derived.Test.YtnfbaapbpgbgpaaGreatFindM
namespace Go.Proofs.YtnfbaapbpgbgpaaGreat
open Go.ChangeShapes Go.WideShapes Go.ChangeAt Go.RowKit
set_option linter.unusedVariables false
set_option maxRecDepth 100000
set_option maxHeartbeats 1000000
structure Bnd (M:Hp) (n:Nat):Prop where
 o1:1≤M.objs.length
 ob:M.objs.length≤n+1
 cl:M.coll≤10*n
 rz:M.resz≤10*n
 sl:M.slots.length≤n
 rt:M.roots.length≤n
 so:M.slots.length≤M.objs.length
theorem coll_slots {M M':Hp} (h:IsColl M M'):M'.slots.length=M.slots.length:=by
 obtain ⟨t,_,_,_,rfl⟩:=h
 show (slC M _).length=_
 unfold slC
 rw[List.length_map]
theorem becM_resz (M:Hp) (n:Nat):(becM M n).resz≤M.resz+1∧(becM M n).coll=M.coll:=by
 unfold becM
 split
 ·exact ⟨Nat.le_succ _,rfl⟩
 ·exact ⟨Nat.le_refl _,rfl⟩
theorem fitM_resz (M:Hp) (s:Nat):(fitM M s).resz≤M.resz+1∧(fitM M s).coll=M.coll:=by
 unfold fitM
 split
 ·split
  ·exact becM_resz _ _
  ·exact ⟨Nat.le_succ _,rfl⟩
 ·split
  ·exact becM_resz _ _
  ·exact ⟨Nat.le_succ _,rfl⟩
structure Grown (M M1:Hp) (c r s:Nat):Prop where
 cl:M1.coll≤M.coll+c
 rz:M1.resz≤M.resz+r
 sl:M1.slots.length≤M.slots.length+s
 li:M1.limit=M.limit
theorem Grown.refl (M:Hp):Grown M M 0 0 0:=⟨Nat.le_refl _,Nat.le_refl _,Nat.le_refl _,rfl⟩
theorem Grown.fit {M M0:Hp} (h:IsColl M M0) (s:Nat):Grown M (fitM M0 s) 1 1 0:=by
 have q:=h.nums
 have f:=fitM_resz M0 s
 have o:=fitM_objs M0 s
 exact ⟨by rw[f.2,q.2.2.1];exact Nat.le_refl _,by have:=f.1;rw[q.2.2.2.1] at this;exact this,by rw[o.2.2.2.2,coll_slots h];exact Nat.le_refl _,by rw[o.2.2.1,q.1]⟩
theorem Grown.bec {M M1:Hp}{c r s:Nat} (g:Grown M M1 c r s) (n:Nat):Grown M (becM M1 n) c (r+1) s:=by
 have f:=becM_resz M1 n
 have o:=becM_parts M1 n
 exact ⟨by rw[f.2];exact g.cl,by have:=f.1;have:=g.rz;omega,by rw[o.2.2.2.2.1];exact g.sl,by rw[o.2.2.1];exact g.li⟩
theorem Grown.mono {M M1:Hp}{c r s c' r' s':Nat} (g:Grown M M1 c r s) (h1:c≤c') (h2:r≤r') (h3:s≤s'):Grown M M1 c' r' s':=⟨by have:=g.cl;omega,by have:=g.rz;omega,by have:=g.sl;omega,g.li⟩
theorem AllocR.grown {M M':Hp}{k r s v x:Nat} (h:AllocR M k r s M' v x):Grown M M' 1 2 1:=by
 rcases h with ⟨hs,M1,hp,h⟩|⟨hs,M1,hp,h⟩
 ·have g:Grown M M1 1 1 0:=by
   rcases hp with ⟨_,rfl⟩|⟨_,M0,hc,rfl⟩
   ·exact (Grown.refl _).mono (Nat.zero_le _) (Nat.zero_le _) (Nat.zero_le _)
   ·exact .fit hc _
  rcases h with ⟨a,rfl,rfl,rfl⟩|⟨a,rfl,rfl,rfl⟩
  ·exact ⟨g.cl,by have:=g.rz;show M1.resz≤_;omega,by have:=g.sl;show M1.slots.length≤_;omega,g.li⟩
  ·exact g.mono (by omega) (by omega) (by omega)
 ·have g:Grown M M1 1 1 0:=by
   rcases hp with ⟨_,_,rfl⟩|⟨_,M0,hc,rfl⟩
   ·exact (Grown.refl _).mono (Nat.zero_le _) (Nat.zero_le _) (Nat.zero_le _)
   ·exact .fit hc _
  rcases h with ⟨M2,n,a,al,rfl,rfl,rfl⟩|⟨a,rfl,rfl,rfl⟩
  ·have g2:Grown M M2 1 2 0:=by
    rcases a with ⟨_,rfl⟩|⟨_,_,_,_,rfl⟩
    ·exact g.mono (by omega) (by omega) (by omega)
    ·exact g.bec _
   refine ⟨g2.cl,g2.rz,?_,g2.li⟩
   have:=g2.sl
   show (if n<M2.slots.length then M2.slots.set n M2.objs.length else M2.slots ++ [M2.objs.length]).length≤_
   split
   ·rw[List.length_set];omega
   ·rw[List.length_append];show M2.slots.length+1≤_;omega
  ·exact g.mono (by omega) (by omega) (by omega)
set_option linter.unusedSimpArgs false
structure Limbs (ps ph b gN nN cN i:Nat) (dd A hh gg:Int) (vv:Nat) (vr vw:Value) (W:World):Prop where
 c0:W.cell? ⟨ps,0,none⟩=some (.pointer (some ⟨ph,0,none⟩))
 c1:W.cell? ⟨ps,1,none⟩=some (.slice (some ⟨gN,0,none⟩) nN cN)
 m0:W.cell? ⟨b,0,none⟩=some (.int .i64 dd)
 m1:W.cell? ⟨b,1,none⟩=some (.int .i64 A)
 m4:W.cell? ⟨b,4,none⟩=some (.int .i64 hh)
 m5:W.cell? ⟨b,5,none⟩=some (.int .i64 gg)
 m6:W.cell? ⟨b,6,none⟩=some (.int .u64 (vv:Nat))
 n1:W.cell? ⟨gN,i*3+1,none⟩=some vr
 n2:W.cell? ⟨gN,i*3+2,none⟩=some vw
structure LimbW (ps ph b gN nN cN i:Nat) (A:Int) (dv vw:Value) (W:World):Prop where
 c0:W.cell? ⟨ps,0,none⟩=some (.pointer (some ⟨ph,0,none⟩))
 c1:W.cell? ⟨ps,1,none⟩=some (.slice (some ⟨gN,0,none⟩) nN cN)
 m1:W.cell? ⟨b,1,none⟩=some (.int .i64 A)
 m7:W.cell? ⟨b,7,none⟩=some dv
 n2:W.cell? ⟨gN,i*3+2,none⟩=some vw
structure WrI (ga lw:Nat) (L:List Nat) (w5 W:World):Prop where
 os:W.os=w5.os
 tape:W.tape=w5.tape
 output:W.output=w5.output
 size:W.heap.size=w5.heap.size
 blk:∀ g,g≠ga→W.heap[g]?=w5.heap[g]?
 cel:∀ j,j<lw→W.cell? ⟨ga,j,none⟩=some (.int .u64 (L.getD j 0:Nat))∧W.frozen? ⟨ga,j,none⟩=false
 shp:∀ cur t c2,w5.heap[ga]?=some (.cells cur t c2)→∃ cur',W.heap[ga]?=some (.cells cur' t c2)∧cur'.size=cur.size
structure Held (M:Hp) (ns:List (Nat × List Nat × List Nat)) (i:Nat):Prop where
 is:Is M i
 ln:i<ns.length
 dt:ns.getD i (0,[],[])=dat (ob M i)
 nb:numOf M (refW M i)=i
 lt:refW M i<18446744073709551616
structure DataOk (w0:World) (A:Int) (vv:Nat) (da:Option Addr) (dc:Nat) (d:List Nat):Prop where
 a1:-9223372036854775808≤A
 a2:A≤9223372036854775807
 vl:vv<18446744073709551616
 dl:d.length≤140737488355328
 sm:Small d
 by':Bytes w0 da d
 nl:da=none→dc=0
structure LimbS (ps ph b:Nat) (dd A B Cc hh gg:Int) (vv:Nat) (dv vH:Value) (W:World):Prop where
 c0:W.cell? ⟨ps,0,none⟩=some (.pointer (some ⟨ph,0,none⟩))
 c2:W.cell? ⟨ps,2,none⟩=some vH
 bx:Boxed W b dd A B Cc hh gg vv dv
structure MvL where
 K:Int
 A:Int
 B:Int
 C:Int
 H:Int
 G:Int
 V:Nat
 a:Option Addr
 l:List Nat
 c:Nat
structure MvAt (w:World) (b o:Nat) (q:MvL):Prop where
 m0:w.cell? ⟨b,o,none⟩=some (.int .i64 q.K)
 m1:w.cell? ⟨b,o+1,none⟩=some (.int .i64 q.A)
 m2:w.cell? ⟨b,o+2,none⟩=some (.int .i64 q.B)
 m3:w.cell? ⟨b,o+3,none⟩=some (.int .i64 q.C)
 m4:w.cell? ⟨b,o+4,none⟩=some (.int .i64 q.H)
 m5:w.cell? ⟨b,o+5,none⟩=some (.int .i64 q.G)
 m6:w.cell? ⟨b,o+6,none⟩=some (.int .u64 (q.V:Nat))
 m7:w.cell? ⟨b,o+7,none⟩=some (.slice q.a q.l.length q.c)
def whr (M:Hp) (k:Wk) (j:Nat):Nat:=if j∈k.cop∨j∈k.lin then refW M j else 0
def wordsK (M:Hp) (k:Wk):Nat:=1+(k.cop.map fun i=>osz (ob M i)).sum
def largeK (M:Hp) (k:Wk):Nat:=(k.lin.map fun i=>1+osz (ob M i)).sum
structure SeenC where
 vS:Value
 vB:Value
 vW:Value
structure SeenAt (w:World) (b0 px:Nat) (M:Hp) (N:Nat) (k:Wk) (V:SeenC):Prop where
 c0:w.cell? ⟨px,0,none⟩=some V.vS
 c1:w.cell? ⟨px,1,none⟩=some V.vB
 c2:w.cell? ⟨px,2,none⟩=some V.vW
 c3:w.cell? ⟨px,3,none⟩=some (.int .i64 (wordsK M k:Nat))
 c4:w.cell? ⟨px,4,none⟩=some (.int .i64 (largeK M k:Nat))
 fz:∀ i,i<5→w.frozen? ⟨px,i,none⟩=false
 s:Line w 33 V.vS k.cop.length (fun j=>.int .u64 (refW M (k.cop.getD j 0):Nat))
 b:Line w 33 V.vB k.lin.length (fun j=>.int .u64 (refW M (k.lin.getD j 0):Nat))
 h:Line w 33 V.vW N (fun j=>.int .u64 (whr M k j:Nat))
 lo:b0≤px∧∀ g,(V.vS.ownBlock=some g∨V.vB.ownBlock=some g∨V.vW.ownBlock=some g)→b0≤g∧g≠px
 d1:∀ g,V.vS.ownBlock=some g→V.vB.ownBlock≠some g
 d2:∀ g,V.vS.ownBlock=some g→V.vW.ownBlock≠some g
 d3:∀ g,V.vB.ownBlock=some g→V.vW.ownBlock≠some g
theorem words_le {M:Hp}{k:Wk} (ok:HpOk M) (p:Pu M k):wordsK M k≤M.used:=by
 have h:=sum_sub (fun i=>osz (ob M i)) k.cop M.small p.nd.1 p.cs
 rw[ok.us,place_all]
 unfold wordsK
 omega
theorem large_le {M:Hp}{k:Wk} (wf:HpWf M) (p:Pu M k):largeK M k≤M.large:=by
 have h:=sum_sub (fun i=>if i=0 then 0 else 1+osz (ob M i)) k.lin M.slots p.nd.2 (fun x hx=>(p.ls x hx).2)
 have e:(k.lin.map fun i=>1+osz (ob M i))=k.lin.map (fun i=>if i=0 then 0 else 1+osz (ob M i)):=List.map_congr_left fun i hi=>by rw[if_neg (p.ls i hi).1]
 rw[wf.lg]
 unfold largeK lgOf
 rw[e]
 exact h
theorem fin_of {M:Hp} (ok:HpOk M) {t:St} (a1:Star M (stR M M.roots.length) t) (a2:stepW M t=none):Fin' M t.k:=by
 obtain ⟨u,b1,b2,f,_⟩:=walk_done ok M.roots.length (fun x hx=>by rw[List.getD_eq_getElem?_getD,List.getElem?_eq_none hx];rfl)
 rw[star_end a1 a2 b1 b2]
 exact f
theorem Fin'.pu {M:Hp}{k:Wk} (f:Fin' M k):Pu M k:=⟨f.nd,f.cs,f.ls⟩
theorem slots_nodup {M:Hp} (ok:HpOk M):(M.slots.filter fun i=>i != 0).Nodup:=by
 rw[List.Nodup,List.pairwise_filter,List.pairwise_iff_getElem]
 intro i j hi hj hij h1 h2 e
 have e1:M.slots.getD i 0=M.slots[i]:=by rw[List.getD_eq_getElem?_getD,List.getElem?_eq_getElem hi];rfl
 have e2:M.slots.getD j 0=M.slots[j]:=by rw[List.getD_eq_getElem?_getD,List.getElem?_eq_getElem hj];rfl
 have a:=(ok.b1 i (by rw[e1];simpa using h1)).2
 have b:=(ok.b1 j (by rw[e2];simpa using h2)).2
 rw[e1] at a
 rw[e2,← e] at b
 omega
theorem lg_filter (M:Hp):∀ l:List Nat,lgOf M l=((l.filter fun i=>i != 0).map fun i=>1+osz (ob M i)).sum
 | []=>rfl
 | x :: l=>by
  have ih:=lg_filter M l
  unfold lgOf at ih ⊢
  rw[List.map_cons,List.sum_cons,ih]
  by_cases h:x=0
  ·subst h;simp
  ·rw[if_neg h,List.filter_cons_of_pos (by simpa using h),List.map_cons,List.sum_cons]
theorem mem_fil {M:Hp}{k:Wk} (f:Fin' M k) (x:Nat):x∈(slC M k).filter (fun i=>i != 0)↔x∈k.lin:=by
 rw[List.mem_filter]
 unfold slC
 rw[List.mem_map]
 constructor
 ·rintro ⟨⟨y,_,e⟩,h0⟩
  have h0':x≠0:=by simpa using h0
  split at e
  ·rename_i h;rw[← e];exact h
  ·exact absurd e.symm h0'
 ·intro h
  obtain ⟨q0,q1⟩:=f.ls x h
  exact ⟨⟨x,q1,if_pos h⟩,by simpa using q0⟩
theorem large_fin {M:Hp}{k:Wk} (wf:HpWf M) (f:Fin' M k):lgOf M (slC M k)=largeK M k:=by
 have hn:((slC M k).filter fun i=>i != 0).Nodup:=slots_nodup (f.wf wf).ok
 rw[lg_filter]
 unfold largeK
 have h1:=sum_sub (fun i=>1+osz (ob M i)) _ k.lin hn (fun x hx=>(mem_fil f x).1 hx)
 have h2:=sum_sub (fun i=>1+osz (ob M i)) k.lin _ f.nd.2 (fun x hx=>(mem_fil f x).2 hx)
 omega
theorem coll_used (M:Hp) (k:Wk):(collM M k).used=wordsK M k:=place_all M k.cop
theorem fitM_large (M:Hp) (s:Nat):(fitM M s).large=M.large:=by
 unfold fitM becM
 split
 ·split
  ·split <;> rfl
  ·rfl
 ·split
  ·split <;> rfl
  ·rfl
theorem walk_coll {M M0:Hp}{t:St} (a1:Star M (stR M M.roots.length) t) (a2:stepW M t=none) (h:IsColl M M0):M0=collM M t.k:=by
 obtain ⟨u,b1,b2,b3,rfl⟩:=h
 rw[star_end a1 a2 b1 b2]
def RoomK (M:Hp) (k:Wk) (n:Nat):Prop:=(n≤64∧2*(wordsK M k+n)+largeK M k≤M.limit)∨(64<n∧largeK M k+n+1+2*wordsK M k≤M.limit∧largeK M k+n+1+128≤M.limit)
theorem alloc_room {M M':Hp}{k r s v x:Nat} (wf:HpWf M) {t:St} (a1:Star M (stR M M.roots.length) t) (a2:stepW M t=none) (h:AllocR M k r s M' v x):(x=0↔RoomK M t.k (1+r+s))∧(x=0∨x=31):=by
 have f:=fin_of wf.ok a1 a2
 have hw:=words_le wf.ok f.pu
 have hl:=large_le wf f.pu
 have hu2:=wf.ok.u2
 have hlm:=wf.lm
 have hh1:=wf.h1
 have hl2:=wf.l2
 have q1:=coll_used M t.k
 have q2:(collM M t.k).large=largeK M t.k:=large_fin wf f
 have q3:(collM M t.k).half=M.half:=rfl
 have q4:(collM M t.k).limit=M.limit:=rfl
 have wfc:=f.wf wf
 unfold RoomK
 generalize hW:wordsK M t.k=W at *
 generalize hG:largeK M t.k=G at *
 rcases h with ⟨hn,M1,hp,hr⟩|⟨hn,M1,hp,hr⟩
 ·rcases hp with ⟨hp,rfl⟩|⟨hp,M0,hc,rfl⟩
  ·rcases hr with ⟨_,_,rfl,_⟩|⟨hr,_⟩
   ·exact ⟨⟨fun _=>by omega,fun _=>rfl⟩,.inl rfl⟩
   ·omega
  ·obtain rfl:=walk_coll a1 a2 hc
   have e1:=fit_half (collM M t.k) (1+r+s)
   obtain ⟨_,_,_,e2,_⟩:=fitM_objs (collM M t.k) (1+r+s)
   obtain ⟨w1,w2,w3,w4⟩:=wantOf_ok (W+(1+r+s)) (by omega)
   rw[q1,q2,q3,q4] at e1
   rw[e1,e2,q1] at hr
   generalize wantOf (W+(1+r+s))=U at *
   have key:(W+(1+r+s)≤if 3*M.half<4*(W+(1+r+s)) then if M.half<min U ((M.limit-G) / 2) then min U ((M.limit-G) / 2) else M.half else if 64<M.half∧8*(W+(1+r+s))<M.half then U else M.half)↔2*(W+(1+r+s))+G≤M.limit:=by
    split
    ·split <;> omega
    ·split <;> omega
   generalize (if 3*M.half<4*(W+(1+r+s)) then if M.half<min U ((M.limit-G) / 2) then min U ((M.limit-G) / 2) else M.half else if 64<M.half∧8*(W+(1+r+s))<M.half then U else M.half)=Z at *
   rcases hr with ⟨h1,_,rfl,_⟩|⟨h1,_,rfl,_⟩
   ·exact ⟨⟨fun _=>.inl ⟨hn,key.1 h1⟩,fun _=>rfl⟩,.inl rfl⟩
   ·refine ⟨⟨fun h=>by omega,fun h=>?_⟩,.inr rfl⟩
    rcases h with ⟨_,h⟩|⟨h,_⟩
    ·have:=key.2 h;omega
    ·omega
 ·rcases hp with ⟨hp,_,rfl⟩|⟨hp,M0,hc,rfl⟩
  ·rcases hr with ⟨_,_,_,_,_,rfl,_⟩|⟨hr,_⟩
   ·exact ⟨⟨fun _=>by omega,fun _=>rfl⟩,.inl rfl⟩
   ·unfold NoWay at hr;omega
  ·obtain rfl:=walk_coll a1 a2 hc
   have e1:=fit_half (collM M t.k) 0
   obtain ⟨w1,w2,w3,w4⟩:=wantOf_ok (W+0) (by omega)
   rw[q1,q2,q3,q4] at e1
   obtain ⟨_,_,e4,e2,_⟩:=fitM_objs (collM M t.k) 0
   have e3:=fitM_large (collM M t.k) 0
   unfold WayL NoWay at hr
   rw[e2,e3,e4,q1,q2,q4] at hr
   generalize (fitM (collM M t.k) 0).half=Z at *
   generalize wantOf (W+0)=U at *
   have hZ:W≤Z∧64≤Z:=by
    rw[e1]
    split
    ·split <;> omega
    ·split <;> omega
   clear e1
   rcases hr with ⟨M2,n,h1,_,_,rfl,_⟩|⟨h1,_,rfl,_⟩
   ·refine ⟨⟨fun _=>.inr ⟨hn,?_⟩,fun _=>rfl⟩,.inl rfl⟩
    rcases h1 with ⟨h1,_⟩|⟨_,h1,h2,h3,_⟩ <;> omega
   ·refine ⟨⟨fun h=>by omega,fun h=>?_⟩,.inr rfl⟩
    omega
theorem bwords_any {w:World} (n:Nat) (hn:n≤1000000):Calls Tryz.prog 38 #[.int .i64 (n:Nat)] w fun e w'=>e=.returned (.int .i64 (Larder.wn n:Nat))∧Still w w':=by
 by_cases h0:n=0
 ·subst h0
  go_enter Tryz.func38,Tryz.ntmps38
  go_wp2_with fail
  go_ret
  exact ⟨rfl,Still.refl _⟩
 ·obtain ⟨m,rfl⟩:∃ m,n=m+1:=⟨n-1,by omega⟩
  obtain ⟨k,hk⟩:∃ k,m / 8=k:=⟨_,rfl⟩
  have e:Larder.wn (m+1)=k+1:=by unfold Larder.wn;omega
  rw[e]
  have c1:(((m+1:Nat)):Int)=(m:Int)+1:=by omega
  have c2:(((k+1:Nat)):Int)=(k:Int)+1:=by omega
  rw[c1,c2]
  have d1:decide ((m:Int)+1<1)=false:=decide_eq_false (by omega)
  have w1:IntKind.i64.wrap ((m:Int)+1-1)=(m:Int):=by rw[show (m:Int)+1-1=(m:Int) by omega];exact wrap_small _ (by omega) (by omega)
  have w1':IntKind.i64.wrap (m:Int)=(m:Int):=wrap_small _ (by omega) (by omega)
  have w2:(m:Int).tdiv 8=(k:Int):=by rw[Int.tdiv_eq_ediv_of_nonneg (by omega)];omega
  have w2':(m:Int) / 8=(k:Int):=by omega
  have w3:IntKind.i64.wrap (k:Int)=(k:Int):=wrap_small _ (by omega) (by omega)
  have w4:IntKind.i64.wrap ((k:Int)+1)=(k:Int)+1:=wrap_small _ (by omega) (by omega)
  clear e c1 c2 hk h0 hn
  go_enter Tryz.func38,Tryz.ntmps38
  go_wp2_with fail
  go_ret
  exact ⟨rfl,Still.refl _⟩
theorem blen_blob {w:World}{ph:Nat}{tag:Nat→Nat}{M:Hp}{H:HC} (h:HAt w ph tag M H) (x:Nat) (hx:x<18446744073709551616) {a b L:Nat} (ho:objM M x=(1,a,b,0)) (hg:getM M x 0=(L,0)) (hL:L≤1000000):
  Calls Tryz.prog 17 #[.pointer (some ⟨ph,0,none⟩),.int .u64 (x:Nat)] w fun e w'=>e=.returned (.tuple #[.int .i64 (L:Nat),.int .i64 0])∧Below w.heap.size w w':=by
 have H44:=hobject_any h x hx
 rw[ho] at H44
 have A1:=hide H44
 have A2:Hid (∀ W,Below w.heap.size w W→Calls Tryz.prog 45 #[.pointer (some ⟨ph,0,none⟩),.int .u64 (x:Nat),.int .i64 0] W fun e w'=>e=.returned (.tuple #[.int .u64 (L:Nat),.int .i64 0])∧Below w.heap.size w w'):=hide (fun W k=>by
  have q:=hget_any (h.still k) x hx 0
  rw[hg] at q
  exact q.mono fun e w' ⟨q1,q2⟩=>⟨q1,k.trans (q2.mono k.size)⟩)
 have w1:IntKind.i64.wrap (L:Int)=(L:Int):=wrap_small _ (by omega) (by omega)
 clear H44 h ho hg hL hx
 go_enter Tryz.func17,Tryz.ntmps17
 go_wp2_with fail
 refine (unhide A1).mono ?_
 rintro e w2 ⟨rfl,k2⟩
 have B2:=hide (unhide A2 _ k2)
 clear k2 A1 A2
 go_wp2_with fail
 refine (unhide B2).mono ?_
 rintro e w3 ⟨rfl,k3⟩
 have K3:=hide k3
 clear k3 B2
 go_wp2_with fail
 all_goals go_ret2
 all_goals exact ⟨by simp,unhide K3⟩
theorem bput_yes {w:World}{ph:Nat}{tag:Nat→Nat}{M M2:Hp}{H:HC} (h:HAt w ph tag M H) (x:Nat) (hx:x<18446744073709551616) (L at':Nat) (hL:L≤1000000) (hat:at'≤1000000) (l:List Nat) (a:Option Addr) (cap:Nat) (hB:Bytes w a l) (hs:Small l) (hsp:spanM M x ((8+at':Nat):Int) l.length=0) (hset:setM (setbM M x ((8+at':Nat):Int) l) x 0 L=(M2,0)):
  Calls Tryz.prog 39 #[.pointer (some ⟨ph,0,none⟩),.int .u64 (x:Nat),.int .i64 (L:Nat),.int .i64 (at':Nat),.slice a l.length cap] w fun e w'=>e=.returned (.tuple #[.int .u64 (x:Nat),.int .i64 0])∧∃ H',HAt w' ph tag M2 H'∧Fr tag tag w w':=by
 have H62:=hsetbytesM_any h x hx ((8+at':Nat):Int) (by omega) (by omega) l a cap hB hs
 rw[hsp] at H62
 have c8:(((8+at':Nat)):Int)=8+(at':Int):=by omega
 have A1:Hid (Calls Tryz.prog 62 #[.pointer (some ⟨ph,0,none⟩),.int .u64 (x:Nat),.int .i64 (8+(at':Int)),.slice a l.length cap] w fun e w'=>e=.returned (.int .i64 0)∧∃ H',HAt w' ph tag (setbM M x ((8+at':Nat):Int) l) H'∧Fr tag tag w w'):=hide (by rw[← c8];exact H62)
 have A2:Hid (∀ W H1,HAt W ph tag (setbM M x ((8+at':Nat):Int) l) H1→Fr tag tag w W→Calls Tryz.prog 61 #[.pointer (some ⟨ph,0,none⟩),.int .u64 (x:Nat),.int .i64 0,.int .u64 (L:Nat)] W fun e w'=>e=.returned (.int .i64 0)∧∃ H',HAt w' ph tag M2 H'∧Fr tag tag w w'):=hide (fun W H1 h1 f=>by
  have q:=hset_any h1 x hx 0 L (by omega)
  rw[hset] at q
  exact q.mono fun e w' ⟨q1,H',q2,q3⟩=>⟨q1,H',q2,f.trans q3⟩)
 have w1:IntKind.i64.wrap (8+(at':Int))=8+(at':Int):=wrap_small _ (by omega) (by omega)
 have w2:IntKind.u64.wrap (L:Int)=(L:Int):=by unfold IntKind.wrap;simp [IntKind.bits,IntKind.signed];omega
 clear H62 c8 h hx hL hat hB hs hsp hset
 generalize l.length=N at *
 go_enter Tryz.func39,Tryz.ntmps39
 go_wp2_with fail
 refine (unhide A1).mono ?_
 rintro e w2 ⟨rfl,H1,h1,f1⟩
 have B2:=hide (unhide A2 _ _ h1 f1)
 clear h1 f1 A1 A2
 go_wp2_with fail
 refine (unhide B2).mono ?_
 rintro e w3 ⟨rfl,hR⟩
 have HR:=hide hR
 clear hR B2
 go_wp2_with fail
 all_goals go_ret2
 all_goals exact ⟨rfl,unhide HR⟩
theorem mk_copy {w:World}{x:Addr}{cap:Nat} (l:List Nat) (n:Nat) (hn:n=l.length) (hB:Bytes w (some x) l):∃ w2,(Builtin.copy_ #[22,22] 3 #[.slice (some ⟨w.heap.size,0,none⟩) n n,.slice (some x) n cap]).run Tryz.prog (w.alloc (.cells (madeCells #[.int .u8 0] n) 5))=.ok (goInt n) w2∧(∀ j,j<n→w2.cell? ⟨w.heap.size,j,none⟩=some (.int .u8 (l.getD j 0:Nat)))∧Below w.heap.size w w2∧w2.heap.size=w.heap.size+1:=by
 have HB:=((Below.refl w.heap.size w).alloc (Nat.le_refl _) (.cells (madeCells #[.int .u8 0] n) 5))
 have HG:=(heap_alloc_new w (.cells (madeCells #[.int .u8 0] n) 5))
 have HW:(∀ j v,((List.range n).map fun k=>Value.int .u8 (l.getD k 0:Nat))[j]?=some v→(w.alloc (.cells (madeCells #[.int .u8 0] n) 5)).cell? (x.add j)=some v):=(fun j v hj=>by
  have hjl:j<n:=by
   have:=(List.getElem?_eq_some_iff.1 hj).1
   simpa using this
  rw[List.getElem?_map,List.getElem?_range hjl] at hj
  rcases hB with h|⟨b,off,h,hb,hc⟩
  ·subst h;simp at hn;omega
  ·cases h
   have e:(⟨b,off,none⟩:Addr).add j=⟨b,off+j,none⟩:=by unfold Addr.add;split <;> simp_all
   rw[e,HB.cell (p:=⟨b,off+j,none⟩) hb,hc j (by omega)]
   exact hj)
 obtain ⟨i0,hi,hy0,hy1,hy2⟩:=info_parts Tryz.info5'
 obtain ⟨cs,hcs⟩:∃ cs,cs=(List.range n).map fun k=>Value.int .u8 (l.getD k 0:Nat):=⟨_,rfl⟩
 have hlen:cs.length=n:=by rw[hcs];simp
 rw[← hcs] at HW
 have hcp:=run_copy_row (P:=Tryz.prog) (w.alloc (.cells (madeCells #[.int .u8 0] n) 5)) 22 22 3 5 w.heap.size 0 n n x n cap (madeCells #[.int .u8 0] n) 5 cs Tryz.underlying22 (by rw[hi];simp [hy1]) HG (by rw[hlen];show n=min _ _;omega) HW (by rw[hlen];simp [madeCells]) (fun v hv=>by rw[hcs] at hv;obtain ⟨k,_,rfl⟩:=List.mem_map.1 hv;rfl)
 rw[hlen] at hcp
 refine ⟨_,hcp,(fun j hj=>?_),below_setRow HB (Nat.le_refl _) _,by simp [World.setRow]⟩
 have hrow:=setRow_heap (w.alloc (.cells (madeCells #[.int .u8 0] n) 5)) w.heap.size _ ((madeCells #[.int .u8 0] n).toList.take 0++cs++(madeCells #[.int .u8 0] n).toList.drop (0+n)).toArray 5 (0,0) HG
 simp only[World.cell?,hrow]
 rw[List.take_zero,List.nil_append]
 simp [List.getElem?_append,hj,hcs]
theorem btake_some {w:World}{ph:Nat}{tag:Nat→Nat}{M:Hp}{H:HC} (h:HAt w ph tag M H) (x:Nat) (hx:x<18446744073709551616) (from' n:Nat) (hf:from'≤1000000) (hn:n≤1000000) (hsp:spanM M x ((8+from':Nat):Int) (n:Nat)=0):
  Calls Tryz.prog 43 #[.pointer (some ⟨ph,0,none⟩),.int .u64 (x:Nat),.int .i64 (from':Nat),.int .i64 (n:Nat)] w fun e w'=>∃ g,e=.returned (.tuple #[.slice (some ⟨g,0,none⟩) n n,.int .i64 0])∧w.heap.size≤g∧Bytes w' (some ⟨g,0,none⟩) (mapF n fun i=>(bytM M (numOf M x)).getD (8+from'+i) 0)∧Below w.heap.size w w':=by
 have c8:(((8+from':Nat)):Int)=8+(from':Int):=by omega
 have H77:=hbytesM_yes h x hx (8+from') n hsp
 have A1:Hid (Calls Tryz.prog 77 #[.pointer (some ⟨ph,0,none⟩),.int .u64 (x:Nat),.int .i64 (8+(from':Int)),.int .i64 (n:Nat)] w fun e w'=>∃ a cap,e=.returned (.tuple #[.slice a n cap,.int .i64 0])∧Bytes w' a (mapF n fun i=>(bytM M (numOf M x)).getD (8+from'+i) 0)∧Below w.heap.size w w'):=hide (by
  rw[← c8]
  exact H77.mono fun e w' ⟨a,cap,q1,q2,q3,q4⟩=>⟨a,cap,q1,q2.bytes,q4⟩)
 have w1:IntKind.i64.wrap (8+(from':Int))=8+(from':Int):=wrap_small _ (by omega) (by omega)
 have m1:=fun w'=>run_make_row' (P:=Tryz.prog) 22 5 (.int .u8 0) 1 Tryz.underlying22 Tryz.info5' rfl .i64 .i64 n (by omega) (by omega) w'
 obtain ⟨L,hL⟩:∃ L,(mapF n fun i=>(bytM M (numOf M x)).getD (8+from'+i) 0)=L:=⟨_,rfl⟩
 have hLn:n=L.length:=by rw[← hL,mapF_length]
 rw[hL] at A1 ⊢
 have HLn:=hide hLn
 clear H77 c8 h hx hf hn hsp hL hLn
 go_enter Tryz.func43,Tryz.ntmps43
 go_wp2_with fail
 refine (unhide A1).mono ?_
 rintro e w2 ⟨a,cap,rfl,hb2,k2⟩
 have fin:∀ w3,(∀ j,j<n→w3.cell? ⟨w2.heap.size,j,none⟩=some (.int .u8 (L.getD j 0:Nat)))→Below w2.heap.size w2 w3→w3.heap.size=w2.heap.size+1→(w.heap.size≤w2.heap.size∧Bytes w3 (some ⟨w2.heap.size,0,none⟩) L∧Below w.heap.size w w3):=fun w3 hc k3 hs=>⟨k2.size,.inr ⟨w2.heap.size,0,rfl,by omega,fun i hi=>by rw[Nat.zero_add];exact hc i (by rw[unhide HLn];exact hi)⟩,k2.trans (k3.mono k2.size)⟩
 cases a with
 | some y=>
  obtain ⟨w3,hcp,hc,k3,hs⟩:=mk_copy (cap:=cap) L n (unhide HLn) hb2
  have FIN:=hide (fin w3 hc k3 hs)
  clear fin hc k3 hs hb2 k2 A1 HLn
  go_wp2
  all_goals go_ret2
  all_goals exact ⟨_,rfl,unhide FIN⟩
 | none=>
  have h0:n=0:=by
   rcases hb2 with z|⟨_,_,z,_⟩
   ·rw[unhide HLn,z];rfl
   ·cases z
  have kx:Below w2.heap.size w2 (w2.alloc (.cells (madeCells #[.int .u8 0] n) 5)):=(Below.refl _ _).alloc (Nat.le_refl _) _
  have FIN:=hide (fin (w2.alloc (.cells (madeCells #[.int .u8 0] n) 5)) (fun j hj=>absurd hj (by omega)) kx (by simp))
  have hcp:=fun w'=>run_copy_none (P:=Tryz.prog) w' 22 22 3 5 (some ⟨w2.heap.size,0,none⟩) none n n n cap Tryz.underlying22 (by kernel_rfl) (by rw[h0];rfl)
  clear h0
  clear fin kx hb2 k2 A1 HLn
  go_wp2
  all_goals go_ret2
  all_goals exact ⟨_,rfl,unhide FIN⟩
theorem bread_blob {w:World}{ph:Nat}{tag:Nat→Nat}{M:Hp}{H:HC} (h:HAt w ph tag M H) (x:Nat) (hx:x<18446744073709551616) {a b L:Nat} (ho:objM M x=(1,a,b,0)) (hg:getM M x 0=(L,0)) (hL:L≤1000000) (hsp:spanM M x ((8+0:Nat):Int) (L:Nat)=0):
  Calls Tryz.prog 16 #[.pointer (some ⟨ph,0,none⟩),.int .u64 (x:Nat)] w fun e w'=>∃ g,e=.returned (.tuple #[.slice (some ⟨g,0,none⟩) L L,.int .i64 0])∧w.heap.size≤g∧Bytes w' (some ⟨g,0,none⟩) (mapF L fun i=>(bytM M (numOf M x)).getD (8+i) 0)∧Below w.heap.size w w':=by
 have A1:=hide (blen_blob h x hx ho hg hL)
 have A2:Hid (∀ W,Below w.heap.size w W→Calls Tryz.prog 43 #[.pointer (some ⟨ph,0,none⟩),.int .u64 (x:Nat),.int .i64 0,.int .i64 (L:Nat)] W fun e w'=>∃ g,e=.returned (.tuple #[.slice (some ⟨g,0,none⟩) L L,.int .i64 0])∧w.heap.size≤g∧Bytes w' (some ⟨g,0,none⟩) (mapF L fun i=>(bytM M (numOf M x)).getD (8+i) 0)∧Below w.heap.size w w'):=hide (fun W k=>by
  exact (btake_some (h.still k) x hx 0 L (by omega) hL hsp).mono fun e w' ⟨g,q1,q2,q3,q4⟩=>⟨g,q1,Nat.le_trans k.size q2,q3,k.trans (q4.mono k.size)⟩)
 clear h hx ho hg hL hsp
 generalize (mapF L fun i=>(bytM M (numOf M x)).getD (8+i) 0)=LL at *
 go_enter Tryz.func16,Tryz.ntmps16
 go_wp2_with fail
 refine (unhide A1).mono ?_
 rintro e w2 ⟨rfl,k2⟩
 have B2:=hide (unhide A2 _ k2)
 clear k2 A1 A2
 go_wp2_with fail
 refine (unhide B2).mono ?_
 rintro e w3 ⟨g,rfl,hR⟩
 have HR:=hide hR
 clear hR B2
 go_wp2_with fail
 all_goals go_ret2
 all_goals exact ⟨g,rfl,unhide HR⟩
def LayR (M:Hp) (l:List Nat) (M':Hp) (v x:Nat):Prop:=∃ M1,HpWf M1∧AllocR M 1 0 (1+Larder.wn l.length) M1 v x∧((x≠0∧M'=M1)∨(x=0∧M'=(setM (setbM M1 v 8 l) v 0 l.length).1))
theorem blay_walk {w:World}{ph:Nat}{l:List Nat}{a:Option Addr}{cap:Nat} (hl:l.length≤1000000) {G:Nat→Nat→World→Prop}{R:Nat→Nat→World→Prop}
  (H36:∀ W,Still w W→Calls Tryz.prog 36 #[.pointer (some ⟨ph,0,none⟩),.int .i64 1,.int .i64 0,.int .i64 ((1+Larder.wn l.length:Nat):Int)] W fun e w'=>∃ v x:Nat,e=.returned (.tuple #[.int .u64 (v:Nat),.int .i64 (x:Nat)])∧(x≠0→R 0 x w')∧(x=0→G v x w'))
  (H39:∀ W v x,G v x W→Calls Tryz.prog 39 #[.pointer (some ⟨ph,0,none⟩),.int .u64 (v:Nat),.int .i64 (l.length:Nat),.int .i64 0,.slice a l.length cap] W fun e w'=>e=.returned (.tuple #[.int .u64 (v:Nat),.int .i64 0])∧R v 0 w'):
  Calls Tryz.prog 59 #[.pointer (some ⟨ph,0,none⟩),.slice a l.length cap] w fun e w'=>∃ v x:Nat,e=.returned (.tuple #[.int .u64 (v:Nat),.int .i64 (x:Nat)])∧R v x w':=by
 have A0:=hide (fun W=>bwords_any (w:=W) l.length hl)
 obtain ⟨k,hk⟩:∃ k,Larder.wn l.length=k:=⟨_,rfl⟩
 rw[hk] at A0 H36
 have hk2:k≤1000000:=by rw[← hk];unfold Larder.wn;omega
 have c1:(((1+k:Nat)):Int)=1+(k:Int):=by omega
 rw[c1] at H36
 have A1:=hide H36
 have A2:=hide H39
 have w1:IntKind.i64.wrap (1+(k:Int))=1+(k:Int):=wrap_small _ (by omega) (by omega)
 clear H36 H39 hl hk hk2 c1
 generalize l.length=N at *
 go_enter Tryz.func59,Tryz.ntmps59
 go_wp2_with fail
 refine (unhide A0 _).mono ?_
 rintro e w2 ⟨rfl,k2⟩
 have B1:=hide (unhide A1 _ k2)
 clear k2 A0 A1
 go_wp2_with fail
 refine (unhide B1).mono ?_
 rintro e w3 ⟨v,x,rfl,hno,hyes⟩
 by_cases h0:x=0
 ·subst h0
  have B2:=hide (unhide A2 _ _ _ (hyes rfl))
  clear hno hyes A2 B1
  go_wp2_with fail
  refine (unhide B2).mono ?_
  rintro e w4 ⟨rfl,hR⟩
  have HR:=hide hR
  clear hR B2
  go_wp2_with fail
  all_goals go_ret2
  all_goals exact ⟨v,0,rfl,unhide HR⟩
 ·have HR:=hide (hno h0)
  have d1:((x:Int) != 0)=true:=by simp [h0]
  have d2:((x:Int)=0)=False:=by simp [h0]
  clear hno hyes A2 B1 h0
  go_wp2_with fail
  all_goals go_ret2
  all_goals exact ⟨0,x,rfl,unhide HR⟩
theorem num_put {M:Hp}{n:Nat}{o:Ob} (s:SameO (ob M n) o) (x:Nat):numOf (putO M n o) x=numOf M x:=by
 unfold numOf
 rw[show (putO M n o).small=M.small from rfl,put_shapes s]
 rfl
theorem layO_same (M:Hp) (i f:Nat) (l:List Nat):SameO (ob M i) (layO M i f l):=by
 refine ⟨rfl,rfl,?_,rfl,rfl⟩
 show (Larder.packL (patch (bytM M i) f l)).length=_
 rw[Larder.packL_length,patch_length]
 unfold bytM
 rw[Larder.unpackL_length]
 unfold Larder.wn
 omega
theorem gr_self (M:Hp):Gr M (M.objs.map dat):=by
 refine ⟨by rw[List.length_map],fun i hi=>?_⟩
 unfold ob
 rw[List.getD_eq_getElem?_getD,List.getD_eq_getElem?_getD,List.getElem?_map]
 cases M.objs[i]? with
 | none=>rfl
 | some o=>rfl
theorem alloc_laid {M M':Hp}{k r s v:Nat} (wf:HpWf M) (wf':HpWf M') (h1:1≤M.objs.length) (h:AllocR M k r s M' v 0):numOf M' v=M.objs.length∧v<18446744073709551616∧Is M' M.objs.length∧dat (ob M' M.objs.length)=(k,List.replicate r 0,List.replicate s 0)∧M'.roots=M.roots∧M'.objs.length=M.objs.length+1:=by
 obtain ⟨hr,q⟩:=AllocR.gr wf h1 h
 rcases q with ⟨_,e1,e2,e3,e4⟩|⟨q,_⟩
 ·have g:=e4 _ (gr_self M)
  have nb:=num_back wf'.ok e3
  rw[e2] at nb
  refine ⟨nb.1,nb.2.1,e3,?_,hr,e1⟩
  rw[← g.dt _ e3,List.getD_eq_getElem?_getD,List.getElem?_append_right (by rw[List.length_map];exact Nat.le_refl _),List.length_map,Nat.sub_self]
  rfl
 ·cases q
theorem lay_fits {M M1:Hp}{l:List Nat}{v:Nat} (wf:HpWf M) (wf1:HpWf M1) (h1:1≤M.objs.length) (a:AllocR M 1 0 (1+Larder.wn l.length) M1 v 0):
  spanM M1 v 8 l.length=0∧setM (setbM M1 v 8 l) v 0 l.length=(putO (putO M1 M.objs.length (layO M1 M.objs.length 8 l)) M.objs.length { ob M1 M.objs.length with raws:=(layO M1 M.objs.length 8 l).raws.set 0 l.length },0):=by
 obtain ⟨n1,_,n3,n4,_,n6⟩:=alloc_laid wf wf1 h1 a
 obtain ⟨n,hn⟩:∃ n,M.objs.length=n:=⟨_,rfl⟩
 rw[hn] at n1 n3 n4 n6 h1 ⊢
 have k1:(ob M1 n).kind=1:=congrArg Prod.fst n4
 have k2:(ob M1 n).refs=[]:=congrArg (fun q=>q.2.1) n4
 have k3:(ob M1 n).raws=List.replicate (1+Larder.wn l.length) 0:=congrArg (fun q=>q.2.2) n4
 have hlen:(ob M1 n).raws.length=1+Larder.wn l.length:=by rw[k3,List.length_replicate]
 have hw:l.length≤8*Larder.wn l.length:=by unfold Larder.wn;omega
 have hs:spanM M1 v 8 l.length=0:=by
  unfold spanM
  rw[n1,if_neg (by omega),hlen,if_pos ⟨by decide,by omega,by omega⟩]
 refine ⟨hs,?_⟩
 have e1:setbM M1 v 8 l=putO M1 n (layO M1 n 8 l):=by
  unfold setbM
  rw[if_pos hs,n1]
  rfl
 have s1:=layO_same M1 n 8 l
 rw[e1]
 unfold setM
 rw[num_put s1,n1,if_neg (by omega)]
 have eo:ob (putO M1 n (layO M1 n 8 l)) n=layO M1 n 8 l:=by rw[ob_put,if_pos ⟨rfl,by omega⟩]
 rw[eo]
 have er:(layO M1 n 8 l).refs=[]:=k2
 have hw1:(layO M1 n 8 l).raws.length=1+Larder.wn l.length:=by rw[s1.wl,hlen]
 have hf:(fldM (putO M1 n (layO M1 n 8 l)) n).length=1+Larder.wn l.length:=by
  unfold fldM
  rw[eo,er,List.map_nil,List.nil_append,hw1]
 rw[er,if_neg (by simp),hf,if_pos ⟨by decide,by omega⟩]
 unfold setO
 rw[eo,er,if_neg (by simp)]
 rfl
theorem blay_any {w:World}{ph:Nat}{tag:Nat→Nat}{M:Hp}{H:HC} (h:HAt w ph tag M H) (ho1:1≤M.objs.length) (hc:M.coll≤1000000000000) (hr:M.resz≤900000000000) (hsl:M.slots.length≤20000) (l:List Nat) (hl:l.length≤100000) (hs:Small l) (a:Option Addr) (cap:Nat) (hB:Bytes w a l) (hfr:l≠[]→∀ b off,a=some ⟨b,off,none⟩→tag b=0):
  Calls Tryz.prog 59 #[.pointer (some ⟨ph,0,none⟩),.slice a l.length cap] w fun e w'=>∃ v x:Nat,e=.returned (.tuple #[.int .u64 (v:Nat),.int .i64 (x:Nat)])∧∃ tag' H' M',LayR M l M' v x∧Fr tag tag' w w'∧HAt w' ph tag' M' H':=by
 have hwn:Larder.wn l.length≤100000:=by unfold Larder.wn;omega
 refine blay_walk (by omega)
  (G:=fun v x W=>x=0∧∃ tag1 H1 M1,AllocR M 1 0 (1+Larder.wn l.length) M1 v x∧Fr tag tag1 w W∧HAt W ph tag1 M1 H1) (fun W k=>?_) (fun W v x g=>?_)
 ·have h':=h.still k.below
  refine (halloc_any h' ho1 hc hr hsl 1 0 (1+Larder.wn l.length) ⟨by decide,by decide,by decide,by decide,by omega,by omega⟩).mono ?_
  rintro e w' ⟨tag',H',M',v,x,al,f,rfl,he⟩
  have f':Fr tag tag' w w':=(Fr.of_below k.below).trans f
  refine ⟨v,x,rfl,fun hx=>⟨tag',H',M',⟨M',he.wf,?_,.inl ⟨hx,rfl⟩⟩,f',he⟩,fun hx=>⟨hx,tag',H',M',al,f',he⟩⟩
  have v0:v=0:=by
   rcases (AllocR.gr h.wf ho1 al).2 with ⟨z,_⟩|⟨_,z,_⟩
   ·exact absurd z hx
   ·exact z
  rw[v0] at al
  exact al
 ·obtain ⟨rfl,tag1,H1,M1,al,f,he⟩:=g
  obtain ⟨hsp,hset⟩:=lay_fits h.wf he.wf ho1 al
  have hv:=(alloc_laid h.wf he.wf ho1 al).2.1
  have hB':Bytes W a l:=by
   rcases hB with z|⟨b,off,rfl,hlt,hcc⟩
   ·exact .inl z
   ·exact .inr ⟨b,off,rfl,Nat.lt_of_lt_of_le hlt f.size,fun i hi=>(cell_like (f.blk b hlt (hfr (fun q=>by rw[q] at hi;exact absurd hi (Nat.not_lt_zero _)) b off rfl)).1 _).trans (hcc i hi)⟩
  refine (bput_yes he v hv l.length 0 (by omega) (by omega) l a cap hB' hs hsp hset).mono ?_
  rintro e w' ⟨rfl,H',q1,q2⟩
  refine ⟨rfl,tag1,H',_,⟨M1,he.wf,al,.inr ⟨rfl,?_⟩⟩,f.trans q2,q1⟩
  rw[hset]
def blobW (l:List Nat):List Nat:=l.length :: Larder.packL l
def IsBlob (M:Hp) (i:Nat) (l:List Nat):Prop:=Is M i∧dat (ob M i)=(1,[],blobW l)
theorem get_of_getD {l:List Nat}{j:Nat} (h:j<l.length):l[j]?=some (l.getD j 0):=by
 rw[List.getD_eq_getElem?_getD,List.getElem?_eq_getElem h];rfl
theorem zeros_byte (s i:Nat) (hi:i<8*s):(Larder.unpackL (List.replicate s 0) (8*s)).getD i 0=0:=by
 rw[Larder.unpackL_get _ _ _ hi,List.getD_eq_getElem?_getD,List.getElem?_replicate]
 split <;> simp
theorem blob_raws {l:List Nat} (hs:Small l):(Larder.packL (patch (Larder.unpackL (List.replicate (1+Larder.wn l.length) 0) (8*(1+Larder.wn l.length))) 8 l)).set 0 l.length=blobW l:=by
 obtain ⟨X,hX⟩:∃ X,patch (Larder.unpackL (List.replicate (1+Larder.wn l.length) 0) (8*(1+Larder.wn l.length))) 8 l=X:=⟨_,rfl⟩
 have hXs:Larder.SmallL X:=by rw[← hX];exact patch_below 256 _ 8 l (Larder.unpackL_small _ _) hs
 have hXl:X.length=8*(1+Larder.wn l.length):=by rw[← hX,patch_length,Larder.unpackL_length]
 have hwn:Larder.wn X.length=1+Larder.wn l.length:=by rw[hXl];unfold Larder.wn;omega
 have hpl:(Larder.packL X).length=1+Larder.wn l.length:=by rw[Larder.packL_length,hwn]
 have hle:l.length≤8*Larder.wn l.length:=by unfold Larder.wn;omega
 have key:∀ j,j<Larder.wn l.length→(Larder.packL X).getD (j+1) 0=(Larder.packL l).getD j 0:=fun j hj=>by
  rw[Larder.packL_get _ _ (by rw[hwn];omega),Larder.packL_get _ _ hj]
  refine by_bytes _ _ (Larder.wordAt_lt (Larder.small_mem hXs) _) (Larder.wordAt_lt (Larder.small_mem hs) _) (fun r hr=>?_)
  rw[wordAt_byte X hXs _ r hr,wordAt_byte l hs _ r hr,← hX,patch_at _ _ _ _ (by rw[Larder.unpackL_length];omega)]
  by_cases q:8*j+r<l.length
  ·rw[if_pos ⟨by omega,by omega⟩]
   congr 1
   omega
  ·rw[if_neg (by omega),zeros_byte _ _ (by omega),List.getD_eq_getElem?_getD,List.getElem?_eq_none (by omega)]
   rfl
 rw[hX]
 refine List.ext_getElem? fun j=>?_
 unfold blobW
 cases j with
 | zero=>rw[List.getElem?_set,if_pos rfl,if_pos (by rw[hpl];omega)];rfl
 | succ j=>
  rw[List.getElem?_set,if_neg (by omega)]
  show _=(Larder.packL l)[j]?
  by_cases q:j<Larder.wn l.length
  ·rw[get_of_getD (by rw[hpl];omega),get_of_getD (by rw[Larder.packL_length];exact q),key j q]
  ·rw[List.getElem?_eq_none (by rw[hpl];omega),List.getElem?_eq_none (by rw[Larder.packL_length];omega)]
theorem blobW_length (l:List Nat):(blobW l).length=1+Larder.wn l.length:=by
 unfold blobW
 rw[List.length_cons,Larder.packL_length]
 omega
theorem blobW_byte {l:List Nat} (hs:Small l) (i:Nat) (hi:i<l.length):(Larder.unpackL (blobW l) (8*(blobW l).length)).getD (8+i) 0=l.getD i 0:=by
 have hle:l.length≤8*Larder.wn l.length:=by unfold Larder.wn;omega
 rw[Larder.unpackL_get _ _ _ (by rw[blobW_length];omega)]
 have e1:(8+i) / 8=i / 8+1:=by omega
 have e2:(8+i)%8=i%8:=by omega
 rw[e1,e2]
 show (Larder.packL l).getD (i / 8) 0 / 2 ^ (8*(i%8))%256=_
 rw[Larder.packL_get _ _ (by unfold Larder.wn;omega),wordAt_byte l hs _ _ (by omega)]
 congr 1
 omega
theorem lay_blob {M M':Hp}{l:List Nat}{v:Nat} (wf:HpWf M) (h1:1≤M.objs.length) (hs:Small l) {M1:Hp} (wf1:HpWf M1) (a:AllocR M 1 0 (1+Larder.wn l.length) M1 v 0) (e:M'=(setM (setbM M1 v 8 l) v 0 l.length).1):
  numOf M' v=M.objs.length∧v<18446744073709551616∧IsBlob M' M.objs.length l∧M'.roots=M.roots∧M'.objs.length=M.objs.length+1:=by
 obtain ⟨hsp,hset⟩:=lay_fits wf wf1 h1 a
 obtain ⟨n1,n2,n3,n4,n5,n6⟩:=alloc_laid wf wf1 h1 a
 rw[hset] at e
 obtain ⟨n,hn⟩:∃ n,M.objs.length=n:=⟨_,rfl⟩
 rw[hn] at n1 n3 n4 n6 h1 e ⊢
 have k1:(ob M1 n).kind=1:=congrArg Prod.fst n4
 have k2:(ob M1 n).refs=[]:=congrArg (fun q=>q.2.1) n4
 have k3:(ob M1 n).raws=List.replicate (1+Larder.wn l.length) 0:=congrArg (fun q=>q.2.2) n4
 have s1:=layO_same M1 n 8 l
 have el:(putO M1 n (layO M1 n 8 l)).objs.length=n+1:=by
  show (M1.objs.set n _).length=_
  rw[List.length_set];exact n6
 have eo:ob (putO M1 n (layO M1 n 8 l)) n=layO M1 n 8 l:=by rw[ob_put,if_pos ⟨rfl,by omega⟩]
 have s2:SameO (ob (putO M1 n (layO M1 n 8 l)) n) { ob M1 n with raws:=(layO M1 n 8 l).raws.set 0 l.length }:=by
  rw[eo]
  exact ⟨rfl,rfl,by rw[List.length_set],rfl,rfl⟩
 have eM:ob M' n = { ob M1 n with raws:=(layO M1 n 8 l).raws.set 0 l.length }:=by
  rw[e]
  show ob (putO (putO M1 n (layO M1 n 8 l)) n _) n=_
  rw[ob_put,if_pos ⟨rfl,by omega⟩]
 refine ⟨?_,n2,⟨?_,?_⟩,?_,?_⟩
 ·rw[e]
  show numOf (putO (putO M1 n (layO M1 n 8 l)) n _) v=n
  rw[num_put s2,num_put s1,n1]
 ·rw[e]
  exact n3
 ·unfold dat
  rw[eM]
  show ((ob M1 n).kind,(ob M1 n).refs,(layO M1 n 8 l).raws.set 0 l.length)=_
  rw[k1,k2]
  show (1,[],(Larder.packL (patch (Larder.unpackL (ob M1 n).raws (8*(ob M1 n).raws.length)) 8 l)).set 0 l.length)=_
  rw[k3,List.length_replicate,blob_raws hs]
 ·rw[e];exact n5
 ·rw[e]
  show ((M1.objs.set n _).set n _).length=_
  rw[List.length_set,List.length_set];exact n6
theorem blob_reads {M:Hp}{x i:Nat}{l:List Nat} (hn:numOf M x=i) (h0:i≠0) (hb:IsBlob M i l) (hs:Small l):objM M x=(1,0,1+Larder.wn l.length,0)∧getM M x 0=(l.length,0)∧(∀ f n:Nat,f+n≤l.length→spanM M x ((8+f:Nat):Int) (n:Nat)=0)∧∀ j,j<l.length→(bytM M (numOf M x)).getD (8+j) 0=l.getD j 0:=by
 obtain ⟨his,hd⟩:=hb
 have k1:(ob M i).kind=1:=congrArg Prod.fst hd
 have k2:(ob M i).refs=[]:=congrArg (fun q=>q.2.1) hd
 have k3:(ob M i).raws=blobW l:=congrArg (fun q=>q.2.2) hd
 have hle:l.length≤8*Larder.wn l.length:=by unfold Larder.wn;omega
 refine ⟨?_,?_,fun f n hf=>?_,fun j hj=>?_⟩
 ·unfold objM
  rw[hn,if_neg h0,k1,k2,k3,blobW_length]
  rfl
 ·unfold getM fldM
  rw[hn,if_neg h0,k2,k3,List.map_nil,List.nil_append,blobW_length,if_pos ⟨by decide,by omega⟩]
  rfl
 ·unfold spanM
  rw[hn,if_neg h0,k3,blobW_length,if_pos ⟨by omega,by omega,by omega⟩]
 ·unfold bytM
  rw[hn,k3]
  exact blobW_byte hs j hj
end Go.Proofs.YtnfbaapbpgbgpaaGreat
