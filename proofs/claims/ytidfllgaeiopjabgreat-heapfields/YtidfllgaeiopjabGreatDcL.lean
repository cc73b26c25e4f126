import Derived.Test.YtidfllgaeiopjabGreatDcD
import Derived.Test.YtidfllgaeiopjabGreatLkF
import Derived.Test.YtidfllgaeiopjabGreatLargeM
import Derived.Test.YtidfllgaeiopjabGreatPool3
import Derived.Test.YtidfllgaeiopjabGreatBecome
namespace Go.Proofs.YtidfllgaeiopjabGreat
open Go.ChangeShapes Go.WideShapes Go.ChangeAt Go.RowKit
set_option linter.unusedVariables false
set_option linter.unusedSimpArgs false
set_option maxRecDepth 100000
set_option maxHeartbeats 1000000
structure Dta (M:Hp):Prop where
 z:ob M 0=ob0
 kd:∀ i,(ob M i).kind≤255
 ww:∀ i,W64 (ob M i).raws
theorem W64.nil:W64 []:=fun i=>by rw[List.getD_nil];decide
theorem Dta.like {M M':Hp} (d:Dta M) (h:M'.objs=M.objs):Dta M':=by
 have e:∀ i,ob M' i=ob M i:=fun i=>by unfold ob;rw[h]
 exact ⟨(e 0).trans d.z,fun i=>by rw[e];exact d.kd i,fun i=>by rw[e];exact d.ww i⟩
theorem Dta.coll {M M':Hp} (wf:HpWf M) (d:Dta M) (h:IsColl M M'):Dta M':=by
 obtain ⟨t,_,_,f,rfl⟩:=h
 have e:∀ i,ob (collM M t.k) i=ob0∨((ob (collM M t.k) i).kind=(ob M i).kind∧(ob (collM M t.k) i).raws=(ob M i).raws∧i≠0):=fun i=>by
  by_cases hi:i<M.objs.length
  ·rw[ob_coll M t.k i hi]
   unfold obC
   split
   ·rename_i hc
    exact .inr ⟨rfl,rfl,(wf.ok.s1 i (f.cs i hc)).1⟩
   ·split
    ·rename_i hc
     exact .inr ⟨rfl,rfl,(f.ls i hc).1⟩
    ·exact .inl rfl
  ·refine .inl ?_
   show ((List.range M.objs.length).map (obC M t.k)).getD i ob0=_
   rw[List.getD_eq_getElem?_getD,List.getElem?_eq_none (by rw[List.length_map,List.length_range];omega)]
   rfl
 refine ⟨?_,fun i=>?_,fun i=>?_⟩
 ·rcases e 0 with q|q
  ·exact q
  ·exact absurd rfl q.2.2
 ·rcases e i with q|q
  ·rw[q];exact Nat.zero_le _
  ·rw[q.1];exact d.kd i
 ·rcases e i with q|q
  ·rw[q];exact W64.nil
  ·rw[q.2.1];exact d.ww i
theorem Dta.fit {M:Hp} (d:Dta M) (s:Nat):Dta (fitM M s):=d.like (fitM_objs M s).1
theorem Dta.bec {M:Hp} (d:Dta M) (n:Nat):Dta (becM M n):=d.like (becM_parts M n).1
theorem Dta.add {M M':Hp} (d:Dta M) (h1:1≤M.objs.length) {k r s a:Nat}{b:Bool} (hk:k≤255) (h:M'.objs=M.objs ++ [newOb k r s b a]):Dta M':=by
 have e:∀ i,ob M' i=ob M i∨ob M' i=newOb k r s b a:=fun i=>by
  by_cases hi:i<M.objs.length
  ·exact .inl (ob_old h hi)
  ·by_cases h2:i=M.objs.length
   ·rw[h2];exact .inr (ob_new h)
   ·refine .inl ?_
    unfold ob
    rw[h,List.getD_eq_getElem?_getD,List.getElem?_eq_none (by rw[List.length_append];show M.objs.length+1≤i;omega),List.getD_eq_getElem?_getD,List.getElem?_eq_none (by omega)]
 refine ⟨(ob_old h (by omega)).trans d.z,fun i=>?_,fun i=>?_⟩
 ·rcases e i with q|q
  ·rw[q];exact d.kd i
  ·rw[q];exact hk
 ·rcases e i with q|q
  ·rw[q];exact d.ww i
  ·rw[q]
   intro j
   show (List.replicate s 0).getD j 0<_
   rw[List.getD_eq_getElem?_getD]
   by_cases hj:j<s
   ·rw[List.getElem?_replicate,if_pos hj];decide
   ·rw[List.getElem?_eq_none (by rw[List.length_replicate];omega)];decide
theorem Dta.put {M:Hp} (d:Dta M) {n:Nat} (hn:n≠0) {o:Ob} (hk:o.kind=(ob M n).kind) (hw:W64 o.raws):Dta (putO M n o):=by
 refine ⟨?_,fun i=>?_,fun i=>?_⟩
 ·rw[ob_put,if_neg (fun q=>hn q.1.symm)];exact d.z
 ·rw[ob_put]
  split
  ·rw[hk];exact d.kd n
  ·exact d.kd i
 ·rw[ob_put]
  split
  ·exact hw
  ·exact d.ww i
theorem W64.set {l:List Nat} (h:W64 l) (i:Nat) {x:Nat} (hx:x<18446744073709551616):W64 (l.set i x):=fun j=>by
 rw[List.getD_eq_getElem?_getD,List.getElem?_set]
 split
 ·split
  ·exact hx
  ·decide
 ·rw[← List.getD_eq_getElem?_getD];exact h j
theorem Dta.set {M:Hp} (d:Dta M) (x:Nat) (i:Int) {v:Nat} (hv:v<18446744073709551616):Dta (setM M x i v).1:=by
 unfold setM
 split
 ·exact d
 ·rename_i h0
  split
  ·exact d
  ·split
   ·refine d.put h0 (setO_same M _ _ v).kd ?_
    unfold setO
    split
    ·exact d.ww _
    ·exact (d.ww _).set _ hv
   ·exact d
theorem slots_few {M:Hp} (wf:HpWf M) (h:∀ i∈M.slots,i≠0):66*M.slots.length≤M.large:=by
 rw[wf.lg]
 unfold lgOf
 have key:∀ l:List Nat,(∀ i∈l,i≠0∧64<osz (ob M i))→66*l.length≤(l.map fun i=>if i=0 then 0 else 1+osz (ob M i)).sum:=by
  intro l
  induction l with
  | nil=>intro _;exact Nat.le_refl _
  | cons a t ih=>
   intro hl
   have h1:=ih fun i hi=>hl i (List.mem_cons_of_mem _ hi)
   obtain ⟨h2,h3⟩:=hl a (List.mem_cons_self ..)
   rw[List.map_cons,List.sum_cons,List.length_cons,if_neg h2]
   omega
 exact key _ fun i hi=>⟨h i hi,wf.sb i (h i hi) hi⟩
structure Okd (M:Hp) (n:Nat):Prop where
 o1:1≤M.objs.length
 ob:M.objs.length≤n+1
 cl:M.coll≤10*n
 rz:M.resz≤10*n
 rt:M.roots.length≤n
 sl:M.slots.length≤15888
 da:Dta M
theorem Okd.mono {M:Hp}{n m:Nat} (h:Okd M n) (k:n≤m):Okd M m:=⟨h.o1,by have:=h.ob;omega,by have:=h.cl;omega,by have:=h.rz;omega,by have:=h.rt;omega,h.sl,h.da⟩
theorem Okd.new (n:Nat):Okd (newM n) 0:=by
 refine ⟨Nat.le_refl _,Nat.le_refl _,Nat.le_refl _,Nat.le_refl _,Nat.le_refl _,Nat.zero_le _,rfl,fun i=>?_,fun i=>?_⟩
 all_goals
  have e:Go.Proofs.YtidfllgaeiopjabGreat.ob (newM n) i=ob0:=by
   show [ob0].getD i ob0=ob0
   cases i with
   | zero=>rfl
   | succ j=>rfl
  rw[e]
 ·exact Nat.zero_le _
 ·exact W64.nil
structure Aft (M M1:Hp) (c r:Nat):Prop where
 ob:M1.objs.length=M.objs.length
 cl:M1.coll≤M.coll+c
 rz:M1.resz≤M.resz+r
 rt:M1.roots.length=M.roots.length
 sl:M1.slots.length=M.slots.length
 da:Dta M1
theorem Aft.coll {M M1:Hp} (wf:HpWf M) (d:Dta M) (c:IsColl M M1):Aft M M1 1 0:=by
 obtain ⟨q1,q2,q3,q4,q5,q6⟩:=c.nums
 exact ⟨q6,Nat.le_of_eq q3,Nat.le_of_eq q4,by rw[q5],coll_slots c,d.coll wf c⟩
theorem Aft.fit {M M1:Hp}{c r:Nat} (a:Aft M M1 c r) (s:Nat):Aft M (fitM M1 s) c (r+1):=by
 obtain ⟨q1,q2,q3,q4,q5⟩:=fitM_objs M1 s
 have q:=fitM_resz M1 s
 exact ⟨by rw[q1,a.ob],by rw[q.2];exact a.cl,by have:=a.rz;have:=q.1;omega,by rw[q2,a.rt],by rw[q5,a.sl],a.da.fit s⟩
theorem Aft.bec {M M1:Hp}{c r:Nat} (a:Aft M M1 c r) (s:Nat):Aft M (becM M1 s) c (r+1):=by
 obtain ⟨q1,q2,q3,q4,q5,_⟩:=becM_parts M1 s
 have q:=becM_resz M1 s
 exact ⟨by rw[q1,a.ob],by rw[q.2];exact a.cl,by have:=a.rz;have:=q.1;omega,by rw[q2,a.rt],by rw[q5,a.sl],a.da.bec s⟩
theorem Aft.refl {M:Hp} (d:Dta M):Aft M M 0 0:=⟨rfl,Nat.le_refl _,Nat.le_refl _,rfl,rfl,d⟩
theorem Aft.mono {M M1:Hp}{c r c' r':Nat} (a:Aft M M1 c r) (h1:c≤c') (h2:r≤r'):Aft M M1 c' r':=⟨a.ob,by have:=a.cl;omega,by have:=a.rz;omega,a.rt,a.sl,a.da⟩
theorem Okd.aft {M M1:Hp}{c r n:Nat} (h:Okd M n) (a:Aft M M1 c r) (hc:c≤10) (hr:r≤10):Okd M1 (n+1):=
 ⟨by rw[a.ob];exact h.o1,by rw[a.ob];have:=h.ob;omega,by have:=a.cl;have:=h.cl;omega,by have:=a.rz;have:=h.rz;omega,by rw[a.rt];have:=h.rt;omega,by rw[a.sl];exact h.sl,a.da⟩
theorem Okd.allocR {M M':Hp}{n k r s v x:Nat} (wf:HpWf M) (h:Okd M n) (hk:k≤255) (a:AllocR M k r s M' v x) (wf':HpWf M'):Okd M' (n+1):=by
 rcases a with ⟨hs,M1,hp,a⟩|⟨hs,M1,hp,a⟩
 ·have g:Aft M M1 1 1:=by
   rcases hp with ⟨_,rfl⟩|⟨_,M0,hc,rfl⟩
   ·exact (Aft.refl h.da).mono (by omega) (by omega)
   ·exact (Aft.coll wf h.da hc).fit _
  rcases a with ⟨_,rfl,rfl,rfl⟩|⟨_,rfl,rfl,rfl⟩
  ·have e:(addS M1 k r s).objs.length=M.objs.length+1:=by
    show (M1.objs ++ [newOb k r s false M1.used]).length=_
    rw[List.length_append,g.ob];rfl
   exact ⟨by omega,by have:=h.ob;omega,by have:=g.cl;have:=h.cl;show M1.coll≤_;omega,by have:=g.rz;have:=h.rz;show M1.resz≤_;omega,by have:=g.rt;have:=h.rt;show M1.roots.length≤_;omega,by have:=g.sl;have:=h.sl;show M1.slots.length≤_;omega,g.da.add (by rw[g.ob];exact h.o1) hk rfl⟩
  ·exact h.aft g (by omega) (by omega)
 ·have g:Aft M M1 1 1:=by
   rcases hp with ⟨_,_,rfl⟩|⟨_,M0,hc,rfl⟩
   ·exact (Aft.refl h.da).mono (by omega) (by omega)
   ·exact (Aft.coll wf h.da hc).fit _
  rcases a with ⟨M2,m,way,low,rfl,rfl,rfl⟩|⟨_,rfl,rfl,rfl⟩
  ·have g2:Aft M M2 1 2:=by
    rcases way with ⟨_,rfl⟩|⟨_,_,_,_,rfl⟩
    ·exact g.mono (by omega) (by omega)
    ·exact g.bec _
   have e:(addL M2 k r s m).objs.length=M.objs.length+1:=by
    show (M2.objs ++ [newOb k r s true m]).length=_
    rw[List.length_append,g2.ob];rfl
   have es:(addL M2 k r s m).slots.length≤15888:=by
    by_cases hm:m<M2.slots.length
    ·show (if m<M2.slots.length then M2.slots.set m M2.objs.length else M2.slots ++ [M2.objs.length]).length≤_
     rw[if_pos hm,List.length_set,g2.sl];exact h.sl
    ·have el:(addL M2 k r s m).slots=M2.slots ++ [M2.objs.length]:=by
      show (if m<M2.slots.length then M2.slots.set m M2.objs.length else M2.slots ++ [M2.objs.length])=_
      rw[if_neg hm]
     have hall:∀ i∈(addL M2 k r s m).slots,i≠0:=fun i hi=>by
      rw[el,List.mem_append] at hi
      rcases hi with hi|hi
      ·obtain ⟨q,hq,rfl⟩:=mem_slot hi
       exact low.2.2 q (by omega)
      ·rw[List.mem_singleton.1 hi,g2.ob]
       have:=h.o1
       omega
     have h1:=slots_few wf' hall
     have h2:=wf'.lm
     have h3:=wf'.l2
     omega
   exact ⟨by omega,by have:=h.ob;omega,by have:=g2.cl;have:=h.cl;show M2.coll≤_;omega,by have:=g2.rz;have:=h.rz;show M2.resz≤_;omega,by have:=g2.rt;have:=h.rt;show M2.roots.length≤_;omega,es,g2.da.add (by rw[g2.ob];exact h.o1) hk rfl⟩
  ·exact h.aft g (by omega) (by omega)
theorem Okd.fitColl {M M1:Hp}{n:Nat} (wf:HpWf M) (h:Okd M n) (c:IsColl M M1):Okd (fitM M1 0) (n+1):=h.aft ((Aft.coll wf h.da c).fit 0) (by omega) (by omega)
theorem Okd.resR {M M':Hp}{n:Nat}{A:Int}{x:Nat} (wf:HpWf M) (h:Okd M n) (r:ResR M A M' x):Okd M' (n+1):=by
 rcases r with ⟨_,rfl,_⟩|⟨_,M1,c,r⟩
 ·exact h.mono (by omega)
 ·rcases r with ⟨_,_,rfl⟩|⟨_,_,rfl⟩
  ·exact h.aft (Aft.coll wf h.da c) (by omega) (by omega)
  ·exact h.aft ((Aft.coll wf h.da c).bec _) (by omega) (by omega)
theorem Okd.putO {M:Hp}{n m:Nat}{o:Ob} (h:Okd M n) (d:Dta (Go.Proofs.YtidfllgaeiopjabGreat.putO M m o)):Okd (Go.Proofs.YtidfllgaeiopjabGreat.putO M m o) n:=by
 have e:(Go.Proofs.YtidfllgaeiopjabGreat.putO M m o).objs.length=M.objs.length:=List.length_set
 exact ⟨by rw[e];exact h.o1,by rw[e];exact h.ob,h.cl,h.rz,h.rt,h.sl,d⟩
theorem Okd.set {M:Hp}{n:Nat} (h:Okd M n) (x:Nat) (i:Int) {v:Nat} (hv:v<18446744073709551616):Okd (setM M x i v).1 n:=by
 have d:=h.da.set x i hv
 unfold setM at d ⊢
 split
 ·exact h
 ·rename_i h0
  rw[if_neg h0] at d
  split
  ·exact h
  ·rename_i h1
   rw[if_neg h1] at d
   split
   ·rename_i h2
    rw[if_pos h2] at d
    exact h.putO d
   ·exact h
theorem Okd.root {M:Hp}{n m:Nat} (h:Okd M n) (x:Nat):Okd (rootM M m x) (n+1):=by
 have e:(rootM M m x).roots.length≤M.roots.length+1:=by
  show (poolPut M.roots m (numOf M x)).length≤_
  rw[poolPut_length]
  split <;> omega
 exact ⟨h.o1,by have:=h.ob;show M.objs.length≤_;omega,by have:=h.cl;show M.coll≤_;omega,by have:=h.rz;show M.resz≤_;omega,by have:=h.rt;omega,h.sl,h.da.like rfl⟩
theorem Okd.put {M:Hp}{n m:Nat} (h:Okd M n) (x:Nat):Okd (putM M m x) n:=⟨h.o1,h.ob,h.cl,h.rz,by have:=h.rt;show (M.roots.set m _).length≤_;rw[List.length_set];exact this,h.sl,h.da.like rfl⟩
theorem Okd.drop {M:Hp}{n m:Nat} (h:Okd M n):Okd (dropM M m) n:=⟨h.o1,h.ob,h.cl,h.rz,by have:=h.rt;show (M.roots.set m _).length≤_;rw[List.length_set];exact this,h.sl,h.da.like rfl⟩
theorem pack_w64 {L:List Nat} (h:Larder.SmallL L):W64 (Larder.packL L):=fun i=>by
 by_cases hi:i<Larder.wn L.length
 ·rw[Larder.packL_get _ _ hi]
  exact Larder.wordAt_lt (fun c hc=>Larder.small_mem h c hc) i
 ·rw[List.getD_eq_getElem?_getD,List.getElem?_eq_none (by rw[Larder.packL_length];omega)];decide
theorem Okd.setb {M:Hp}{n:Nat} (h:Okd M n) (x:Nat) (f:Int) (l:List Nat) (hl:Small l):Okd (setbM M x f l) n:=by
 unfold setbM
 split
 ·rename_i h0
  refine h.putO (h.da.put (fun q=>?_) rfl (pack_w64 (patch_below 256 _ _ _ (Larder.unpackL_small _ _) hl)))
  unfold spanM at h0
  rw[if_pos q] at h0
  cases h0
 ·exact h
theorem handR_cases (M:Hp) (n:Int):(handR M n=none∧n<1)∨(handR M n=none∧(M.roots.length:Int)<n)∨∃ m:Nat,n=(m:Int)+1∧m<M.roots.length∧handR M n=M.roots.getD m none:=by
 by_cases h1:n<1
 ·left
  refine ⟨?_,h1⟩
  unfold handR poolGet
  rw[if_neg (by omega)]
 ·obtain ⟨m,rfl⟩:∃ m:Nat,n=(m:Int)+1:=⟨(n-1).toNat,by omega⟩
  right
  have e:handR M ((m:Int)+1)=M.roots.getD m none:=by
   unfold handR poolGet
   rw[if_pos (by omega),show ((m:Int)+1-1).toNat=m by omega]
  by_cases h2:m<M.roots.length
  ·exact .inr ⟨m,rfl,h2,e⟩
  ·left
   refine ⟨?_,by omega⟩
   rw[e,List.getD_eq_getElem?_getD,List.getElem?_eq_none (by omega)]
   rfl
theorem dheld_any {w:World}{pd sn:Nat}{dt:Nat→Nat}{M:Hp}{C:DC} (h:DAt w pd dt M sn C) (hl:M.roots.length≤1000000) (n:Int):
  Calls Tryz.prog 160 #[.pointer (some ⟨pd,0,none⟩),.int .i64 n] w fun e w'=>e=.returned (.bool (handR M n).isSome)∧Still w w':=by
 obtain ⟨aR,cR,eR,hR⟩:=line_list h.rt
 have c9:=h.c9
 rw[eR] at c9
 have HS:=hide (Still.refl w)
 rcases handR_cases M n with ⟨e,hn⟩|⟨e,hn⟩|⟨m,rfl,hm,e⟩
 ·rw[e]
  have d1:decide (1≤n)=false:=decide_eq_false (by omega)
  clear h hR e eR
  go_enter Tryz.func160,Tryz.ntmps160
  go_wp2_with fail
  all_goals go_ret
  all_goals exact ⟨by simp,unhide HS⟩
 ·rw[e]
  have d1:decide (1≤n)=true:=decide_eq_true (by omega)
  have d2:decide (n≤(M.roots.length:Nat))=false:=decide_eq_false (by omega)
  clear h hR e eR
  go_enter Tryz.func160,Tryz.ntmps160
  go_wp2_with fail
  all_goals go_ret
  all_goals exact ⟨by simp,unhide HS⟩
 ·rw[e]
  have d1:decide (1≤(m:Int)+1)=true:=decide_eq_true (by omega)
  have d2:decide ((m:Int)+1≤(M.roots.length:Nat))=true:=decide_eq_true (by omega)
  obtain ⟨g,rfl,e0,_⟩:=hR m hm
  unfold hvalV at e0
  have i1:(0:Int)≤(m:Nat):=by omega
  have i2:(m:Int)<(M.roots.length:Nat):=by omega
  have w1:IntKind.i64.wrap ((m:Int)+1-1)=(m:Int):=by rw[show (m:Int)+1-1=(m:Int) by omega];exact wrap_small _ (by omega) (by omega)
  have w2:(m:Int)+1-1=(m:Int):=by omega
  have w3:IntKind.i64.wrap (m:Int)=(m:Int):=wrap_small _ (by omega) (by omega)
  clear h hR e eR
  cases ho:M.roots.getD m none with
  | none=>
   rw[ho] at e0
   have e0':w.cell? ⟨g,m,none⟩=some (.int .i64 (-1)):=e0
   clear e0 ho
   go_enter Tryz.func160,Tryz.ntmps160
   go_wp2_with fail
   all_goals go_ret
   all_goals exact ⟨by simp,unhide HS⟩
  | some r=>
   rw[ho] at e0
   have e0':w.cell? ⟨g,m,none⟩=some (.int .i64 (r:Nat)):=e0
   have d3:decide ((0:Int)≤(r:Nat))=true:=decide_eq_true (by omega)
   clear e0 ho
   go_enter Tryz.func160,Tryz.ntmps160
   go_wp2_with fail
   all_goals go_ret
   all_goals exact ⟨by simp,unhide HS⟩
theorem handR_some {M:Hp}{n:Int}{r:Nat} (h:handR M n=some r):∃ m:Nat,n=(m:Int)+1∧m<M.roots.length∧M.roots.getD m none=some r:=by
 rcases handR_cases M n with ⟨e,_⟩|⟨e,_⟩|⟨m,e1,e2,e3⟩
 ·rw[e] at h;cases h
 ·rw[e] at h;cases h
 ·exact ⟨m,e1,e2,by rw[← e3];exact h⟩
theorem dat_any {w:World}{pd sn:Nat}{dt:Nat→Nat}{M:Hp}{C:DC} (h:DAt w pd dt M sn C) (wf:HpWf M) (hn:M.objs.length≤1000000) (h1:1≤M.objs.length) (hl:M.roots.length≤1000000) (n:Int):
  Calls Tryz.prog 110 #[.pointer (some ⟨pd,0,none⟩),.int .i64 n] w fun e w'=>e=.returned (.tuple #[.int .u64 ((((handR M n).map (refW M)).getD 0:Nat):Int),.int .i64 (if (handR M n).isSome then (0:Int) else 35)])∧Still w w':=by
 have H144:=hide (dheld_any h hl n)
 cases hh:handR M n with
 | none=>
  rw[hh] at H144
  clear h wf hh
  go_enter Tryz.func110,Tryz.ntmps110
  go_wp2_with fail
  refine (unhide H144).mono ?_
  rintro e w2 ⟨rfl,hS⟩
  have HS:=hide hS
  clear hS H144
  go_wp2_with fail
  all_goals go_ret2
  all_goals exact ⟨by simp,unhide HS⟩
 | some r=>
  rw[hh] at H144
  obtain ⟨m,rfl,hm,hr⟩:=handR_some hh
  obtain ⟨aR,cR,eR,hR⟩:=line_list h.rt
  have c9:=h.c9
  rw[eR] at c9
  obtain ⟨g,rfl,e0,_⟩:=hR m hm
  unfold hvalV at e0
  rw[hr] at e0
  have e0':w.cell? ⟨g,m,none⟩=some (.int .i64 (r:Nat)):=e0
  have H123:Hid (∀ W,Still w W→Calls Tryz.prog 116 #[.pointer (some ⟨pd,0,none⟩),.int .i64 (r:Nat)] W fun e w'=>e=.returned (.int .u64 (refW M r:Nat))∧Still w w'):=hide (fun W s=>(drefM (h.still s.below) wf hn h1 (root_is wf.ok hm hr)).mono fun e w' ⟨q1,q2⟩=>⟨q1,s.trans q2⟩)
  have HK:Hid (∀ W,Still w W→W.cell? ⟨pd,9,none⟩=some (.slice (some ⟨g,0,none⟩) M.roots.length cR)∧W.cell? ⟨g,m,none⟩=some (.int .i64 (r:Nat))):=hide (fun W s=>⟨(s.cell _).trans c9,(s.cell _).trans e0'⟩)
  have i1:(0:Int)≤(m:Nat):=by omega
  have i2:(m:Int)<(M.roots.length:Nat):=by omega
  have w2:(m:Int)+1-1=(m:Int):=by omega
  have w3:IntKind.i64.wrap (m:Int)=(m:Int):=wrap_small _ (by omega) (by omega)
  obtain ⟨Z,hZ⟩:∃ Z,refW M r=Z:=⟨_,rfl⟩
  rw[hZ] at H123
  simp only[Option.map_some,Option.getD_some,Option.isSome_some,if_true]
  rw[hZ]
  clear h wf hh hR eR c9 e0 e0' hr hZ
  go_enter Tryz.func110,Tryz.ntmps110
  go_wp2_with fail
  refine (unhide H144).mono ?_
  rintro e w2' ⟨rfl,hS⟩
  obtain ⟨c9,e0⟩:=unhide HK _ hS
  have HS:=hide hS
  clear hS H144
  go_wp2_with fail
  refine (unhide H123 _ (unhide HS)).mono ?_
  rintro e w3' ⟨rfl,hS3⟩
  have HS3:=hide hS3
  clear hS3 H123
  go_wp2_with fail
  all_goals go_ret2
  all_goals exact ⟨by simp,unhide HS3⟩
theorem DAt.setHand {w:World}{pd sn:Nat}{dt:Nat→Nat}{M:Hp}{C:DC} (h:DAt w pd dt M sn C) {g m:Nat} (hg:C.vR.ownBlock=some g) (hm:m<M.roots.length) (o:Option Nat):
  (∃ C',DAt (w.setCell ⟨g,m,none⟩ (.int .i64 (hval o))) pd dt { M with roots:=M.roots.set m o } sn C')∧Fr dt dt w (w.setCell ⟨g,m,none⟩ (.int .i64 (hval o))):=
 ⟨⟨C,DRaw.setR h hg hm o⟩,Fr.set (by rw[h.t5 g hg];decide) _ _⟩
theorem ddrop_no {w:World}{pd sn:Nat}{dt:Nat→Nat}{M:Hp}{C:DC} (h:DAt w pd dt M sn C) (hl:M.roots.length≤1000000) {n:Int} (hh:handR M n=none):
  Calls Tryz.prog 112 #[.pointer (some ⟨pd,0,none⟩),.int .i64 n] w fun e w'=>e=.returned (.int .i64 35)∧Still w w':=by
 have H144:=hide (dheld_any h hl n)
 rw[hh] at H144
 clear h hh
 go_enter Tryz.func112,Tryz.ntmps112
 go_wp2_with fail
 refine (unhide H144).mono ?_
 rintro e w2 ⟨rfl,hS⟩
 have HS:=hide hS
 clear hS H144
 go_wp2_with fail
 all_goals go_ret
 all_goals exact ⟨by simp,unhide HS⟩
theorem ddrop_yes {w:World}{pd sn:Nat}{dt:Nat→Nat}{M:Hp}{C:DC} (h:DAt w pd dt M sn C) (hl:M.roots.length≤1000000) {m r:Nat} (hm:m<M.roots.length) (hr:M.roots.getD m none=some r):
  Calls Tryz.prog 112 #[.pointer (some ⟨pd,0,none⟩),.int .i64 ((m:Int)+1)] w fun e w'=>e=.returned (.int .i64 0)∧(∃ C',DAt w' pd dt (dropM M m) sn C')∧Fr dt dt w w':=by
 have H144:=hide (dheld_any h hl ((m:Int)+1))
 have e:handR M ((m:Int)+1)=some r:=by
  unfold handR poolGet
  rw[if_pos (by omega),show ((m:Int)+1-1).toNat=m by omega]
  exact hr
 rw[e] at H144
 obtain ⟨aR,cR,eR,hR⟩:=line_list h.rt
 have c9:=h.c9
 rw[eR] at c9
 obtain ⟨g,rfl,e0,f0,ho⟩:=hR m hm
 unfold hvalV at e0
 rw[hr] at e0
 have e0':w.cell? ⟨g,m,none⟩=some (.int .i64 (r:Nat)):=e0
 have HK:Hid (∀ W,Still w W→W.cell? ⟨pd,9,none⟩=some (.slice (some ⟨g,0,none⟩) M.roots.length cR)∧W.cell? ⟨g,m,none⟩=some (.int .i64 (r:Nat))∧W.frozen? ⟨g,m,none⟩=false):=hide (fun W s=>⟨(s.cell _).trans c9,(s.cell _).trans e0',by rw[← f0];simp only[World.frozen?,s.heap]⟩)
 have HF:Hid (∀ w2 W,Still w w2→Still (w2.setCell ⟨g,m,none⟩ (.int .i64 (-1))) W→(∃ C',DAt W pd dt (dropM M m) sn C')∧Fr dt dt w W):=hide (fun w2 W s s2=>by
  obtain ⟨⟨C',q1⟩,q2⟩:=(h.still s.below).setHand ho hm none
  exact ⟨⟨C',q1.still s2.below⟩,(Fr.still s).trans (q2.trans (Fr.still s2))⟩)
 have i1:(0:Int)≤(m:Nat):=by omega
 have i2:(m:Int)<(M.roots.length:Nat):=by omega
 have w2:(m:Int)+1-1=(m:Int):=by omega
 have w3:IntKind.i64.wrap (m:Int)=(m:Int):=wrap_small _ (by omega) (by omega)
 obtain ⟨M',hM'⟩:∃ M',dropM M m=M':=⟨_,rfl⟩
 rw[hM'] at HF ⊢
 clear h hR eR c9 e0 e0' f0 ho hr hM' e
 go_enter Tryz.func112,Tryz.ntmps112
 go_wp2_with fail
 refine (unhide H144).mono ?_
 rintro e w2' ⟨rfl,hS⟩
 obtain ⟨c9,e0,f0⟩:=unhide HK _ hS
 have HS:=hide hS
 clear hS H144
 go_wp2_with fail
 all_goals go_ret
 all_goals exact ⟨by simp,unhide HF _ _ (unhide HS) (Still.refl _)⟩
structure AppR (pd o N:Nat) (f:Nat→Value) (u:Value) (v:Value) (w W:World) (v':Value):Prop where
 cell:W.cell? ⟨pd,o,none⟩=some v'
 line:Line W 3 v' (N+1) (fun j=>if j<N then f j else u)
 ap:v'.ownBlock≠some pd
 own:∀ g,v'.ownBlock=some g→v.ownBlock=some g∨w.heap.size≤g
 chg:NChg pd o v w W
structure AppS (pd o N:Nat) (f:Nat→Value) (u:Value) (a:Option Addr) (cap:Nat) (w wr:World):Prop where
 line:Line (wr.alloc (.cells #[u] 3)) 3 (.slice a N cap) N f
 cell:(wr.alloc (.cells #[u] 3)).cell? ⟨pd,o,none⟩=some (.slice a N cap)
 one:(wr.alloc (.cells #[u] 3)).cell? ⟨wr.heap.size,0,none⟩=some u
 fin:∀ v' w',Line w' 3 v' (N+1) (fun j=>if j<N then f j else u)→Grew 3 N u (wr.alloc (.cells #[u] 3)) w' (.slice a N cap) v'→w'.cell? ⟨pd,o,none⟩=some (.slice a N cap)∧w'.frozen? ⟨pd,o,none⟩=false∧(∃ a9 c9,v'=.slice a9 (N+1) c9∧(w'.setCell ⟨pd,o,none⟩ (.slice a9 (N+1) c9)).cell? ⟨pd,o,none⟩=some (.slice a9 (N+1) c9))∧(∀ p,p≠pd→p<w.heap.size→(Value.slice a N cap).ownBlock≠some p→w'.heap[p]?=w.heap[p]?)∧w'.heap[pd]?=w.heap[pd]?∧
  ∀ W,W.heap=(w'.setCell ⟨pd,o,none⟩ v').heap→W.os=w'.os→W.tape=w'.tape→W.output=w'.output→AppR pd o N f u (.slice a N cap) w W v'
theorem app_cell {w wr:World}{pd o N:Nat}{f:Nat→Value}{u:Value}{a:Option Addr}{cap:Nat} (hcell:w.cell? ⟨pd,o,none⟩=some (.slice a N cap)) (hfr:w.frozen? ⟨pd,o,none⟩=false) (hL:Line w 3 (.slice a N cap) N f) (hap:(Value.slice a N cap).ownBlock≠some pd) (hk:Still w wr):AppS pd o N f u a cap w wr:=by
 have hcell':=(hk.cell ⟨pd,o,none⟩).trans hcell
 have hfr':wr.frozen? ⟨pd,o,none⟩=false:=by rw[← hfr];simp only[World.frozen?,hk.heap]
 have hL':Line wr 3 (.slice a N cap) N f:=hL.same fun g _=>by rw[hk.heap]
 have hbw:pd<wr.heap.size:=by have:=block_lt_of_cell hcell';simpa using this
 have hbA:Below wr.heap.size wr (wr.alloc (.cells #[u] 3)):=(Below.refl _ _).alloc (Nat.le_refl _) _
 have hsz:wr.heap.size=w.heap.size:=by rw[hk.heap]
 refine ⟨hL'.same (fun g hg=>hbA.block g (hL'.lt g hg)),(hbA.cell (p:=⟨pd,o,none⟩) hbw).trans hcell',cell_made rfl _ _,fun v' w' h1 h2=>?_⟩
 obtain ⟨n1,n2,n3,n4⟩:=h2.nchg (o:=o) hbw hap hbA
 have hcc:w'.cell? ⟨pd,o,none⟩=some (.slice a N cap):=by rw[← hcell'];simp only[World.cell?,n4]
 obtain ⟨a9,c9,e9⟩:=h1.shape
 refine ⟨hcc,by rw[← hfr'];simp only[World.frozen?,n4],⟨a9,c9,e9,World.cell?_setCell_same' w' ⟨pd,o,none⟩ _ (by rw[hcc];rfl)⟩,fun p hp hpl hv=>?_,n4.trans (by rw[hk.heap]),fun W eh e1 e2 e3=>?_⟩
 ·rw[n1.but.block p (by omega) (fun hm=>by
   rcases List.mem_cons.1 hm with q|q
   ·exact hp q
   ·exact hv (mem_gB.1 q)),hk.heap]
 ·have k1:=n1.set v'
  refine ⟨?_,?_,n2,fun g e=>by rw[← hsz];exact n3 g e,NChg.of_still hk ⟨⟨e1.trans k1.but.os,e2.trans k1.but.tape,e3.trans k1.but.output,by rw[eh];exact k1.but.size,fun j hj hn=>by rw[eh];exact k1.but.block j hj hn⟩,fun k hk=>?_,fun k=>?_⟩⟩
  ·have:=World.cell?_setCell_same' w' ⟨pd,o,none⟩ v' (by rw[hcc];rfl)
   rw[← this];simp only[World.cell?,eh]
  ·exact h1.same (w':=W) (fun g hg=>by rw[eh,setCell_else _ _ _ _ _ (by rintro rfl;exact n2 hg)])
  ·rw[← k1.cell k hk];simp only[World.cell?,eh]
  ·rw[← k1.froz k];simp only[World.frozen?,eh]
theorem getD_snocN (l:List Nat) (x j:Nat) (hj:j<l.length+1):(l ++ [x]).getD j 0=if j<l.length then l.getD j 0 else x:=by
 by_cases h:j<l.length
 ·rw[if_pos h,List.getD_eq_getElem?_getD,List.getElem?_append_left h,List.getD_eq_getElem?_getD]
 ·have:j=l.length:=by omega
  subst this
  rw[if_neg h]
  simp
theorem getD_snocO (l:List (Option Nat)) (x:Option Nat) (j:Nat) (hj:j<l.length+1):(l ++ [x]).getD j none=if j<l.length then l.getD j none else x:=by
 by_cases h:j<l.length
 ·rw[if_pos h,List.getD_eq_getElem?_getD,List.getElem?_append_left h,List.getD_eq_getElem?_getD]
 ·have:j=l.length:=by omega
  subst this
  rw[if_neg h]
  simp
theorem DRaw.appS {w W:World}{pd:Nat}{dt:Nat→Nat}{N:Nat→Nat}{ol:List Ob}{sm sl:List Nat}{rt:List (Option Nat)}{C:DC} (h:DRaw w pd dt N ol sm sl rt C) {v':Value} (x:Nat) (r:AppR pd 7 sm.length (numsV sm) (.int .i64 (x:Nat)) C.vS w W v'):
  DRaw W pd (tagAt dt v' 3) N ol (sm ++ [x]) sl rt { C with vS:=v' }∧Fr dt (tagAt dt v' 3) w W:=by
 have ht:=tagAt_same (tag:=dt) (by decide) h.t3 r.own
 have hkp:∀ {n:Nat} g,n≠0→dt g=n→tagAt dt v' 3 g=n:=fun g hn e=>(ht g (h.un g (by omega))).trans e
 have hbk:∀ g,g<w.heap.size→dt g≠1→dt g≠3→W.heap[g]?=w.heap[g]?:=fun g hg h1 h3=>r.chg.but.block g hg (fun hm=>by
  rcases List.mem_cons.1 hm with q|q
  ·exact h1 (by rw[q];exact h.t1)
  ·exact h3 (h.t3 g (mem_gB.1 q)))
 have key:=h.lists (w':=W) (dt':=tagAt dt v' 3) (N':=N) (sm':=(sm ++ [x])) (sl':=sl) (rt':=rt) (vS':=v') (vL':=C.vL) (vR':=C.vR) r.chg.but.size (fun g hg _=>ht g hg) (fun g e=>hbk g (h.un g (by omega)) (by omega) (by omega)) (fun i hi=>(r.chg.cell i (by omega)).trans (h.num i hi)) ((r.chg.cell 6 (by decide)).trans h.c6) r.cell ((r.chg.cell 8 (by decide)).trans h.c8) ((r.chg.cell 9 (by decide)).trans h.c9) (fun i hi=>(r.chg.froz i).trans (h.fz i hi))
  (by
   rw[List.length_append]
   refine r.line.congr fun j hj=>?_
   unfold numsV
   try dsimp only
   rw[getD_snocN _ _ _ hj]
   by_cases q:j<sm.length
   ·rw[if_pos q,if_pos q]
   ·rw[if_neg q,if_neg (by omega)]) (h.sl.same fun g e=>hbk g (h.un g (by rw[h.t4 g e];decide)) (by rw[h.t4 g e];decide) (by rw[h.t4 g e];decide)) (h.rt.same fun g e=>hbk g (h.un g (by rw[h.t5 g e];decide)) (by rw[h.t5 g e];decide) (by rw[h.t5 g e];decide)) (fun g e=>by unfold tagAt;exact if_pos e) (fun g e=>hkp g (by decide) (h.t4 g e)) (fun g e=>hkp g (by decide) (h.t5 g e)) (fun g e=>by
   unfold tagAt at e
   split at e
   ·rename_i q;exact r.line.lt g q
   ·exact Nat.lt_of_lt_of_le (h.un g e) r.chg.but.size)
 exact ⟨key,⟨r.chg.but.os,r.chg.but.tape,r.chg.but.output,r.chg.but.size,fun k hk1 e=>⟨hbk k hk1 (by omega) (by omega),(ht k hk1).trans e⟩⟩⟩
theorem DRaw.appL {w W:World}{pd:Nat}{dt:Nat→Nat}{N:Nat→Nat}{ol:List Ob}{sm sl:List Nat}{rt:List (Option Nat)}{C:DC} (h:DRaw w pd dt N ol sm sl rt C) {v':Value} (x:Nat) (r:AppR pd 8 sl.length (numsV sl) (.int .i64 (x:Nat)) C.vL w W v'):
  DRaw W pd (tagAt dt v' 4) N ol sm (sl ++ [x]) rt { C with vL:=v' }∧Fr dt (tagAt dt v' 4) w W:=by
 have ht:=tagAt_same (tag:=dt) (by decide) h.t4 r.own
 have hkp:∀ {n:Nat} g,n≠0→dt g=n→tagAt dt v' 4 g=n:=fun g hn e=>(ht g (h.un g (by omega))).trans e
 have hbk:∀ g,g<w.heap.size→dt g≠1→dt g≠4→W.heap[g]?=w.heap[g]?:=fun g hg h1 h3=>r.chg.but.block g hg (fun hm=>by
  rcases List.mem_cons.1 hm with q|q
  ·exact h1 (by rw[q];exact h.t1)
  ·exact h3 (h.t4 g (mem_gB.1 q)))
 have key:=h.lists (w':=W) (dt':=tagAt dt v' 4) (N':=N) (sm':=sm) (sl':=(sl ++ [x])) (rt':=rt) (vS':=C.vS) (vL':=v') (vR':=C.vR) r.chg.but.size (fun g hg _=>ht g hg) (fun g e=>hbk g (h.un g (by omega)) (by omega) (by omega)) (fun i hi=>(r.chg.cell i (by omega)).trans (h.num i hi)) ((r.chg.cell 6 (by decide)).trans h.c6) ((r.chg.cell 7 (by decide)).trans h.c7) r.cell ((r.chg.cell 9 (by decide)).trans h.c9) (fun i hi=>(r.chg.froz i).trans (h.fz i hi))
  (h.sm.same fun g e=>hbk g (h.un g (by rw[h.t3 g e];decide)) (by rw[h.t3 g e];decide) (by rw[h.t3 g e];decide)) (by
   rw[List.length_append]
   refine r.line.congr fun j hj=>?_
   unfold numsV
   try dsimp only
   rw[getD_snocN _ _ _ hj]
   by_cases q:j<sl.length
   ·rw[if_pos q,if_pos q]
   ·rw[if_neg q,if_neg (by omega)]) (h.rt.same fun g e=>hbk g (h.un g (by rw[h.t5 g e];decide)) (by rw[h.t5 g e];decide) (by rw[h.t5 g e];decide)) (fun g e=>hkp g (by decide) (h.t3 g e)) (fun g e=>by unfold tagAt;exact if_pos e) (fun g e=>hkp g (by decide) (h.t5 g e)) (fun g e=>by
   unfold tagAt at e
   split at e
   ·rename_i q;exact r.line.lt g q
   ·exact Nat.lt_of_lt_of_le (h.un g e) r.chg.but.size)
 exact ⟨key,⟨r.chg.but.os,r.chg.but.tape,r.chg.but.output,r.chg.but.size,fun k hk1 e=>⟨hbk k hk1 (by omega) (by omega),(ht k hk1).trans e⟩⟩⟩
theorem DRaw.appR {w W:World}{pd:Nat}{dt:Nat→Nat}{N:Nat→Nat}{ol:List Ob}{sm sl:List Nat}{rt:List (Option Nat)}{C:DC} (h:DRaw w pd dt N ol sm sl rt C) {v':Value} (x:Option Nat) (r:AppR pd 9 rt.length (hvalV rt) (.int .i64 (hval x)) C.vR w W v'):
  DRaw W pd (tagAt dt v' 5) N ol sm sl (rt ++ [x]) { C with vR:=v' }∧Fr dt (tagAt dt v' 5) w W:=by
 have ht:=tagAt_same (tag:=dt) (by decide) h.t5 r.own
 have hkp:∀ {n:Nat} g,n≠0→dt g=n→tagAt dt v' 5 g=n:=fun g hn e=>(ht g (h.un g (by omega))).trans e
 have hbk:∀ g,g<w.heap.size→dt g≠1→dt g≠5→W.heap[g]?=w.heap[g]?:=fun g hg h1 h3=>r.chg.but.block g hg (fun hm=>by
  rcases List.mem_cons.1 hm with q|q
  ·exact h1 (by rw[q];exact h.t1)
  ·exact h3 (h.t5 g (mem_gB.1 q)))
 have key:=h.lists (w':=W) (dt':=tagAt dt v' 5) (N':=N) (sm':=sm) (sl':=sl) (rt':=(rt ++ [x])) (vS':=C.vS) (vL':=C.vL) (vR':=v') r.chg.but.size (fun g hg _=>ht g hg) (fun g e=>hbk g (h.un g (by omega)) (by omega) (by omega)) (fun i hi=>(r.chg.cell i (by omega)).trans (h.num i hi)) ((r.chg.cell 6 (by decide)).trans h.c6) ((r.chg.cell 7 (by decide)).trans h.c7) ((r.chg.cell 8 (by decide)).trans h.c8) r.cell (fun i hi=>(r.chg.froz i).trans (h.fz i hi))
  (h.sm.same fun g e=>hbk g (h.un g (by rw[h.t3 g e];decide)) (by rw[h.t3 g e];decide) (by rw[h.t3 g e];decide)) (h.sl.same fun g e=>hbk g (h.un g (by rw[h.t4 g e];decide)) (by rw[h.t4 g e];decide) (by rw[h.t4 g e];decide)) (by
   rw[List.length_append]
   refine r.line.congr fun j hj=>?_
   unfold hvalV
   try dsimp only
   rw[getD_snocO _ _ _ hj]
   by_cases q:j<rt.length
   ·rw[if_pos q,if_pos q]
   ·rw[if_neg q,if_neg (by omega)]) (fun g e=>hkp g (by decide) (h.t3 g e)) (fun g e=>hkp g (by decide) (h.t4 g e)) (fun g e=>by unfold tagAt;exact if_pos e) (fun g e=>by
   unfold tagAt at e
   split at e
   ·rename_i q;exact r.line.lt g q
   ·exact Nat.lt_of_lt_of_le (h.un g e) r.chg.but.size)
 exact ⟨key,⟨r.chg.but.os,r.chg.but.tape,r.chg.but.output,r.chg.but.size,fun k hk1 e=>⟨hbk k hk1 (by omega) (by omega),(ht k hk1).trans e⟩⟩⟩
theorem dput_no {w:World}{pd sn:Nat}{dt:Nat→Nat}{M:Hp}{C:DC} (h:DAt w pd dt M sn C) (hl:M.roots.length≤1000000) {n:Int} (hh:handR M n=none) (x:Nat):
  Calls Tryz.prog 111 #[.pointer (some ⟨pd,0,none⟩),.int .i64 n,.int .u64 (x:Nat)] w fun e w'=>e=.returned (.int .i64 35)∧Still w w':=by
 have H144:=hide (dheld_any h hl n)
 rw[hh] at H144
 clear h hh
 go_enter Tryz.func111,Tryz.ntmps111
 go_wp2_with fail
 refine (unhide H144).mono ?_
 rintro e w2 ⟨rfl,hS⟩
 have HS:=hide hS
 clear hS H144
 go_wp2_with fail
 all_goals go_ret
 all_goals exact ⟨by simp,unhide HS⟩
theorem dput_yes {w:World}{pd sn:Nat}{dt:Nat→Nat}{M:Hp}{C:DC} (h:DAt w pd dt M sn C) (wf:HpWf M) (hn:M.objs.length≤1000000) (h1:1≤M.objs.length) (hl:M.roots.length≤1000000) {m r:Nat} (hm:m<M.roots.length) (hr:M.roots.getD m none=some r) {x:Nat} (hx:x<18446744073709551616):
  Calls Tryz.prog 111 #[.pointer (some ⟨pd,0,none⟩),.int .i64 ((m:Int)+1),.int .u64 (x:Nat)] w fun e w'=>e=.returned (.int .i64 (if mayM M x then (0:Int) else 32))∧(∃ C',DAt w' pd dt (if mayM M x then putM M m x else M) sn C')∧Fr dt dt w w':=by
 have H144:=hide (dheld_any h hl ((m:Int)+1))
 have e:handR M ((m:Int)+1)=some r:=by
  unfold handR poolGet
  rw[if_pos (by omega),show ((m:Int)+1-1).toNat=m by omega]
  exact hr
 rw[e] at H144
 obtain ⟨aR,cR,eR,hR⟩:=line_list h.rt
 have c9:=h.c9
 rw[eR] at c9
 obtain ⟨g,rfl,e0,f0,ho⟩:=hR m hm
 unfold hvalV at e0
 rw[hr] at e0
 have e0':w.cell? ⟨g,m,none⟩=some (.int .i64 (r:Nat)):=e0
 have H141:Hid (∀ W,Still w W→Calls Tryz.prog 158 #[.pointer (some ⟨pd,0,none⟩),.int .u64 (x:Nat)] W fun e w'=>e=.returned (.int .i64 (numOf M x:Nat))∧Still w w'):=hide (fun W s=>(did_any (h.still s.below) wf hn h1 hx).mono fun e w' ⟨q1,q2⟩=>⟨q1,s.trans q2⟩)
 have HK:Hid (∀ W,Still w W→W.cell? ⟨pd,9,none⟩=some (.slice (some ⟨g,0,none⟩) M.roots.length cR)∧W.cell? ⟨g,m,none⟩=some (.int .i64 (r:Nat))∧W.frozen? ⟨g,m,none⟩=false):=hide (fun W s=>⟨(s.cell _).trans c9,(s.cell _).trans e0',by rw[← f0];simp only[World.frozen?,s.heap]⟩)
 have HF:Hid (∀ w2 W,Still w w2→Still (w2.setCell ⟨g,m,none⟩ (.int .i64 (numOf M x:Nat))) W→(∃ C',DAt W pd dt (putM M m x) sn C')∧Fr dt dt w W):=hide (fun w2 W s s2=>by
  obtain ⟨⟨C',q1⟩,q2⟩:=(h.still s.below).setHand ho hm (some (numOf M x))
  exact ⟨⟨C',q1.still s2.below⟩,(Fr.still s).trans (q2.trans (Fr.still s2))⟩)
 have HST:Hid (∀ W,Still w W→(∃ C',DAt W pd dt M sn C')∧Fr dt dt w W):=hide (fun W s=>⟨⟨C,h.still s.below⟩,Fr.still s⟩)
 have i1:(0:Int)≤(m:Nat):=by omega
 have i2:(m:Int)<(M.roots.length:Nat):=by omega
 have w2:(m:Int)+1-1=(m:Int):=by omega
 have w3:IntKind.i64.wrap (m:Int)=(m:Int):=wrap_small _ (by omega) (by omega)
 have hmay:mayM M x=decide (x=0∨numOf M x≠0):=rfl
 obtain ⟨M',hM'⟩:∃ M',putM M m x=M':=⟨_,rfl⟩
 rw[hM'] at HF ⊢
 obtain ⟨tn,htn⟩:∃ tn,numOf M x=tn:=⟨_,rfl⟩
 rw[htn] at H141 HF hmay
 clear h hR eR c9 e0 e0' f0 ho hr hM' e htn
 by_cases hbad:x≠0∧tn=0
 ·obtain ⟨hx0,rfl⟩:=hbad
  have e:mayM M x=false:=by rw[hmay];simp [hx0]
  rw[e]
  have d4:((x:Int) != 0)=true:=by simp;omega
  simp only[Bool.false_eq_true,if_false]
  clear HF hmay e
  go_enter Tryz.func111,Tryz.ntmps111
  go_wp2_with fail
  refine (unhide H144).mono ?_
  rintro e w2' ⟨rfl,hS⟩
  have HS:=hide hS
  clear hS H144
  go_wp2_with fail
  refine (unhide H141 _ (unhide HS)).mono ?_
  rintro e w3' ⟨rfl,hS3⟩
  have HS3:=hide hS3
  clear hS3 H141
  go_wp2_with fail
  all_goals go_ret
  all_goals exact ⟨by simp,unhide HST _ (unhide HS3)⟩
 ·have e:mayM M x=true:=by rw[hmay];simp;omega
  rw[e]
  simp only[if_true]
  have HV:Hid (x=0∨(x≠0∧tn≠0)):=hide (by omega)
  clear HST hmay e hbad
  rcases unhide HV with rfl|⟨hv0,hto0⟩
  ·clear HV
   go_enter Tryz.func111,Tryz.ntmps111
   go_wp2_with fail
   refine (unhide H144).mono ?_
   rintro e w2' ⟨rfl,hS⟩
   have HS:=hide hS
   clear hS H144
   go_wp2_with fail
   refine (unhide H141 _ (unhide HS)).mono ?_
   rintro e w3' ⟨rfl,hS3⟩
   obtain ⟨c9,e0,f0⟩:=unhide HK _ hS3
   have HS3:=hide hS3
   clear hS3 H141
   go_wp2_with fail
   all_goals go_ret
   all_goals exact ⟨by simp,unhide HF _ _ (unhide HS3) (Still.refl _)⟩
  ·clear HV
   have d4:((x:Int) != 0)=true:=by simp;omega
   have d5:((tn:Int) == 0)=false:=by simp;omega
   have d5':((tn:Int)=0)=False:=by simp;omega
   go_enter Tryz.func111,Tryz.ntmps111
   go_wp2_with fail
   refine (unhide H144).mono ?_
   rintro e w2' ⟨rfl,hS⟩
   have HS:=hide hS
   clear hS H144
   go_wp2_with fail
   refine (unhide H141 _ (unhide HS)).mono ?_
   rintro e w3' ⟨rfl,hS3⟩
   obtain ⟨c9,e0,f0⟩:=unhide HK _ hS3
   have HS3:=hide hS3
   clear hS3 H141
   go_wp2_with fail
   all_goals go_ret
   all_goals exact ⟨by simp,unhide HF _ _ (unhide HS3) (Still.refl _)⟩
theorem droot_no {w:World}{pd sn:Nat}{dt:Nat→Nat}{M:Hp}{C:DC} (h:DAt w pd dt M sn C) (wf:HpWf M) (hn:M.objs.length≤1000000) (h1:1≤M.objs.length) {x:Nat} (hx:x<18446744073709551616) (hm:mayM M x=false):
  Calls Tryz.prog 109 #[.pointer (some ⟨pd,0,none⟩),.int .u64 (x:Nat)] w fun e w'=>e=.returned (.tuple #[.int .i64 0,.int .i64 32])∧Still w w':=by
 have H141:=hide (did_any h wf hn h1 hx)
 have hmay:mayM M x=decide (x=0∨numOf M x≠0):=rfl
 rw[hm] at hmay
 have hb:x≠0∧numOf M x=0:=by
  have:=of_decide_eq_false hmay.symm
  omega
 rw[hb.2] at H141
 have d4:((x:Int) != 0)=true:=by simp;omega
 clear h wf hmay hb hm
 go_enter Tryz.func109,Tryz.ntmps109
 go_wp2_with fail
 refine (unhide H141).mono ?_
 rintro e w2 ⟨rfl,hS⟩
 have HS:=hide hS
 clear hS H141
 go_wp2_with fail
 all_goals go_ret2
 all_goals exact ⟨by simp,unhide HS⟩
theorem droot_yes {w:World}{pd sn:Nat}{dt:Nat→Nat}{M:Hp}{C:DC} (h:DAt w pd dt M sn C) (wf:HpWf M) (hn:M.objs.length≤1000000) (h1:1≤M.objs.length) (hl:M.roots.length≤1000000) {x:Nat} (hx:x<18446744073709551616) (hm:mayM M x=true) {n:Nat} (low:LowR M n):
  Calls Tryz.prog 109 #[.pointer (some ⟨pd,0,none⟩),.int .u64 (x:Nat)] w fun e w'=>e=.returned (.tuple #[.int .i64 ((n:Int)+1),.int .i64 0])∧∃ dt' C',DAt w' pd dt' (rootM M n x) sn C'∧Fr dt dt' w w':=by
 have H141:=hide (did_any h wf hn h1 hx)
 have hmay:mayM M x=decide (x=0∨numOf M x≠0):=rfl
 rw[hm] at hmay
 have hb:x=0∨(x≠0∧numOf M x≠0):=by
  have:=of_decide_eq_true hmay.symm
  omega
 obtain ⟨aR,cR,eR,hR⟩:=line_list h.rt
 have c9:=h.c9
 rw[eR] at c9
 obtain ⟨lw1,lw2,lw3⟩:=low
 have hRn:rootM M n x = { M with roots:=poolPut M.roots n (numOf M x) }:=rfl
 have HEL:Hid (∀ W j,Still w W→j<M.roots.length→∃ g,aR=some ⟨g,0,none⟩∧W.cell? ⟨g,j,none⟩=some (.int .i64 (hval (M.roots.getD j none)))∧W.frozen? ⟨g,j,none⟩=false):=hide (fun W j s hj=>by
  obtain ⟨g,q1,q2,q3,_⟩:=hR j hj
  exact ⟨g,q1,(s.cell _).trans q2,by rw[← q3];simp only[World.frozen?,s.heap]⟩)
 have HFO:Hid (∀ g w2 W,n<M.roots.length→aR=some ⟨g,0,none⟩→Still w w2→Still (w2.setCell ⟨g,n,none⟩ (.int .i64 (numOf M x:Nat))) W→∃ dt' C',DAt W pd dt' (rootM M n x) sn C'∧Fr dt dt' w W):=hide (fun g w2 W hnl ea s s2=>by
  obtain ⟨⟨C',q1⟩,q2⟩:=(h.still s.below).setHand (g:=g) (by rw[eR,ea];rfl) hnl (some (numOf M x))
  refine ⟨dt,C',?_,(Fr.still s).trans (q2.trans (Fr.still s2))⟩
  rw[hRn]
  unfold poolPut
  rw[if_pos hnl]
  exact q1.still s2.below)
 have HAP:Hid (∀ wr,Still w wr→AppS pd 9 M.roots.length (hvalV M.roots) (.int .i64 (hval (some (numOf M x)))) aR cR w wr):=hide (fun wr s=>app_cell c9 (h.fz 9 (by decide)) (by have:=h.rt;rw[eR] at this;exact this) (fun e=>by have:=h.t5 pd (by rw[eR];exact e);rw[h.t1] at this;cases this) s)
 have HFA:Hid (∀ W v',¬ n<M.roots.length→AppR pd 9 M.roots.length (hvalV M.roots) (.int .i64 (hval (some (numOf M x)))) (.slice aR M.roots.length cR) w W v'→∃ dt' C',DAt W pd dt' (rootM M n x) sn C'∧Fr dt dt' w W):=hide (fun W v' hnl r=>by
  rw[← eR] at r
  obtain ⟨q1,q2⟩:=DRaw.appR h (some (numOf M x)) r
  have e:rootM M n x = { M with roots:=M.roots ++ [some (numOf M x)] }:=by
   rw[hRn]
   unfold poolPut
   rw[if_neg hnl]
  rw[e]
  exact ⟨_,_,q1,q2⟩)
 have HLO:Hid (∀ j,j<n→(0:Int)≤hval (M.roots.getD j none)):=hide (fun j hj=>by
  have q:=mt (hval_neg (M.roots.getD j none)).1 (lw3 j hj)
  omega)
 have HLN:Hid (n<M.roots.length→hval (M.roots.getD n none) = -1):=hide (fun _=>by rw[lw1];rfl)
 obtain ⟨M',hM'⟩:∃ M',rootM M n x=M':=⟨_,rfl⟩
 rw[hM'] at HFO HFA ⊢
 obtain ⟨tn,htn⟩:∃ tn,numOf M x=tn:=⟨_,rfl⟩
 rw[htn] at H141 HFO hb HAP HFA
 obtain ⟨i0,hi,hy0,hy1,hy2⟩:=info_parts Tryz.info3
 have HK:Hid (∀ W,Still w W→W.cell? ⟨pd,9,none⟩=some (.slice aR M.roots.length cR)):=hide (fun W s=>(s.cell _).trans c9)
 have HV:=hide hb
 clear h hR eR c9 lw1 lw3 hRn hM' htn hmay hb wf hm
 generalize hN:M.roots.length=N at *
 rcases unhide HV with rfl|⟨hv0,hto0⟩
 ·clear HV
  go_enter Tryz.func109,Tryz.ntmps109
  go_wp2_with fail
  refine (unhide H141).mono ?_
  rintro e w2 ⟨rfl,hS⟩
  have HS:=hide hS
  clear hS H141
  go_wp2_with fail
  go_loopw [7] (fun iv wr=>∃ i:Nat,iv=.int .i64 (i:Nat)∧i≤n∧Hid (Still w wr)) (fun iv _=>n-(intOf iv).toNat)
  case atStart=>exact ⟨0,rfl,Nat.zero_le _,HS⟩
  case round=>
   clear HS
   obtain ⟨i,rfl,hin,hS⟩:=hrel
   have c9:=unhide HK _ (unhide hS)
   have w1:IntKind.i64.wrap ((i:Int)+1)=(i:Int)+1:=wrap_small _ (by omega) (by omega)
   by_cases hiN:i<N
   ·have dl:decide ((i:Int)<(N:Nat))=true:=decide_eq_true (by omega)
    obtain ⟨g,rfl,e0,f0⟩:=unhide HEL wr i (unhide hS) hiN
    have i1:(0:Int)≤(i:Nat):=by omega
    have i2:(i:Int)<(N:Nat):=by omega
    by_cases hi':i=n
    ·subst hi'
     rw[unhide HLN hiN] at e0
     have HF:=hide (fun w2 W s s2=>unhide HFO g w2 W hiN rfl s s2)
     clear HFO HFA HAP HLO HLN HK HEL
     go_wp2_with fail
     all_goals go_ret2
     all_goals exact ⟨by simp [w1],unhide HF _ _ (unhide hS) (Still.refl _)⟩
    ·have hlo:=unhide HLO i (by omega)
     obtain ⟨V,hV⟩:∃ V:Int,hval (M.roots.getD i none)=V:=⟨_,rfl⟩
     rw[hV] at e0 hlo
     have dn:decide (V<0)=false:=decide_eq_false (by omega)
     clear hV f0 hlo
     go_wp2_with fail
     all_goals go_roundw
     all_goals first|exact ⟨i+1,by simp,by omega,hS⟩|(simp [intOf];omega)
   ·have hie:i=N:=by omega
    have hnN:n=N:=by omega
    have dl:decide ((i:Int)<(N:Nat))=false:=decide_eq_false (by omega)
    have dl':decide (i<N)=false:=decide_eq_false (by omega)
    have HR:Hid ((n:Int)+1=(N:Int)+1):=hide (by omega)
    obtain ⟨x1,x2,x3,x4⟩:=unhide HAP wr (unhide hS)
    have hv0:hval (some tn)=(tn:Nat):=rfl
    rw[hv0] at x1 x2 x3 x4
    have HA2:=hide (fun W v' r=>unhide HFA W v' (by omega) r)
    rw[hv0] at HA2
    have HROW:=hide x1
    have C1:=hide x3
    have HFIN:=hide x4
    have c9':=x2
    clear x1 x2 x3 x4 HFO HFA HAP HLO HLN HK HEL hie w1
    go_wp2_with (refine append_line rfl (.tmp 47) (.tmp 49) 65 rfl 3 i0 (.int .i64 0) 8 Tryz.underlying65 hi hy0 hy1 hy2 rfl (.slice aR N cR) N _ (by simp [Act.eval]) (unhide HROW) wr.heap.size (by simp [Act.eval]) (.int .i64 (tn:Nat)) (unhide C1) rfl (by omega) (by omega) ?_)
    intro v9 w9 hl9 hg9
    obtain ⟨k1,k2,⟨a9,cp9,rfl,k3⟩,_,_,hst⟩:=unhide HFIN _ _ hl9 hg9
    clear hl9 hg9
    go_wp2_with fail
    all_goals go_ret2
    all_goals exact ⟨by rw[unhide HR];rfl,unhide HA2 _ _ (hst _ rfl rfl rfl rfl)⟩
 ·clear HV
  have d4:((x:Int) != 0)=true:=by simp;omega
  have d5:((tn:Int) == 0)=false:=by simp;omega
  have d5':((tn:Int)=0)=False:=by simp;omega
  go_enter Tryz.func109,Tryz.ntmps109
  go_wp2_with fail
  refine (unhide H141).mono ?_
  rintro e w2 ⟨rfl,hS⟩
  have HS:=hide hS
  clear hS H141
  go_wp2_with fail
  go_loopw [7] (fun iv wr=>∃ i:Nat,iv=.int .i64 (i:Nat)∧i≤n∧Hid (Still w wr)) (fun iv _=>n-(intOf iv).toNat)
  case atStart=>exact ⟨0,rfl,Nat.zero_le _,HS⟩
  case round=>
   clear HS
   obtain ⟨i,rfl,hin,hS⟩:=hrel
   have c9:=unhide HK _ (unhide hS)
   have w1:IntKind.i64.wrap ((i:Int)+1)=(i:Int)+1:=wrap_small _ (by omega) (by omega)
   by_cases hiN:i<N
   ·have dl:decide ((i:Int)<(N:Nat))=true:=decide_eq_true (by omega)
    obtain ⟨g,rfl,e0,f0⟩:=unhide HEL wr i (unhide hS) hiN
    have i1:(0:Int)≤(i:Nat):=by omega
    have i2:(i:Int)<(N:Nat):=by omega
    by_cases hi':i=n
    ·subst hi'
     rw[unhide HLN hiN] at e0
     have HF:=hide (fun w2 W s s2=>unhide HFO g w2 W hiN rfl s s2)
     clear HFO HFA HAP HLO HLN HK HEL
     go_wp2_with fail
     all_goals go_ret2
     all_goals exact ⟨by simp [w1],unhide HF _ _ (unhide hS) (Still.refl _)⟩
    ·have hlo:=unhide HLO i (by omega)
     obtain ⟨V,hV⟩:∃ V:Int,hval (M.roots.getD i none)=V:=⟨_,rfl⟩
     rw[hV] at e0 hlo
     have dn:decide (V<0)=false:=decide_eq_false (by omega)
     clear hV f0 hlo
     go_wp2_with fail
     all_goals go_roundw
     all_goals first|exact ⟨i+1,by simp,by omega,hS⟩|(simp [intOf];omega)
   ·have hie:i=N:=by omega
    have hnN:n=N:=by omega
    have dl:decide ((i:Int)<(N:Nat))=false:=decide_eq_false (by omega)
    have dl':decide (i<N)=false:=decide_eq_false (by omega)
    have HR:Hid ((n:Int)+1=(N:Int)+1):=hide (by omega)
    obtain ⟨x1,x2,x3,x4⟩:=unhide HAP wr (unhide hS)
    have hv0:hval (some tn)=(tn:Nat):=rfl
    rw[hv0] at x1 x2 x3 x4
    have HA2:=hide (fun W v' r=>unhide HFA W v' (by omega) r)
    rw[hv0] at HA2
    have HROW:=hide x1
    have C1:=hide x3
    have HFIN:=hide x4
    have c9':=x2
    clear x1 x2 x3 x4 HFO HFA HAP HLO HLN HK HEL hie w1
    go_wp2_with (refine append_line rfl (.tmp 47) (.tmp 49) 65 rfl 3 i0 (.int .i64 0) 8 Tryz.underlying65 hi hy0 hy1 hy2 rfl (.slice aR N cR) N _ (by simp [Act.eval]) (unhide HROW) wr.heap.size (by simp [Act.eval]) (.int .i64 (tn:Nat)) (unhide C1) rfl (by omega) (by omega) ?_)
    intro v9 w9 hl9 hg9
    obtain ⟨k1,k2,⟨a9,cp9,rfl,k3⟩,_,_,hst⟩:=unhide HFIN _ _ hl9 hg9
    clear hl9 hg9
    go_wp2_with fail
    all_goals go_ret2
    all_goals exact ⟨by rw[unhide HR];rfl,unhide HA2 _ _ (hst _ rfl rfl rfl rfl)⟩
structure WkC where
 vD:Value
 vC:Value
 vL:Value
def doneV (k:Wk) (j:Nat):Value:=.bool (decide (j∈k.cop∨j∈k.lin))
structure WkAt (w:World) (b0 pw N:Nat) (k:Wk) (V:WkC):Prop where
 c0:w.cell? ⟨pw,0,none⟩=some V.vD
 c1:w.cell? ⟨pw,1,none⟩=some V.vC
 c2:w.cell? ⟨pw,2,none⟩=some V.vL
 fz:∀ i,i<3→w.frozen? ⟨pw,i,none⟩=false
 d:Line w 4 V.vD N (doneV k)
 c:Line w 3 V.vC k.cop.length (numsV k.cop)
 l:Line w 3 V.vL k.lin.length (numsV k.lin)
 lo:b0≤pw∧∀ g,(V.vD.ownBlock=some g∨V.vC.ownBlock=some g∨V.vL.ownBlock=some g)→b0≤g∧g≠pw
 d1:∀ g,V.vD.ownBlock=some g→V.vC.ownBlock≠some g
 d2:∀ g,V.vD.ownBlock=some g→V.vL.ownBlock≠some g
 d3:∀ g,V.vC.ownBlock=some g→V.vL.ownBlock≠some g
theorem WkAt.lt {w:World}{b0 pw N:Nat}{k:Wk}{V:WkC} (h:WkAt w b0 pw N k V):pw<w.heap.size:=block_lt_of_cell h.c0
theorem WkAt.below {w w':World}{b0 pw N:Nat}{k:Wk}{V:WkC} (h:WkAt w b0 pw N k V) (q:Below w.heap.size w w'):WkAt w' b0 pw N k V:=by
 have hc:∀ o,w'.cell? ⟨pw,o,none⟩=w.cell? ⟨pw,o,none⟩:=fun o=>q.cell (p:=⟨pw,o,none⟩) h.lt
 refine ⟨(hc 0).trans h.c0,(hc 1).trans h.c1,(hc 2).trans h.c2,fun i hi=>?_,h.d.same fun g e=>q.block g (h.d.lt g e),h.c.same fun g e=>q.block g (h.c.lt g e),h.l.same fun g e=>q.block g (h.l.lt g e),h.lo,h.d1,h.d2,h.d3⟩
 rw[← h.fz i hi]
 simp only[World.frozen?,q.block pw h.lt]
theorem WkAt.marked {w:World}{b0 pw N:Nat}{k:Wk}{V:WkC} (h:WkAt w b0 pw N k V) {g i:Nat} (hg:V.vD.ownBlock=some g) (hi:i<N) (k':Wk) (hk:∀ j,(j∈k'.cop∨j∈k'.lin)↔(j=i∨j∈k.cop∨j∈k.lin)):
  Line (w.setCell ⟨g,i,none⟩ (.bool true)) 4 V.vD N (doneV k'):=by
 refine (h.d.put hg i _ hi).congr fun j hj=>?_
 unfold doneV
 by_cases e:j=i
 ·rw[if_pos e,decide_eq_true ((hk j).2 (.inl e))]
 ·rw[if_neg e]
  congr 1
  by_cases q:j∈k.cop∨j∈k.lin
  ·rw[decide_eq_true q,decide_eq_true ((hk j).2 (.inr q))]
  ·rw[decide_eq_false q,decide_eq_false (fun z=>q (((hk j).1 z).resolve_left e))]
theorem WkAt.small {w W:World}{b0 pw N:Nat}{k:Wk}{V:WkC} (h:WkAt w b0 pw N k V) (hb0:b0≤w.heap.size) {g i:Nat} (hg:V.vD.ownBlock=some g) (hi:i<N) {v':Value} (r:AppR pw 1 k.cop.length (numsV k.cop) (.int .i64 (i:Nat)) V.vC (w.setCell ⟨g,i,none⟩ (.bool true)) W v'):
  WkAt W b0 pw N ⟨k.cop ++ [i],k.lin⟩ { V with vC:=v' }∧Below b0 w W:=by
 have hz:(w.setCell ⟨g,i,none⟩ (.bool true)).heap.size=w.heap.size:=World.size_setCell _ _ _
 obtain ⟨hgl,hgp⟩:=h.lo.2 g (.inl hg)
 have hgs:=h.d.lt g hg
 have hpl:=h.lt
 have hb1:∀ q,q≠g→(w.setCell ⟨g,i,none⟩ (.bool true)).heap[q]?=w.heap[q]?:=fun q hq=>setCell_else _ _ _ _ _ hq
 have hb2:∀ q,q<w.heap.size→q≠pw→V.vC.ownBlock≠some q→W.heap[q]?=(w.setCell ⟨g,i,none⟩ (.bool true)).heap[q]?:=fun q hq hp hv=>r.chg.but.block q (by omega) (fun hm=>by
  rcases List.mem_cons.1 hm with z|z
  ·exact hp z
  ·exact hv (mem_gB.1 z))
 have hc:∀ q,q≠1→W.cell? ⟨pw,q,none⟩=w.cell? ⟨pw,q,none⟩:=fun q hq=>(r.chg.cell q hq).trans (by simp only[World.cell?,hb1 pw (fun e=>hgp e.symm)])
 have hv1:V.vC.ownBlock≠some g:=h.d1 g hg
 have hown:∀ q,v'.ownBlock=some q→V.vC.ownBlock=some q∨w.heap.size≤q:=fun q e=>by rw[← hz];exact r.own q e
 have hs:=r.chg.but.size
 have hD:Line W 4 V.vD N (doneV ⟨k.cop ++ [i],k.lin⟩):=(h.marked hg hi ⟨k.cop ++ [i],k.lin⟩ (fun j=>by rw[List.mem_append,List.mem_singleton];exact ⟨fun z=>z.elim (fun y=>y.elim (fun x=>.inr (.inl x)) .inl) (fun y=>.inr (.inr y)),fun z=>z.elim (fun e=>.inl (.inr e)) (fun y=>y.elim (fun x=>.inl (.inl x)) .inr)⟩)).same fun q e=>by
  have:q=g:=by rw[hg] at e;exact (Option.some.inj e).symm
  subst this
  exact hb2 q hgs hgp hv1
 have hX:Line W 3 v' (⟨k.cop ++ [i],k.lin⟩:Wk).cop.length (numsV (⟨k.cop ++ [i],k.lin⟩:Wk).cop):=by
  dsimp only
  rw[List.length_append]
  refine r.line.congr fun j hj=>?_
  unfold numsV
  rw[getD_snocN _ _ _ hj]
  by_cases q:j<k.cop.length
  ·rw[if_pos q,if_pos q]
  ·rw[if_neg q,if_neg q]
 have hY:Line W 3 V.vL k.lin.length (numsV k.lin):=h.l.same fun q e=>(hb2 q (h.l.lt q e) (h.lo.2 q (.inr (.inr e))).2 (fun z=>h.d3 q z e)).trans (hb1 q (by rintro rfl;exact h.d2 q hg e))
 have hlo':∀ q,v'.ownBlock=some q→b0≤q∧q≠pw:=fun q e=>by
  rcases hown q e with z|z
  ·exact h.lo.2 q (.inr (.inl z))
  ·exact ⟨by omega,by omega⟩
 have hdv:∀ q,V.vD.ownBlock=some q→v'.ownBlock≠some q:=fun q e z=>by
  rcases hown q z with y|y
  ·exact h.d1 q e y
  ·have:=h.d.lt q e;omega
 have hxy:∀ q,v'.ownBlock=some q→V.vL.ownBlock≠some q:=fun q e z=>by
  rcases hown q e with y|y
  ·exact h.d3 q y z
  ·have:=h.l.lt q z;omega
 refine ⟨⟨(hc 0 (by decide)).trans h.c0,r.cell,(hc 2 (by decide)).trans h.c2,fun q hq=>(r.chg.froz q).trans (by rw[setCell_froz];exact h.fz q hq),hD,hX,hY,⟨h.lo.1,fun q hq=>?_⟩,hdv,h.d2,hxy⟩,?_⟩
 ·rcases hq with e|e|e
  ·exact h.lo.2 q (.inl e)
  ·exact hlo' q e
  ·exact h.lo.2 q (.inr (.inr e))
 ·refine ⟨r.chg.but.os,r.chg.but.tape,r.chg.but.output,by omega,fun q hq=>?_⟩
  have hlo:=h.lo.1
  exact (hb2 q (by omega) (by omega) (fun e=>by have:=(h.lo.2 q (.inr (.inl e))).1;omega)).trans (hb1 q (by omega))
theorem WkAt.big {w W:World}{b0 pw N:Nat}{k:Wk}{V:WkC} (h:WkAt w b0 pw N k V) (hb0:b0≤w.heap.size) {g i:Nat} (hg:V.vD.ownBlock=some g) (hi:i<N) {v':Value} (r:AppR pw 2 k.lin.length (numsV k.lin) (.int .i64 (i:Nat)) V.vL (w.setCell ⟨g,i,none⟩ (.bool true)) W v'):
  WkAt W b0 pw N ⟨k.cop,k.lin ++ [i]⟩ { V with vL:=v' }∧Below b0 w W:=by
 have hz:(w.setCell ⟨g,i,none⟩ (.bool true)).heap.size=w.heap.size:=World.size_setCell _ _ _
 obtain ⟨hgl,hgp⟩:=h.lo.2 g (.inl hg)
 have hgs:=h.d.lt g hg
 have hpl:=h.lt
 have hb1:∀ q,q≠g→(w.setCell ⟨g,i,none⟩ (.bool true)).heap[q]?=w.heap[q]?:=fun q hq=>setCell_else _ _ _ _ _ hq
 have hb2:∀ q,q<w.heap.size→q≠pw→V.vL.ownBlock≠some q→W.heap[q]?=(w.setCell ⟨g,i,none⟩ (.bool true)).heap[q]?:=fun q hq hp hv=>r.chg.but.block q (by omega) (fun hm=>by
  rcases List.mem_cons.1 hm with z|z
  ·exact hp z
  ·exact hv (mem_gB.1 z))
 have hc:∀ q,q≠2→W.cell? ⟨pw,q,none⟩=w.cell? ⟨pw,q,none⟩:=fun q hq=>(r.chg.cell q hq).trans (by simp only[World.cell?,hb1 pw (fun e=>hgp e.symm)])
 have hv1:V.vL.ownBlock≠some g:=h.d2 g hg
 have hown:∀ q,v'.ownBlock=some q→V.vL.ownBlock=some q∨w.heap.size≤q:=fun q e=>by rw[← hz];exact r.own q e
 have hs:=r.chg.but.size
 have hD:Line W 4 V.vD N (doneV ⟨k.cop,k.lin ++ [i]⟩):=(h.marked hg hi ⟨k.cop,k.lin ++ [i]⟩ (fun j=>by rw[List.mem_append,List.mem_singleton];exact ⟨fun z=>z.elim (fun x=>.inr (.inl x)) (fun y=>y.elim (fun x=>.inr (.inr x)) .inl),fun z=>z.elim (fun e=>.inr (.inr e)) (fun y=>y.elim .inl (fun x=>.inr (.inl x)))⟩)).same fun q e=>by
  have:q=g:=by rw[hg] at e;exact (Option.some.inj e).symm
  subst this
  exact hb2 q hgs hgp hv1
 have hX:Line W 3 v' (⟨k.cop,k.lin ++ [i]⟩:Wk).lin.length (numsV (⟨k.cop,k.lin ++ [i]⟩:Wk).lin):=by
  dsimp only
  rw[List.length_append]
  refine r.line.congr fun j hj=>?_
  unfold numsV
  rw[getD_snocN _ _ _ hj]
  by_cases q:j<k.lin.length
  ·rw[if_pos q,if_pos q]
  ·rw[if_neg q,if_neg q]
 have hY:Line W 3 V.vC k.cop.length (numsV k.cop):=h.c.same fun q e=>(hb2 q (h.c.lt q e) (h.lo.2 q (.inr (.inl e))).2 (fun z=>h.d3 q e z)).trans (hb1 q (by rintro rfl;exact h.d1 q hg e))
 have hlo':∀ q,v'.ownBlock=some q→b0≤q∧q≠pw:=fun q e=>by
  rcases hown q e with z|z
  ·exact h.lo.2 q (.inr (.inr z))
  ·exact ⟨by omega,by omega⟩
 have hdv:∀ q,V.vD.ownBlock=some q→v'.ownBlock≠some q:=fun q e z=>by
  rcases hown q z with y|y
  ·exact h.d2 q e y
  ·have:=h.d.lt q e;omega
 have hxy:∀ q,v'.ownBlock=some q→V.vC.ownBlock≠some q:=fun q e z=>by
  rcases hown q e with y|y
  ·exact h.d3 q z y
  ·have:=h.c.lt q z;omega
 refine ⟨⟨(hc 0 (by decide)).trans h.c0,(hc 1 (by decide)).trans h.c1,r.cell,fun q hq=>(r.chg.froz q).trans (by rw[setCell_froz];exact h.fz q hq),hD,hY,hX,⟨h.lo.1,fun q hq=>?_⟩,h.d1,hdv,fun q e z=>hxy q z e⟩,?_⟩
 ·rcases hq with e|e|e
  ·exact h.lo.2 q (.inl e)
  ·exact h.lo.2 q (.inr (.inl e))
  ·exact hlo' q e
 ·refine ⟨r.chg.but.os,r.chg.but.tape,r.chg.but.output,by omega,fun q hq=>?_⟩
  have hlo:=h.lo.1
  exact (hb2 q (by omega) (by omega) (fun e=>by have:=(h.lo.2 q (.inr (.inr e))).1;omega)).trans (hb1 q (by omega))
theorem wreach_out {w:World}{pw pd:Nat}{i:Int} (hi:i≤0):Calls Tryz.prog 182 #[.pointer (some ⟨pw,0,none⟩),.pointer (some ⟨pd,0,none⟩),.int .i64 i] w fun e w'=>e=.returned (.tuple #[])∧Still w w':=by
 have d1:decide (i≤0)=true:=decide_eq_true hi
 have HS:=hide (Still.refl w)
 clear hi
 go_enter Tryz.func182,Tryz.ntmps182
 go_wp2_with fail
 (try simp only[Exit.inBlock,Exit.then])
 refine bodyPost_ret (results_none rfl _ _ _) rfl ?_
 exact ⟨rfl,unhide HS⟩
theorem wreach_any {w0 w:World}{pd sn pw:Nat}{dt:Nat→Nat}{M:Hp}{C:DC} (h:DAt w0 pd dt M sn C) (q:Below w0.heap.size w0 w) {k:Wk}{V:WkC} (hw:WkAt w w0.heap.size pw M.objs.length k V) (hn:M.objs.length≤1000000) (hk:k.cop.length≤10000000∧k.lin.length≤10000000) {i:Nat} (hi:i<M.objs.length):
  Calls Tryz.prog 182 #[.pointer (some ⟨pw,0,none⟩),.pointer (some ⟨pd,0,none⟩),.int .i64 (i:Nat)] w fun e w'=>e=.returned (.tuple #[])∧Below w0.heap.size w0 w'∧∃ V',WkAt w' w0.heap.size pw M.objs.length (reachW M k i) V':=by
 by_cases h0:i=0
 ·subst h0
  refine (wreach_out (i:=((0:Nat):Int)) (by decide)).mono fun e w' ⟨e1,s⟩=>⟨e1,q.trans (s.below.mono q.size),V,?_⟩
  unfold reachW
  rw[if_pos (.inl rfl)]
  exact hw.below s.below
 ·obtain ⟨aD,cD,eD,hD⟩:=line_list hw.d
  have c0:=hw.c0
  rw[eD] at c0
  obtain ⟨gD,rfl,e0,f0,ho⟩:=hD i hi
  unfold doneV at e0
  have d1:decide ((i:Int)≤0)=false:=decide_eq_false (by omega)
  have i1:(0:Int)≤(i:Nat):=by omega
  have i2:(i:Int)<(M.objs.length:Nat):=by omega
  by_cases hs:i∈k.cop∨i∈k.lin
  ·rw[decide_eq_true hs] at e0
   have HF:Hid (∀ W,Still w W→Below w0.heap.size w0 W∧∃ V',WkAt W w0.heap.size pw M.objs.length (reachW M k i) V'):=hide (fun W s=>⟨q.trans (s.below.mono q.size),V,by
    unfold reachW
    rw[if_pos (.inr hs)]
    exact hw.below s.below⟩)
   clear h q hw hD eD f0 ho hs
   go_enter Tryz.func182,Tryz.ntmps182
   go_wp2_with fail
   (try simp only[Exit.inBlock,Exit.then])
   refine bodyPost_ret (results_none rfl _ _ _) rfl ?_
   exact ⟨rfl,unhide HF _ (Still.refl _)⟩
  ·rw[decide_eq_false hs] at e0
   obtain ⟨gO,cO,ar,aw,cr,cw,⟨s0,y0,y1,y2,y3,y4,y5,_,_,_⟩,_⟩:=h.obj hi
   have f:M.objs.getD i ob0=ob M i:=rfl
   rw[f] at y4
   have hlo:=hw.lo.2 gD (.inl ho)
   have hgO:=block_lt_of_cell y4
   have hpd:=block_lt_of_cell s0
   dsimp only at hgO hpd
   have s1:=(q.cell (p:=⟨pd,6,none⟩) hpd).trans s0
   have z4:=(q.cell (p:=⟨gO,i*6+4,none⟩) hgO).trans y4
   have t6:(w.setCell ⟨gD,i,none⟩ (.bool true)).cell? ⟨pd,6,none⟩=some (.slice (some ⟨gO,0,none⟩) M.objs.length cO):=by rw[World.cell?_setCell_other _ _ _ _ (by first|(simp;done)|(simp;omega))];exact s1
   have t4:(w.setCell ⟨gD,i,none⟩ (.bool true)).cell? ⟨gO,i*6+4,none⟩=some (.bool (ob M i).big):=by rw[World.cell?_setCell_other _ _ _ _ (by first|(simp;done)|(simp;omega))];exact z4
   have hpw:(w.setCell ⟨gD,i,none⟩ (.bool true)).heap[pw]?=w.heap[pw]?:=setCell_else _ _ _ _ _ (fun e=>hlo.2 e.symm)
   obtain ⟨i0,hi',hy0,hy1,hy2⟩:=info_parts Tryz.info3
   have hbn:¬ (i=0∨i∈k.cop∨i∈k.lin):=fun e=>e.elim h0 hs
   by_cases hbg:(ob M i).big=true
   ·obtain ⟨aL,cL,eL⟩:=hw.l.shape
    have c2:(w.setCell ⟨gD,i,none⟩ (.bool true)).cell? ⟨pw,2,none⟩=some (.slice aL k.lin.length cL):=by rw[cell_like hpw,hw.c2,eL]
    have hL1:Line (w.setCell ⟨gD,i,none⟩ (.bool true)) 3 (.slice aL k.lin.length cL) k.lin.length (numsV k.lin):=by
     have:=hw.l
     rw[eL] at this
     exact this.same fun g e=>setCell_else _ _ _ _ _ (by rintro rfl;exact hw.d2 g ho (by rw[eL];exact e))
    have HAP:Hid (AppS pw 2 k.lin.length (numsV k.lin) (.int .i64 (i:Nat)) aL cL (w.setCell ⟨gD,i,none⟩ (.bool true)) (w.setCell ⟨gD,i,none⟩ (.bool true))):=hide (app_cell c2 (by rw[froz_like hpw];exact hw.fz 2 (by decide)) hL1 (fun e=>(hw.lo.2 pw (.inr (.inr (by rw[eL];exact e)))).2 rfl) (Still.refl _))
    have HF:Hid (∀ W v',AppR pw 2 k.lin.length (numsV k.lin) (.int .i64 (i:Nat)) (.slice aL k.lin.length cL) (w.setCell ⟨gD,i,none⟩ (.bool true)) W v'→Below w0.heap.size w0 W∧∃ V',WkAt W w0.heap.size pw M.objs.length (reachW M k i) V'):=hide (fun W v' r=>by
     rw[← eL] at r
     obtain ⟨q1,q2⟩:=hw.big q.size ho hi r
     have e:reachW M k i=⟨k.cop,k.lin ++ [i]⟩:=by
      unfold reachW
      rw[if_neg hbn,if_pos hbg]
     rw[e]
     exact ⟨q.trans q2,⟨V.vD,V.vC,v'⟩,q1⟩)
    rw[hbg] at t4
    have b2:=hk.2
    generalize hnl:k.lin.length=nl at *
    generalize hnO:M.objs.length=nO at *
    clear h q hw hD eD ho hs s0 y0 y1 y2 y3 y4 y5 s1 z4 hpw hbn hbg eL hL1 hlo hnl hnO
    obtain ⟨x1,x2,x3,x4⟩:=unhide HAP
    rw[World.size_setCell] at x3
    have HROW:=hide x1
    have C1:=hide x3
    have HFIN:=hide x4
    clear x1 x3 x4 HAP
    go_enter Tryz.func182,Tryz.ntmps182
    go_wp2_with (refine append_line rfl (.tmp 35) (.tmp 37) 65 rfl 3 i0 (.int .i64 0) 8 Tryz.underlying65 hi' hy0 hy1 hy2 rfl (.slice aL nl cL) nl _ (by simp [Act.eval]) (unhide HROW) w.heap.size (by simp [Act.eval]) (.int .i64 (i:Nat)) (unhide C1) rfl (by omega) (by omega) ?_)
    intro v9 w9 hl9 hg9
    obtain ⟨k1,k2,⟨a9,cp9,rfl,k3⟩,_,_,hst⟩:=unhide HFIN _ _ hl9 hg9
    clear hl9 hg9
    go_wp2_with fail
    all_goals go_end0
    all_goals exact ⟨rfl,unhide HF _ _ (hst _ rfl rfl rfl rfl)⟩
   ·obtain ⟨aL,cL,eL⟩:=hw.c.shape
    have c2:(w.setCell ⟨gD,i,none⟩ (.bool true)).cell? ⟨pw,1,none⟩=some (.slice aL k.cop.length cL):=by rw[cell_like hpw,hw.c1,eL]
    have hL1:Line (w.setCell ⟨gD,i,none⟩ (.bool true)) 3 (.slice aL k.cop.length cL) k.cop.length (numsV k.cop):=by
     have:=hw.c
     rw[eL] at this
     exact this.same fun g e=>setCell_else _ _ _ _ _ (by rintro rfl;exact hw.d1 g ho (by rw[eL];exact e))
    have HAP:Hid (AppS pw 1 k.cop.length (numsV k.cop) (.int .i64 (i:Nat)) aL cL (w.setCell ⟨gD,i,none⟩ (.bool true)) (w.setCell ⟨gD,i,none⟩ (.bool true))):=hide (app_cell c2 (by rw[froz_like hpw];exact hw.fz 1 (by decide)) hL1 (fun e=>(hw.lo.2 pw (.inr (.inl (by rw[eL];exact e)))).2 rfl) (Still.refl _))
    have HF:Hid (∀ W v',AppR pw 1 k.cop.length (numsV k.cop) (.int .i64 (i:Nat)) (.slice aL k.cop.length cL) (w.setCell ⟨gD,i,none⟩ (.bool true)) W v'→Below w0.heap.size w0 W∧∃ V',WkAt W w0.heap.size pw M.objs.length (reachW M k i) V'):=hide (fun W v' r=>by
     rw[← eL] at r
     obtain ⟨q1,q2⟩:=hw.small q.size ho hi r
     have e:reachW M k i=⟨k.cop ++ [i],k.lin⟩:=by
      unfold reachW
      rw[if_neg hbn,if_neg hbg]
     rw[e]
     exact ⟨q.trans q2,⟨V.vD,v',V.vL⟩,q1⟩)
    rw[show (ob M i).big=false by simpa using hbg] at t4
    have b2:=hk.1
    generalize hnl:k.cop.length=nl at *
    generalize hnO:M.objs.length=nO at *
    clear h q hw hD eD ho hs s0 y0 y1 y2 y3 y4 y5 s1 z4 hpw hbn hbg eL hL1 hlo hnl hnO
    obtain ⟨x1,x2,x3,x4⟩:=unhide HAP
    rw[World.size_setCell] at x3
    have HROW:=hide x1
    have C1:=hide x3
    have HFIN:=hide x4
    clear x1 x3 x4 HAP
    go_enter Tryz.func182,Tryz.ntmps182
    go_wp2_with (refine append_line rfl (.tmp 45) (.tmp 47) 65 rfl 3 i0 (.int .i64 0) 8 Tryz.underlying65 hi' hy0 hy1 hy2 rfl (.slice aL nl cL) nl _ (by simp [Act.eval]) (unhide HROW) w.heap.size (by simp [Act.eval]) (.int .i64 (i:Nat)) (unhide C1) rfl (by omega) (by omega) ?_)
    intro v9 w9 hl9 hg9
    obtain ⟨k1,k2,⟨a9,cp9,rfl,k3⟩,_,_,hst⟩:=unhide HFIN _ _ hl9 hg9
    clear hl9 hg9
    go_wp2_with fail
    all_goals go_end0
    all_goals exact ⟨rfl,unhide HF _ _ (hst _ rfl rfl rfl rfl)⟩
end Go.Proofs.YtidfllgaeiopjabGreat
