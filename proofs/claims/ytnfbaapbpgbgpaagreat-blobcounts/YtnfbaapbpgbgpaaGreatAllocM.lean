import Derived.Test.YtnfbaapbpgbgpaaGreatSweepM
import Derived.Test.YtnfbaapbpgbgpaaGreatHObj
import Derived.Test.YtnfbaapbpgbgpaaGreatBecomeM
namespace Go.Proofs.YtnfbaapbpgbgpaaGreat
open Go.ChangeShapes Go.WideShapes Go.ChangeAt Go.RowKit
set_option linter.unusedVariables false
set_option maxRecDepth 100000
set_option maxHeartbeats 1000000
structure C2 (w:World) (tag0:Nat→Nat) (ph:Nat) (M:Hp) (H:HC) (t:St) (W:World) (tag2:Nat→Nat) (H2:HC):Prop where
 raw:HRaw W ph tag2 H2
 A:H2.A=midS M t.k.cop (pgOf M t)
 S:H2.S=RefSt.new M.half
 eq:H2 = { H with coll:=H.coll+1,a:=H.s,s:=H.a,A:=H2.A,S:=H2.S,re:=H2.re,bk:=H2.bk,cH:=H2.cH }
 bk:∀ s,M.slots.getD s 0≠0→H2.bk s=midK M t.k.cop (pgOf M t) (M.slots.getD s 0)
 re:∀ s,M.slots.getD s 0≠0→(H2.re s=H2.coll↔M.slots.getD s 0∈t.k.lin)
 cH:∀ x,H2.cH.getD x none=(M.roots.getD x none).map (newRef M t.k.cop)
 len:H2.cH.length=H.cH.length
 fr:Fr tag0 tag2 (collW w ph H.coll) W
 z3:tag2 (w.heap.size+3)=0
 kD:W.heap[w.heap.size+3]?=some (.deferred (some []))
 sz:w.heap.size+5≤W.heap.size
structure C3 (w:World) (tag0:Nat→Nat) (ph:Nat) (M:Hp) (H:HC) (t:St) (W:World) (tag3:Nat→Nat) (H3:HC) (H2:HC):Prop where
 raw:HRaw W ph tag3 H3
 A:H2.A=midS M t.k.cop (pgOf M t)
 S:H2.S=RefSt.new M.half
 eq2:H2 = { H with coll:=H.coll+1,a:=H.s,s:=H.a,A:=H2.A,S:=H2.S,re:=H2.re,bk:=H2.bk,cH:=H2.cH }
 bk:∀ s,M.slots.getD s 0≠0→H2.bk s=midK M t.k.cop (pgOf M t) (M.slots.getD s 0)
 re:∀ s,M.slots.getD s 0≠0→(H2.re s=H2.coll↔M.slots.getD s 0∈t.k.lin)
 cH:∀ x,H2.cH.getD x none=(M.roots.getD x none).map (newRef M t.k.cop)
 len:H2.cH.length=H.cH.length
 eq3:H3 = { H2 with large:=lgOf M (slC M t.k),cB:=H3.cB,frB:=H3.frB,vcB:=H3.vcB,vfB:=H3.vfB }
 cB:∀ s,H3.cB.getD s none=if H2.re s≠H2.coll then none else H2.cB.getD s none
 lB:H3.cB.length≤H.cB.length∧∀ x∈H3.frB,x<M.slots.length
 fr:Fr tag0 tag3 (collW w ph H.coll) W
 z3:tag3 (w.heap.size+3)=0
 kD:W.heap[w.heap.size+3]?=some (.deferred (some []))
 sz:w.heap.size+5≤W.heap.size
theorem coll_box {w:World}{tag0 tag:Nat→Nat}{ph coll:Nat}{W:World} (h:Fr tag0 tag (collW w ph coll) W) (hz:tag0 w.heap.size=0):W.cell? ⟨w.heap.size,0,none⟩=some (.pointer (some ⟨ph,0,none⟩)):=by
 have:=(h.blk w.heap.size (by rw[collW_size];omega) hz).1
 rw[cell_like this]
 exact collW_box w ph coll
theorem pgOf_start (M:Hp) (n:Nat):pgOf M (stR M n)=fun _=>0:=by
 funext x
 unfold pgOf
 rw[if_neg (by rintro (q|q) <;> simp [stR] at q)]
theorem HdAt.st {w:World}{tag0:Nat→Nat}{ph:Nat}{M:Hp}{H:HC}{q:Nat}{W:World}{tag:Nat→Nat}{H':HC}{v:Value} (h:HdAt w tag0 ph M H q q W tag H' v):StAt W tag ph (w.heap.size+1) M H' (stR M q) W:=
 ⟨tag,H',v,h.raw,by rw[pgOf_start];exact h.mid,rfl,h.cat,Fr.refl _,Nat.zero_le _,Nat.zero_le _⟩
theorem blocks_lg {M:Hp}{H:HC} (wf:HpWf M) (hl:H.cB.length≤M.slots.length) (hcB:∀ s,(H.cB.getD s none).isSome=true↔M.slots.getD s 0≠0) (cop:List Nat) (pg:Nat→Nat) (hbk:∀ s,M.slots.getD s 0≠0→H.bk s=midK M cop pg (M.slots.getD s 0)):lgOf M M.slots=sumB H.cB.length (swT H 0):=by
 have e1:∀ s,swT H 0 s=if M.slots.getD s 0=0 then 0 else 1+osz (ob M (M.slots.getD s 0)):=fun s=>by
  unfold swT
  by_cases h0:M.slots.getD s 0=0
  ·rw[if_pos h0,if_neg (fun x=>(hcB s).1 x.1 h0)]
  ·rw[if_neg h0,if_pos ⟨(hcB s).2 h0,.inl (Nat.zero_le _)⟩,hbk s h0]
   rfl
 rw[lgOf_sum]
 obtain ⟨d,hd⟩:=Nat.exists_eq_add_of_le hl
 have e2:∀ s,H.cB.length≤s→M.slots.getD s 0=0:=fun s hs=>Classical.byContradiction (fun x=>by
  have:=(hcB s).2 x
  rw[List.getD_eq_getElem?_getD,List.getElem?_eq_none hs] at this
  cases this)
 rw[hd,sumB_past _ _ (fun s hs=>by rw[if_pos (e2 s hs)])]
 exact sumB_congr _ _ _ (fun s _=>(e1 s).symm)
theorem blocks_kept {M:Hp}{H:HC}{k:Wk} (hl:H.cB.length≤M.slots.length) (hcB:∀ s,(H.cB.getD s none).isSome=true↔M.slots.getD s 0≠0) (cop:List Nat) (pg:Nat→Nat) (hbk:∀ s,M.slots.getD s 0≠0→H.bk s=midK M cop pg (M.slots.getD s 0))
  (hre:∀ s,M.slots.getD s 0≠0→(H.re s=H.coll↔M.slots.getD s 0∈k.lin)) (hl0:0 ∉ k.lin):sumB H.cB.length (swT H H.cB.length)=lgOf M (slC M k):=by
 have e1:∀ s,s<H.cB.length→swT H H.cB.length s=if (slC M k).getD s 0=0 then 0 else 1+osz (ob M ((slC M k).getD s 0)):=fun s hs=>by
  rw[slC_at]
  unfold swT
  by_cases h0:M.slots.getD s 0=0
  ·rw[if_neg (fun x=>(hcB s).1 x.1 h0),h0,if_neg hl0,if_pos rfl]
  ·by_cases hm:M.slots.getD s 0∈k.lin
   ·rw[if_pos hm,if_neg h0,if_pos ⟨(hcB s).2 h0,.inr ((hre s h0).2 hm)⟩,hbk s h0]
    rfl
   ·rw[if_neg hm,if_pos rfl,if_neg]
    rintro ⟨_,x|x⟩
    ·omega
    ·exact hm ((hre s h0).1 x)
 have e2:∀ s,H.cB.length≤s→M.slots.getD s 0=0:=fun s hs=>Classical.byContradiction (fun x=>by
  have:=(hcB s).2 x
  rw[List.getD_eq_getElem?_getD,List.getElem?_eq_none hs] at this
  cases this)
 have hl2:(slC M k).length=M.slots.length:=List.length_map ..
 rw[lgOf_sum,hl2]
 obtain ⟨d,hd⟩:=Nat.exists_eq_add_of_le hl
 rw[hd,sumB_past _ _ (fun s hs=>by rw[slC_at,e2 s hs,if_neg hl0,if_pos rfl])]
 exact sumB_congr _ _ _ e1
theorem collect_any {w:World}{ph:Nat}{tag:Nat→Nat}{M:Hp}{H:HC} (h:HAt w ph tag M H) (hc:M.coll≤1000000000000):
  Calls Tryz.prog 70 #[.pointer (some ⟨ph,0,none⟩)] w fun e w'=>e=.returned (.tuple #[])∧∃ tag' H' t,Star M (stR M M.roots.length) t∧stepW M t=none∧Fin' M t.k∧HAt w' ph tag' (collM M t.k) H'∧Fr tag tag' w w':=by
 have wf:=h.wf
 have ok:=wf.ok
 have hph:ph<w.heap.size:=h.raw.un ph (by rw[h.raw.t1];decide)
 have hun:∀ g,w.heap.size≤g→tag g=0:=fun g hg=>Classical.byContradiction (fun q=>by have:=h.raw.un g q;omega)
 have hpast:∀ x,H.cH.length≤x→M.roots.getD x none=none:=fun x hx=>by
  have:=h.cH x
  rw[List.getD_eq_getElem?_getD,List.getElem?_eq_none hx] at this
  cases hr:M.roots.getD x none with
  | none=>rfl
  | some i=>rw[hr] at this;cases this
 obtain ⟨t,ht1,ht2,hfin,hta,htb⟩:=walk_done ok H.cH.length hpast
 have hroots:stR M M.roots.length=stR M H.cH.length:=by
  obtain ⟨d,hd⟩:=Nat.exists_eq_add_of_le h.lH.1
  unfold stR
  rw[hd,rootsW_past M _ hpast d]
 obtain ⟨tag0,htag0⟩:∃ tag0,tag0=tagC tag (w.heap.size+1):=⟨_,rfl⟩
 have hz0:tag0 w.heap.size=0:=by rw[htag0];unfold tagC;rw[if_neg (by omega)];exact hun _ (Nat.le_refl _)
 obtain ⟨a,cap,hvc⟩:=h.raw.pH.row.shape
 have hcap:H.cH.length≤cap:=by
  rcases h.raw.pH.row with ⟨h1,h2⟩|⟨g',cap',cur,h1,h2,h3,h4,h5,h6⟩
  ·omega
  ·rw[hvc] at h1;injection h1 with e1 e2 e3;omega
 obtain ⟨g,hg⟩:∃ g,0<H.cH.length→a=some ⟨g,0,none⟩:=by
  by_cases h0:0<H.cH.length
  ·obtain ⟨g,cap',hv',hg,hc⟩:=h.raw.pH.row.at h0
   rw[hvc] at hv'
   cases hv'
   exact ⟨g,fun _=>rfl⟩
  ·exact ⟨0,fun x=>absurd x h0⟩
 -- the measure of the walk
 obtain ⟨PI,hPI⟩:∃ PI:World→Nat→Prop,PI=fun W m=>∃ WN tagN HN vN s,HdAt w tag0 ph M H H.cH.length H.cH.length WN tagN HN vN∧WN.heap[w.heap.size+3]?=some (.deferred (some []))∧Star M (stR M H.cH.length) s∧StAt WN tagN ph (w.heap.size+1) M HN s W∧m=meas M s:=⟨_,rfl⟩
 obtain ⟨μ,hμ⟩:=least_of PI
 have hU:1≤place (shapes M t.k.cop) t.k.cop.length∧place (shapes M t.k.cop) t.k.cop.length≤1048576:=by
  refine ⟨place_pos _ _,?_⟩
  have:=place_sub M t.k.cop M.small hfin.nd.1 hfin.cs
  rw[← ok.us] at this
  have:=ok.u2
  have:=ok.h2
  omega
 have hcl:∀ s,Star M (stR M H.cH.length) s→Cl M s:=fun s hs=>(Cl.star hs (cl_start M _)).1
 have key:=collect_walk (w:=w) (ph:=ph) (coll:=H.coll) (pa:=H.a.1) (ps:=H.s.1) (g:=g) (N:=H.cH.length) (cap:=cap) (lg:=lgOf M (slC M t.k)) (U:=place (shapes M t.k.cop) t.k.cop.length) (a:=a) (by rw[h.nC];exact hc) h.raw.n12 (h.raw.fz 12 (by decide)) h.raw.pH.lc hcap
  (fun q=>(H.cH.getD q none).getD 0) (fun q=>newRef M (rootsW M (q+1)).cop ((M.roots.getD q none).getD 0)) (fun q=>(H.cH.getD q none).isSome)
  (fun q W=>∃ tag' H' v,HdAt w tag0 ph M H q q W tag' H' v) (fun q W=>∃ tag' H' v,HdAt w tag0 ph M H q (q+1) W tag' H' v)
  (fun W=>∃ m,PI W m) (fun W=>∃ WN tagN HN vN,HdAt w tag0 ph M H H.cH.length H.cH.length WN tagN HN vN∧WN.heap[w.heap.size+3]?=some (.deferred (some []))∧StAt WN tagN ph (w.heap.size+1) M HN t W)
  (fun W=>∃ tag2 H2,C2 w tag0 ph M H t W tag2 H2) (fun W=>∃ tag3 H3 H2,C3 w tag0 ph M H t W tag3 H3 H2)
  (fun w'=>∃ tag' H' t,Star M (stR M M.roots.length) t∧stepW M t=none∧Fin' M t.k∧HAt w' ph tag' (collM M t.k) H'∧Fr tag tag' w w') μ
  ?hI0 ?hIb ?hIp ?hsk ?hIr ?hIc ?hJc ?hrow ?hmove ?hset ?hS0 ?hSc ?hstep ?hT ?hclear ?hT2 ?hsweep ?hT3 hU.1 hU.2 ?hused ?hR
 ·exact key
 case hI0=>intro o1 o2;rw[htag0];exact ⟨_,_,_,hd_start h o1 o2⟩
 case hIb=>rintro q W W' ⟨tag',H',v,hs⟩ hb;exact ⟨tag',H',v,hs.below hb⟩
 case hIp=>
  rintro q W o o' hl ho ⟨tag',H',v,hs⟩
  have hcs:=collW_size w ph H.coll
  have hne:∀ x,tag' x≠0→(W.putObj (w.heap.size+4) o').heap[x]?=W.heap[x]?:=fun x hx=>World.putObj_heap_other (by rintro rfl;exact hx hs.z4)
  exact ⟨tag',H',v,hraw_put hs.raw _ o' hs.z4,hs.mid,hs.eq,hs.cH,hs.len,hs.cat.conf (fun x e=>hne x (by omega)) (fun x e=>hne x (by omega)),⟨hs.fr.os,hs.fr.tape,hs.fr.output,by have:=hs.fr.size;simpa using this,fun x hx e=>⟨(World.putObj_heap_other (by omega)).trans (hs.fr.blk x hx e).1,(hs.fr.blk x hx e).2⟩⟩,hs.z3,hs.z4,by have:=hs.sz;simpa using this⟩
 case hsk=>
  rintro q W hq hu ⟨tag',H',v,hs⟩
  have hn:M.roots.getD q none=none:=by
   have:=h.cH q
   cases hx:M.roots.getD q none with
   | none=>rfl
   | some i=>rw[hx] at this;rw[this] at hu;cases hu
  have hr:rootsW M (q+1)=rootsW M q:=by rw[rootsW_succ,hn]
  refine ⟨tag',H',v,hs.raw,by rw[hr];exact hs.mid,hs.eq,fun x=>?_,hs.len,by rw[hr];exact hs.cat,hs.fr,hs.z3,hs.z4,hs.sz⟩
  rw[hs.cH x,hr]
  by_cases e:x=q
  ·subst e;rw[hn];rfl
  ·by_cases e2:x<q
   ·rw[if_pos e2,if_pos (by omega)]
   ·rw[if_neg e2,if_neg (by omega)]
 case hIr=>
  rintro q W hq ⟨tag',H',v,hs⟩
  have ha:=hg (by omega)
  have hv:H'.vcH=H.vcH:=by rw[hs.eq]
  obtain ⟨g',cap',hv',hg',hc'⟩:=hs.raw.pH.row.at (by rw[hs.len];omega)
  have hgg:g'=g:=by
   rw[hv,hvc,ha] at hg'
   cases hg'
   rfl
  subst hgg
  have q0:H'.cH.getD q none=H.cH.getD q none:=by rw[hs.cH q,h.cH q,if_neg (by omega)]
  refine ⟨ha,?_,?_⟩
  ·have:=(hc' (q*2) (by rw[hs.len];omega)).1
   rw[pc_thing,q0] at this
   rw[this]
   cases hx:H.cH.getD q none with
   | none=>rfl
   | some x=>rfl
  ·have:=(hc' (q*2+1) (by rw[hs.len];omega)).1
   rw[pc_used,q0] at this
   exact this
 case hIc=>rintro q W ⟨tag',H',v,hs⟩;exact hs.box hz0
 case hJc=>rintro q W ⟨tag',H',v,hs⟩;exact hs.box hz0
 case hrow=>
  rintro W ⟨tag',H',v,hs⟩
  have hv:H'.vcH=H.vcH:=by rw[hs.eq]
  have:=hs.raw.pH.c0
  rw[hv,hvc] at this
  exact this
 case hmove=>
  rintro q W hq hu ⟨tag',H',v,hs⟩ hlt hrec
  obtain ⟨i,hi⟩:∃ i,M.roots.getD q none=some i:=by
   have:=h.cH q
   cases hx:M.roots.getD q none with
   | none=>rw[hx] at this;rw[this] at hu;cases hu
   | some i=>exact ⟨i,rfl⟩
  have e1:(H.cH.getD q none).getD 0=refW M i:=by rw[h.cH q,hi];rfl
  show Calls Tryz.prog 110 #[.pointer (some ⟨w.heap.size+1,0,none⟩),.int .u64 ((H.cH.getD q none).getD 0:Nat)] W _
  rw[e1]
  have:=hd_move ok hs i hi
  refine this.mono ?_
  rintro e w' ⟨rfl,hh,k1,k2⟩
  exact ⟨by rw[hi];rfl,hh,k1,k2⟩
 case hset=>
  rintro q W hq hu ⟨tag',H',v,hs⟩
  obtain ⟨i,hi⟩:∃ i,M.roots.getD q none=some i:=by
   have:=h.cH q
   cases hx:M.roots.getD q none with
   | none=>rw[hx] at this;rw[this] at hu;cases hu
   | some i=>exact ⟨i,rfl⟩
  have:=hd_set hs i hi
  rw[show newRef M (rootsW M (q+1)).cop ((M.roots.getD q none).getD 0)=newRef M (rootsW M (q+1)).cop i by rw[hi];rfl]
  exact this
 case hS0=>
  rintro W ⟨tag',H',v,hs⟩ hlt hK
  exact ⟨meas M (stR M H.cH.length),by rw[hPI];exact ⟨W,tag',H',v,_,hs,hK,.refl _,hs.st,rfl⟩⟩
 case hSc=>
  rintro W ⟨m,hm⟩
  rw[hPI] at hm
  obtain ⟨WN,tagN,HN,vN,s,hN,hK,hst,⟨tg,Hs,v,_,_,_,_,fr,_,_⟩,_⟩:=hm
  exact coll_box (hN.fr.trans fr) hz0
 case hstep=>
  intro W hW
  obtain ⟨h1,h2⟩:=hμ W hW
  rw[hPI] at h1
  obtain ⟨WN,tagN,HN,vN,s,hN,hK,hst,hat,hms⟩:=h1
  have hpu:Pu M s.k:=by
   obtain ⟨tg,Hs,v,_,mm,_⟩:=hat
   exact ⟨mm.nd,mm.cs,mm.ls⟩
  have next:∀ s' w',stepW M s=some s'→StAt WN tagN ph (w.heap.size+1) M HN s' w'→(∃ m,PI w' m)∧μ w'<μ W:=fun s' w' e hs'=>by
   have hp:PI w' (meas M s'):=by rw[hPI];exact ⟨WN,tagN,HN,vN,s',hN,hK,hst.more e,hs',rfl⟩
   refine ⟨⟨_,hp⟩,?_⟩
   have q1:=(hμ w' ⟨_,hp⟩).2 _ hp
   have q2:=meas_step hpu (hcl s hst) e
   omega
  by_cases ha:s.a<s.k.cop.length
  ·refine ⟨true,(mid_step_small ok hat ha).mono ?_⟩
   rintro e w' ⟨rfl,hs'⟩
   exact ⟨rfl,fun _=>next _ w' (by unfold stepW;rw[if_pos ha]) hs',fun x=>by cases x⟩
  ·by_cases hb:s.b<s.k.lin.length
   ·refine ⟨true,(mid_step_large ok hat ha hb).mono ?_⟩
    rintro e w' ⟨rfl,hs'⟩
    exact ⟨rfl,fun _=>next _ w' (by unfold stepW;rw[if_neg ha,if_pos hb]) hs',fun x=>by cases x⟩
   ·refine ⟨false,(mid_step_none ok hat ha hb).mono ?_⟩
    rintro e w' ⟨rfl,hs'⟩
    have hend:stepW M s=none:=by unfold stepW;rw[if_neg ha,if_neg hb]
    have hst':s=t:=star_end hst hend ht1 ht2
    subst hst'
    exact ⟨rfl,fun x=>(by cases x),fun _=>⟨WN,tagN,HN,vN,hN,hK,hs'⟩⟩
 case hT=>
  rintro W ⟨WN,tagN,HN,vN,hN,hK,tg,Hs,v,hr,mm,he,cc,fr,_,_⟩
  have e1:Hs.a=H.a:=by rw[he,hN.eq]
  have e2:Hs.s=H.s:=by rw[he,hN.eq]
  refine ⟨coll_box (hN.fr.trans fr) hz0,?_,?_,hr.fz 1 (by decide),hr.fz 2 (by decide)⟩
  ·rw[← e1];exact hr.n1
  ·rw[← e2];exact hr.n2
 case hclear=>
  rintro W ⟨WN,tagN,HN,vN,hN,hK,tg,Hs,v,hr,mm,he,cc,fr,_,_⟩
  have e1:Hs.a=H.a:=by rw[he,hN.eq]
  have e2:Hs.s=H.s:=by rw[he,hN.eq]
  have ecH:Hs.cH=HN.cH:=by rw[he]
  obtain ⟨r1,r2⟩:=hr.swap ((W.setCell ⟨ph,1,none⟩ (.pointer (some ⟨H.s.1,0,none⟩))).setCell ⟨ph,2,none⟩ (.pointer (some ⟨H.a.1,0,none⟩))).drew (by rw[e1,e2])
  generalize ((W.setCell ⟨ph,1,none⟩ (.pointer (some ⟨H.s.1,0,none⟩))).setCell ⟨ph,2,none⟩ (.pointer (some ⟨H.a.1,0,none⟩))).drew=W1 at *
  have hSS:=r1.hS
  have hSS':ArR W1 H.a Hs.A:=by rw[← e1];exact hSS
  refine (r_clear hSS').mono ?_
  rintro e w' ⟨rfl,g1,g2⟩
  have hTS:swapT tg H.a.1=3∧swapT tg H.a.2.1=3∧swapT tg H.a.2.2=3:=by rw[← e1];exact r1.tS
  have hbb:∀ x,swapT tg x≠0→swapT tg x ∉ [3]→w'.heap[x]?=W1.heap[x]?:=fun x q1 q2=>g2.block x (r1.un x q1) (fun hm=>q2 (by
   simp only[List.mem_cons,List.not_mem_nil,or_false] at hm ⊢
   rcases hm with rfl|rfl|rfl
   exact hTS.1;exact hTS.2.1;exact hTS.2.2))
  have h00:∀ x,x<W1.heap.size→swapT tg x=0→w'.heap[x]?=W1.heap[x]?:=fun x q1 q2=>g2.block x q1 (fun hm=>by
   simp only[List.mem_cons,List.not_mem_nil,or_false] at hm
   rcases hm with rfl|rfl|rfl <;> omega)
  have hAs:Hs.A.size=M.half:=by rw[mm.A];rfl
  rw[hAs] at g1
  have h':=r1.turn [3] (by simp) (by simp) g2.size hbb Hs.S (RefSt.new M.half) Hs.cH Hs.bk Hs.re (.inl ⟨by simp,rfl⟩) (.inr (by show ArR w' Hs.a _;rw[e1];exact g1)) (.inl ⟨by simp,rfl⟩) (fun s bp hs=>.inl ⟨by simp;omega,rfl,rfl⟩)
  have frA:=(hN.fr.trans fr).trans r2
  have frB:Fr (swapT tg) (swapT tg) W1 w':=⟨g2.os,g2.tape,g2.output,g2.size,fun x hx e=>⟨h00 x hx e,e⟩⟩
  have hNs:=hN.sz
  have z1:=fr.blk (w.heap.size+3) (by omega) hN.z3
  have z2:=r2.blk (w.heap.size+3) (by have:=fr.size;omega) z1.2
  have z3:=frB.blk (w.heap.size+3) (by have:=fr.size;have:=r2.size;omega) z2.2
  refine ⟨rfl,swapT tg,_,⟨h',mm.S,rfl,?_,mm.bk,mm.re,fun x=>?_,?_,frA.trans frB,z3.2,?_,?_⟩⟩
  ·have hE:=hN.eq
   rw[hE] at he
   rw[he]
  ·show Hs.cH.getD x none=_
   rw[ecH,hN.cH x]
   cases hx:M.roots.getD x none with
   | none=>rfl
   | some i=>
    have hxn:x<H.cH.length:=Classical.byContradiction (fun q=>by rw[hpast x (by omega)] at hx;cases hx)
    rw[if_pos hxn]
    show some (newRef M (rootsW M H.cH.length).cop i)=some (newRef M t.k.cop i)
    obtain ⟨_,⟨u1,eu⟩,_⟩:=Cl.star ht1 (cl_start M H.cH.length)
    have eu':t.k.cop=(rootsW M H.cH.length).cop++u1:=eu
    rw[eu',newRef_more]
    rcases rootsW_has M _ x i hxn hx with z|z|z
    ·exact .inl z
    ·exact .inr (.inr z)
    ·exact .inr (.inl (lin_big ok hN.mid i z))
  ·show Hs.cH.length=_
   rw[ecH];exact hN.len
  ·rw[z3.1,z2.1,z1.1];exact hK
  ·have:=fr.size;have:=r2.size;have:=g2.size;omega
 case hT2=>rintro W ⟨tag2,H2,c2⟩;exact coll_box c2.fr hz0
 case hsweep=>
  rintro W ⟨tag2,H2,c2⟩
  have ecB:H2.cB=H.cB:=by rw[c2.eq]
  have efr:H2.frB=H.frB:=by rw[c2.eq]
  have elg:H2.large=H.large:=by rw[c2.eq]
  have hcB:∀ s,(H2.cB.getD s none).isSome=true↔M.slots.getD s 0≠0:=by rw[ecB];exact h.cB
  have hl1:H2.cB.length≤M.slots.length:=by rw[ecB];exact h.lB.1
  have hlg:H2.large=sumB H2.cB.length (swT H2 0):=by rw[elg,h.nG,wf.lg];exact blocks_lg wf hl1 hcB _ _ c2.bk
  have hl2:H2.large≤1048576:=by rw[elg,h.nG];have:=wf.lm;have:=wf.l2;omega
  refine (sweep_any c2.raw M.slots.length ok.sl hl1 (by rw[efr];exact h.lB.2) hlg hl2).mono ?_
  rintro e w' ⟨rfl,tag3,H3,r1,r2,r3,r4,r5,r6⟩
  have hsz:=c2.sz
  have z:=r2.blk (w.heap.size+3) (by omega) c2.z3
  have hkept:=blocks_kept hl1 hcB _ _ c2.bk c2.re (fun x=>(hfin.ls 0 x).1 rfl)
  rw[hkept] at r3
  exact ⟨rfl,tag3,H3,H2,r1,c2.A,c2.S,c2.eq,c2.bk,c2.re,c2.cH,c2.len,r3,r4,⟨by rw[← ecB];exact r5,r6⟩,c2.fr.trans r2,z.2,z.1.trans c2.kD,Nat.le_trans hsz r2.size⟩
 case hT3=>
  rintro W ⟨tag3,H3,H2,c3⟩
  have e1:H3.a=H.s:=by rw[c3.eq3,c3.eq2]
  have e2:H3.large=lgOf M (slC M t.k):=by rw[c3.eq3]
  refine ⟨coll_box c3.fr hz0,?_,?_,⟨_,c3.raw.n10⟩,c3.raw.fz 10 (by decide),⟨_,c3.raw.n11⟩,c3.raw.fz 11 (by decide),c3.kD⟩
  ·rw[← e1];exact c3.raw.n1
  ·have:=c3.raw.n9;rw[e2] at this;exact this
 case hused=>
  rintro W ⟨tag3,H3,H2,c3⟩ W' hst
  have e1:H3.a=H.s:=by rw[c3.eq3,c3.eq2]
  have e2:H3.A=midS M t.k.cop (pgOf M t):=by rw[c3.eq3];exact c3.A
  have hA:=c3.raw.hA
  rw[e1,e2] at hA
  have hb:∀ x,tag3 x=2→W'.heap[x]?=W.heap[x]?:=fun x e=>by
   rw[hst.heap,setCell_else _ _ _ _ _ (by rintro rfl;have:=c3.raw.t1;omega)]
  have hT:=c3.raw.tA
  rw[e1] at hT
  have:=r_used (hA.conf (w':=W') (by rw[hst.heap,World.size_setCell];exact Nat.le_refl _) (hb _ hT.1) (hb _ hT.2.1) (hb _ hT.2.2))
  have hu:(midS M t.k.cop (pgOf M t)).used=place (shapes M t.k.cop) t.k.cop.length:=by
   show place (shapes M t.k.cop) (shapes M t.k.cop).length=_
   rw[shapes_length]
  rw[hu] at this
  exact this
 case hR=>
  rintro W ⟨tag3,H3,H2,c3⟩ W' hst o
  have e0:((place (shapes M t.k.cop) t.k.cop.length:Nat):Int)-1=((place (shapes M t.k.cop) t.k.cop.length-1:Nat):Int):=by have:=hU.1;omega
  rw[e0] at hst
  have h1:=c3.raw.marks (lgOf M (slC M t.k)) (place (shapes M t.k.cop) t.k.cop.length-1) W' hst
  have hWs:W'.heap.size=W.heap.size:=by rw[hst.heap,World.size_setCell,World.size_setCell]
  have frC:Fr tag3 tag3 W W':=⟨hst.os,hst.tape,hst.output,by rw[hWs];exact Nat.le_refl _,fun x hx e=>⟨by
   rw[hst.heap,setCell_else _ _ _ _ _ (by rintro rfl;have:=c3.raw.t1;omega),setCell_else _ _ _ _ _ (by rintro rfl;have:=c3.raw.t1;omega)],e⟩⟩
  have h2:=hraw_put h1 (w.heap.size+3) o c3.z3
  have hcs:=collW_size w ph H.coll
  have frD:=c3.fr.trans frC
  have e1:H3.re=H2.re:=by rw[c3.eq3]
  have e2:H3.coll=H2.coll:=by rw[c3.eq3]
  have e3:H3.bk=H2.bk:=by rw[c3.eq3]
  have e4:H3.cH=H2.cH:=by rw[c3.eq3]
  have e5:H2.coll=H.coll+1:=by rw[c3.eq2]
  have e6:H2.cB=H.cB:=by rw[c3.eq2]
  have hslot:∀ s,(collM M t.k).slots.getD s 0=if M.slots.getD s 0∈t.k.lin then M.slots.getD s 0 else 0:=fun s=>slC_at M t.k s
  have hused:∀ s,(collM M t.k).slots.getD s 0≠0→M.slots.getD s 0≠0∧M.slots.getD s 0∈t.k.lin∧(collM M t.k).slots.getD s 0=M.slots.getD s 0:=fun s hs=>by
   have q:=hslot s
   by_cases hm:M.slots.getD s 0∈t.k.lin
   ·rw[if_pos hm] at q;exact ⟨(hfin.ls _ hm).1,hm,q⟩
   ·rw[if_neg hm] at q;exact absurd q hs
  have pgc:∀ i,i∈t.k.cop∨i∈t.k.lin→pgOf M t i=(ob M i).refs.length:=fun i hi=>by
   unfold pgOf
   rw[hta,htb,List.take_length,List.take_length,if_pos hi]
  refine ⟨tag3,_,t,by rw[hroots];exact ht1,ht2,hfin,⟨h2,hfin.wf wf,?_,?_,rfl,rfl,?_,?_,?_,?_,fun s=>?_,fun s hs=>?_,fun s hs=>?_,fun x=>?_,?_,?_⟩,?_⟩
  ·show H3.limit=M.limit;rw[c3.eq3,c3.eq2];exact h.nL
  ·show H3.large=lgOf M (slC M t.k);rw[c3.eq3]
  ·show H3.coll=M.coll+1;rw[e2,e5,h.nC]
  ·show H3.resz=M.resz;rw[c3.eq3,c3.eq2];exact h.nR
  ·show H3.A=midA (collM M t.k) []
   have hA3:H3.A=midS M t.k.cop (pgOf M t):=by rw[c3.eq3];exact c3.A
   rw[hA3]
   unfold midS midA
   have p1:shapes M t.k.cop=shapes (collM M t.k) (collM M t.k).small:=(hfin.shapesE wf).symm
   have p2:t.k.cop.map (fun i=>mix M t.k.cop (pgOf M t i) i)=(collM M t.k).small.map (fun i=>mix (collM M t.k) [] 0 i):=List.map_congr_left (fun i hi=>by rw[pgc i (.inl hi),hfin.mixE wf (.inl hi)])
   have p3:t.k.cop.map (fun _=>(none:Option Nat))=(collM M t.k).small.map (fun i=>if i∈([]:List Nat) then some (addr (collM M t.k) [] i) else none):=List.map_congr_left (fun i hi=>by rw[if_neg (by simp)])
   rw[p1,p2,p3]
   rfl
  ·show H3.S=RefSt.new M.half;rw[c3.eq3];exact c3.S
  ·show (H3.cB.getD s none).isSome=true↔_
   rw[c3.cB s,hslot s,e6]
   by_cases h0:M.slots.getD s 0=0
   ·have hn:H.cB.getD s none=none:=by
     cases hx:H.cB.getD s none with
     | none=>rfl
     | some x=>exact absurd h0 ((h.cB s).1 (by rw[hx];rfl))
    rw[hn,h0]
    have:(0:Nat) ∉ t.k.lin:=fun x=>(hfin.ls 0 x).1 rfl
    rw[if_neg this]
    split <;> simp
   ·have hr:=c3.re s h0
    by_cases hm:M.slots.getD s 0∈t.k.lin
    ·rw[if_neg (fun x=>x (hr.2 hm)),if_pos hm]
     exact ⟨fun _=>h0,fun _=>(h.cB s).2 h0⟩
    ·rw[if_pos (fun x=>hm (hr.1 x)),if_neg hm]
     simp
  ·obtain ⟨q1,q2,q3⟩:=hused s hs
   show H3.bk s=midK (collM M t.k) [] (fun _=>0) ((collM M t.k).slots.getD s 0)
   rw[e3,c3.bk s q1,q3]
   unfold midK
   rw[pgc _ (.inr q2),hfin.shpE wf (.inr q2),hfin.mixE wf (.inr q2),hfin.oszE wf (.inr q2)]
  ·obtain ⟨q1,q2,q3⟩:=hused s hs
   show H3.re s≤H3.coll
   rw[e1,e2,(c3.re s q1).2 q2]
   exact Nat.le_refl _
  ·show H3.cH.getD x none=(M.roots.getD x none).map (refW (collM M t.k))
   rw[e4,c3.cH x]
   cases hx:M.roots.getD x none with
   | none=>rfl
   | some i=>
    show some (newRef M t.k.cop i)=some (refW (collM M t.k) i)
    rw[hfin.ref wf (hfin.rt i (roots_mem hx))]
  ·refine ⟨?_,fun x hx=>?_⟩
   ·show H3.cB.length≤(M.slots.map _).length
    rw[List.length_map]
    exact Nat.le_trans c3.lB.1 h.lB.1
   ·show x<(M.slots.map _).length
    rw[List.length_map]
    exact c3.lB.2 x hx
  ·refine ⟨?_,fun x hx=>?_⟩
   ·show H3.cH.length≤M.roots.length
    rw[e4,c3.len]
    exact h.lH.1
   ·have:H3.frH=H.frH:=by rw[c3.eq3,c3.eq2]
    exact h.lH.2 x (by rw[← this];exact hx)
  ·refine ⟨?_,?_,?_,?_,fun x hx e=>?_⟩
   ·exact frD.os
   ·exact frD.tape
   ·exact frD.output
   ·have:=frD.size;have hh:(W'.putObj (w.heap.size+3) o).heap.size=W'.heap.size:=by simp
    omega
   ·have q0:tag0 x=0:=by rw[htag0];unfold tagC;rw[if_neg (by omega)];exact e
    have q1:=frD.blk x (by omega) q0
    refine ⟨?_,q1.2⟩
    rw[World.putObj_heap_other (by omega),q1.1]
    unfold collW
    have hs0:(w.setCell ⟨ph,12,none⟩ (.int .i64 ((H.coll:Int)+1))).heap.size=w.heap.size:=World.size_setCell ..
    rw[heap_alloc_old _ _ (by rw[World.size_alloc,World.size_alloc,hs0];omega),heap_alloc_old _ _ (by rw[World.size_alloc,hs0];omega),heap_alloc_old _ _ (by rw[hs0];exact hx),setCell_else _ _ _ _ _ (by rintro rfl;rw[h.raw.t1] at e;cases e)]
theorem wantF_ok:∀ (f u h:Nat),1≤h→(4*u≤3*wantF f u h∨wantF f u h=h*2 ^ f)∧(wantF f u h=h∨3*wantF f u h<8*u)∧h≤wantF f u h
 | 0,u,h,h1=>by unfold wantF;exact ⟨.inr (by simp),.inl rfl,Nat.le_refl _⟩
 | f+1,u,h,h1=>by
  unfold wantF
  by_cases hc:3*h<4*u
  ·rw[if_pos hc]
   obtain ⟨i1,i2,i3⟩:=wantF_ok f u (h*2) (by omega)
   refine ⟨?_,?_,by omega⟩
   ·rcases i1 with q|q
    ·exact .inl q
    ·exact .inr (by rw[q,Nat.pow_succ,Nat.mul_assoc,Nat.mul_comm 2])
   ·rcases i2 with q|q
    ·exact .inr (by rw[q];omega)
    ·exact .inr q
  ·rw[if_neg hc]
   exact ⟨.inl (by omega),.inl rfl,Nat.le_refl _⟩
theorem wantOf_ok (u:Nat) (hu:u≤4194304):4*u≤3*wantOf u∧(wantOf u=64∨3*wantOf u<8*u)∧64≤wantOf u∧wantOf u≤16777216:=by
 obtain ⟨h1,h2,h3⟩:=wantF_ok 40 u 64 (by omega)
 have e:wantOf u=wantF 40 u 64:=rfl
 rw[← e] at h1 h2 h3
 have h4:wantOf u≤16777216:=by rcases h2 with q|q <;> omega
 refine ⟨?_,h2,h3,h4⟩
 rcases h1 with q|q
 ·exact q
 ·exfalso
  have:(64:Nat)*2 ^ 40=70368744177664:=by decide
  rw[this] at q
  omega
def fitM (M:Hp) (s:Nat):Hp:=
 if 3*M.half<4*(M.used+s) then (if M.half<min (wantOf (M.used+s)) ((M.limit-M.large) / 2) then becM M (min (wantOf (M.used+s)) ((M.limit-M.large) / 2)) else M)
 else if 64<M.half∧8*(M.used+s)<M.half then becM M (wantOf (M.used+s)) else M
theorem HAt.still {w w':World}{ph:Nat}{tag:Nat→Nat}{M:Hp}{H:HC} (h:HAt w ph tag M H) (k:Below w.heap.size w w'):HAt w' ph tag M H:=
 { h with raw:=h.raw.below k }
theorem fit_any {w:World}{ph:Nat}{tag:Nat→Nat}{M:Hp}{H:HC} (h:HAt w ph tag M H) (s:Nat) (hs:s≤64) (hr:M.resz≤1000000000000):
  Calls Tryz.prog 71 #[.pointer (some ⟨ph,0,none⟩),.int .i64 (s:Nat)] w fun e w'=>e=.returned (.tuple #[])∧∃ tag' H',HAt w' ph tag' (fitM M s) H'∧Fr tag tag' w w':=by
 have wf:=h.wf
 have ok:=wf.ok
 have hA:=h.raw.hA
 rw[h.A] at hA
 have hu2:=ok.u2
 have hl2:=wf.l2
 have hlm:=wf.lm
 have hh1:=wf.h1
 have e0:=h.raw.n0
 rw[h.nL] at e0
 have e9:=h.raw.n9
 rw[h.nG] at e9
 have cf:∀ W,Still w W→ArR W H.a (midA M []):=fun W k=>hA.conf (by rw[k.heap];exact Nat.le_refl _) (by rw[k.heap]) (by rw[k.heap]) (by rw[k.heap])
 have HU:∀ W,Still w W→Calls Tryz.prog 64 #[.pointer (some ⟨H.a.1,0,none⟩)] W fun e w'=>e=.returned (.int .i64 (M.used:Nat))∧w'=W:=fun W k=>by
  have:=r_used (cf W k)
  rw[midA_used M ok] at this
  exact this
 have HS:∀ W,Still w W→Calls Tryz.prog 63 #[.pointer (some ⟨H.a.1,0,none⟩)] W fun e w'=>e=.returned (.int .i64 (M.half:Nat))∧w'=W:=fun W k=>r_size (cf W k)
 have HW:∀ W,Calls Tryz.prog 114 #[.int .i64 ((M.used+s:Nat):Int)] W fun e w'=>e=.returned (.int .i64 (wantOf (M.used+s):Nat))∧w'=W:=fun W=>want_any _ (by omega) W
 obtain ⟨w1,w2,w3,w4⟩:=wantOf_ok (M.used+s) (by omega)
 have same:∀ w',Still w w'→∃ tag' H',HAt w' ph tag' M H'∧Fr tag tag' w w':=fun w' k=>⟨tag,H,h.still k.below,Fr.of_below k.below⟩
 unfold fitM
 by_cases c1:3*M.half<4*(M.used+s)
 ·rw[if_pos c1]
  by_cases c2:M.half<min (wantOf (M.used+s)) ((M.limit-M.large) / 2)
  ·rw[if_pos c2]
   refine fit_grow (R:=fun w'=>∃ tag' H',HAt w' ph tag' (becM M (min (wantOf (M.used+s)) ((M.limit-M.large) / 2))) H'∧Fr tag tag' w w') (by omega) (by omega) (by omega) hl2 (by omega) w4 e0 h.raw.n1 e9 HU HS HW c1 c2 (fun W k=>?_)
   have m1:min (wantOf (M.used+s)) ((M.limit-M.large) / 2)≤(M.limit-M.large) / 2:=Nat.min_le_right _ _
   refine (become_any (h.still k.below) _ (by omega) (by omega) (by omega) hr).mono ?_
   rintro e w' ⟨rfl,tag',H',q1,q2⟩
   exact ⟨rfl,tag',H',q1,(Fr.of_below k.below).trans q2⟩
  ·rw[if_neg c2]
   refine (fit_stay (R:=fun _=>True) (by omega) (by omega) (by omega) hl2 (by omega) w4 e0 h.raw.n1 e9 HU HS HW c1 (by omega)).mono ?_
   rintro e w' ⟨rfl,k⟩
   exact ⟨rfl,same w' k⟩
 ·rw[if_neg c1]
  by_cases c2:64<M.half∧8*(M.used+s)<M.half
  ·rw[if_pos c2]
   refine fit_shrink (R:=fun w'=>∃ tag' H',HAt w' ph tag' (becM M (wantOf (M.used+s))) H'∧Fr tag tag' w w') (by omega) (by omega) (by omega) hl2 (by omega) w4 e0 h.raw.n1 e9 HU HS HW (by omega) c2.1 c2.2 (fun W k=>?_)
   refine (become_any (h.still k.below) _ w3 (by omega) (by rcases w2 with q|q <;> omega) hr).mono ?_
   rintro e w' ⟨rfl,tag',H',q1,q2⟩
   exact ⟨rfl,tag',H',q1,(Fr.of_below k.below).trans q2⟩
  ·rw[if_neg c2]
   refine (fit_keep (R:=fun _=>True) (by omega) (by omega) (by omega) hl2 (by omega) w4 e0 h.raw.n1 e9 HU HS HW (by omega) c2).mono ?_
   rintro e w' ⟨rfl,k⟩
   exact ⟨rfl,same w' k⟩
def IsColl (M M':Hp):Prop:=∃ t,Star M (stR M M.roots.length) t∧stepW M t=none∧Fin' M t.k∧M'=collM M t.k
theorem IsColl.nums {M M':Hp} (h:IsColl M M'):M'.limit=M.limit∧M'.half=M.half∧M'.coll=M.coll+1∧M'.resz=M.resz∧M'.roots=M.roots∧M'.objs.length=M.objs.length:=by
 obtain ⟨t,a1,a2,a3,rfl⟩:=h
 refine ⟨rfl,rfl,rfl,rfl,rfl,?_⟩
 show ((List.range M.objs.length).map _).length=_
 rw[List.length_map,List.length_range]
theorem coll_any {w:World}{ph:Nat}{tag:Nat→Nat}{M:Hp}{H:HC} (h:HAt w ph tag M H) (hc:M.coll≤1000000000000):
  Calls Tryz.prog 70 #[.pointer (some ⟨ph,0,none⟩)] w fun e w'=>e=.returned (.tuple #[])∧∃ tag' H' M',IsColl M M'∧HAt w' ph tag' M' H'∧Fr tag tag' w w':=by
 refine (collect_any h hc).mono ?_
 rintro e w' ⟨rfl,tag',H',t,a1,a2,a3,a4,a5⟩
 exact ⟨rfl,tag',H',_,⟨t,a1,a2,a3,rfl⟩,a4,a5⟩
theorem hcollect_any {w:World}{ph:Nat}{tag:Nat→Nat}{M:Hp}{H:HC} (h:HAt w ph tag M H) (hc:M.coll≤1000000000000) (hr:M.resz≤1000000000000):
  Calls Tryz.prog 32 #[.pointer (some ⟨ph,0,none⟩)] w fun e w'=>e=.returned (.tuple #[])∧∃ tag' H' M',IsColl M M'∧HAt w' ph tag' (fitM M' 0) H'∧Fr tag tag' w w':=by
 have H1:=hide (coll_any h hc)
 have H2:Hid (∀ W tag' H' M',IsColl M M'→HAt W ph tag' M' H'→Calls Tryz.prog 71 #[.pointer (some ⟨ph,0,none⟩),.int .i64 ((0:Nat):Int)] W fun e w'=>e=.returned (.tuple #[])∧∃ tag'' H'',HAt w' ph tag'' (fitM M' 0) H''∧Fr tag' tag'' W w'):=hide (fun W tag' H' M' k q=>fit_any q 0 (by omega) (by rw[k.nums.2.2.2.1];exact hr))
 clear h
 go_enter Tryz.func32,Tryz.ntmps32
 go_wp2_with fail
 refine (unhide H1).mono ?_
 clear H1
 rintro e w1 ⟨rfl,tag',H',M',k1,k2,k3⟩
 have H3:=hide (unhide H2 w1 tag' H' M' k1 k2)
 have K1:=hide k1
 have K3:=hide k3
 clear H2 k1 k2 k3
 go_wp2_with fail
 refine (unhide H3).mono ?_
 clear H3
 rintro e w2 ⟨rfl,tag2,H2',q1,q2⟩
 go_wp2
 go_end0
 exact ⟨rfl,tag2,H2',M',unhide K1,q1,(unhide K3).trans q2⟩
structure Agree (M N:Hp) (k:Wk):Prop where
 rt:N.roots=M.roots
 ob:∀ i,i∈k.cop∨i∈k.lin→(ob N i).refs=(ob M i).refs∧(ob N i).big=(ob M i).big
theorem fit_half (M:Hp) (s:Nat):(fitM M s).half=if 3*M.half<4*(M.used+s) then (if M.half<min (wantOf (M.used+s)) ((M.limit-M.large) / 2) then min (wantOf (M.used+s)) ((M.limit-M.large) / 2) else M.half) else if 64<M.half∧8*(M.used+s)<M.half then wantOf (M.used+s) else M.half:=by
 have hb:∀ n,(becM M n).half=n:=fun n=>by
  unfold becM
  split
  ·rename_i h;exact h.symm
  ·rfl
 unfold fitM
 split
 ·split
  ·exact hb _
  ·rfl
 ·split
  ·exact hb _
  ·rfl
theorem r_alloc_yes {w:World}{a:Nat × Nat × Nat}{R:RefSt} (h:ArR w a R) (k r s:Nat) (hf:Fits k r s) (hfit:R.used+(1+r+s)≤R.size):
  Calls Tryz.prog 119 #[.pointer (some ⟨a.1,0,none⟩),.int .i64 (k:Nat),.int .i64 (r:Nat),.int .i64 (s:Nat)] w fun e w'=>e=.returned (.tuple #[.int .i64 (R.used:Nat),.int .i64 0])∧ArR w' a (R.lay k r s (List.replicate (r+s) 0) undef (.slice none 0 0))∧But [a.1,a.2.1,a.2.2] w w':=by
 obtain ⟨ws,hs,used,h,r',o⟩:=h
 have hn:used+(1+r+s)≤ws.length:=by rw[r'.us,r'.sz];exact hfit
 refine (alloc_yes k r s w h hf hn).mono ?_
 rintro e w' ⟨rfl,q1,q2⟩
 have f1:(1:Int)≤k:=hf.1
 have f2:(k:Int)≤255:=hf.2.1
 refine ⟨by rw[r'.us],⟨_,_,_,q1,alloc_rel r' o k r s undef (.slice none 0 0) hn,o.lay k r s _ _ _ (by omega) (by omega) (by simp) (fun q=>by rw[getD_zeros];decide) hfit⟩,q2⟩
theorem r_alloc_full {w:World}{a:Nat × Nat × Nat}{R:RefSt} (h:ArR w a R) (k r s:Nat) (hf:Fits k r s) (hfit:R.size<R.used+(1+r+s)):
  Calls Tryz.prog 119 #[.pointer (some ⟨a.1,0,none⟩),.int .i64 (k:Nat),.int .i64 (r:Nat),.int .i64 (s:Nat)] w fun e w'=>e=.returned (.tuple #[.int .i64 0,.int .i64 22])∧Below w.heap.size w w':=by
 obtain ⟨ws,hs,used,h,r',o⟩:=h
 exact alloc_full k r s w h hf (by rw[r'.us,r'.sz];exact hfit)
def newOb (k r s:Nat) (big:Bool) (at':Nat):Ob:=⟨k,List.replicate r 0,List.replicate s 0,true,big,at'⟩
def addS (M:Hp) (k r s:Nat):Hp:={ M with used:=M.used+(1+r+s),objs:=M.objs ++ [newOb k r s false M.used],small:=M.small ++ [M.objs.length] }
theorem ob_old {M M':Hp}{x:Ob} (h:M'.objs=M.objs ++ [x]) {i:Nat} (hi:i<M.objs.length):ob M' i=ob M i:=by
 unfold ob
 rw[h,List.getD_eq_getElem?_getD,List.getElem?_append_left hi,List.getD_eq_getElem?_getD]
theorem ob_new {M M':Hp}{x:Ob} (h:M'.objs=M.objs ++ [x]):ob M' M.objs.length=x:=by
 unfold ob
 rw[h,List.getD_eq_getElem?_getD,List.getElem?_append_right (Nat.le_refl _)]
 simp
theorem refW_old {M M':Hp}{x:Ob} (h:M'.objs=M.objs ++ [x]) {i:Nat} (hi:i=0∨i<M.objs.length):refW M' i=refW M i:=by
 unfold refW
 by_cases h0:i=0
 ·rw[if_pos h0,if_pos h0]
 ·rw[if_neg h0,if_neg h0,ob_old h (hi.resolve_left h0)]
theorem mix_old {M M':Hp} (wf:HpWf M) {x:Ob} (h:M'.objs=M.objs ++ [x]) {i:Nat} (hi:Is M i):mix M' [] 0 i=mix M [] 0 i:=by
 rw[mix_zero,mix_zero,ob_old h (wf.ln i hi)]
 rw[List.map_congr_left (fun r hr=>refW_old h ((wf.ok.rf i hi r hr).imp id (fun q=>wf.ln r q)))]
theorem mix_new {M M':Hp}{k r s:Nat}{big:Bool}{at':Nat} (h:M'.objs=M.objs ++ [newOb k r s big at']):mix M' [] 0 M.objs.length=List.replicate (r+s) 0:=by
 rw[mix_zero,ob_new h]
 show (List.replicate r 0).map (refW M')++List.replicate s 0=_
 rw[List.map_replicate,show refW M' 0=0 by unfold refW;rw[if_pos rfl],List.replicate_append_replicate]
theorem shapes_old {M M':Hp} (wf:HpWf M) {x:Ob} (h:M'.objs=M.objs ++ [x]):shapes M' M.small=shapes M M.small:=List.map_congr_left (fun i hi=>by rw[ob_old h (wf.ln i (.inl hi))])
theorem addS_wf {M:Hp} (wf:HpWf M) (h1:1≤M.objs.length) (k r s:Nat) (hs:1+r+s≤64) (hfit:M.used+(1+r+s)≤M.half):HpWf (addS M k r s):=by
 have e:(addS M k r s).objs=M.objs ++ [newOb k r s false M.used]:=rfl
 have hn:M.objs.length ∉ M.small:=fun q=>by have:=wf.ln _ (.inl q);omega
 have hsl:∀ i,i≠0→i∈M.slots→i<M.objs.length:=fun i h0 h=>wf.ln i (.inr ⟨h0,h⟩)
 have hIs:∀ i,Is (addS M k r s) i→i=M.objs.length∨Is M i:=by
  intro i h
  rcases h with h|h
  ·rcases List.mem_append.1 h with q|q
   ·exact .inr (.inl q)
   ·exact .inl (List.mem_singleton.1 q)
  ·exact .inr (.inr h)
 have hIs2:∀ i,Is M i→Is (addS M k r s) i:=by
  intro i h
  rcases h with h|h
  ·exact .inl (List.mem_append.2 (.inl h))
  ·exact .inr h
 have hsh:shapes (addS M k r s) (M.small ++ [M.objs.length])=shapes M M.small ++ [(k,r,s)]:=by
  rw[shapes_app,shapes_old wf e]
  congr 1
  show [shp (ob (addS M k r s) M.objs.length)]=_
  rw[ob_new e]
  show [(k,(List.replicate r 0).length,(List.replicate s 0).length)]=_
  rw[List.length_replicate,List.length_replicate]
 have hadr:∀ i,i∈M.small→addr (addS M k r s) (M.small ++ [M.objs.length]) i=addr M M.small i:=fun i hi=>by
  rw[addr_more _ _ _ _ hi]
  unfold addr
  rw[shapes_old wf e]
 have ho:∀ i∈M.small,ob (addS M k r s) i=ob M i:=fun i hi=>ob_old e (wf.ln i (.inl hi))
 refine ⟨⟨nodup_snoc wf.ok.sm hn,fun i hi=>?_,fun q hq=>?_,fun i hi rr hr=>?_,fun i hi=>?_,?_,hfit,wf.ok.h2,wf.ok.sl⟩,fun i hi=>?_,?_,wf.kp,wf.lm,wf.h1,wf.l2,fun i hi=>?_,fun i h0 hi=>?_⟩
 ·rcases List.mem_append.1 hi with q|q
  ·rw[ho i q]
   show _∧_∧_=addr (addS M k r s) (M.small ++ [M.objs.length]) i
   rw[hadr i q]
   exact wf.ok.s1 i q
  ·rw[List.mem_singleton.1 q,ob_new e]
   refine ⟨by omega,rfl,?_⟩
   show M.used=addr (addS M k r s) (M.small ++ [M.objs.length]) M.objs.length
   rw[addr_last _ _ _ hn,shapes_old wf e,wf.ok.us]
 ·have q1:=wf.ok.b1 q hq
  have q2:=slot_mem hq
  show (ob (addS M k r s) (M.slots.getD q 0)).big=true∧(ob (addS M k r s) (M.slots.getD q 0)).at'=q
  have hlt:M.slots.getD q 0<M.objs.length:=hsl _ hq q2.2
  rw[ob_old e hlt]
  exact q1
 ·rcases hIs i hi with rfl|q
  ·rw[ob_new e] at hr
   exact .inl (List.eq_of_mem_replicate hr)
  ·rw[ob_old e (wf.ln i q)] at hr
   exact (wf.ok.rf i q rr hr).imp id (hIs2 rr)
 ·exact (wf.ok.rt i hi).imp id (hIs2 i)
 ·show M.used+(1+r+s)=place (shapes (addS M k r s) (M.small ++ [M.objs.length])) (M.small ++ [M.objs.length]).length
  rw[hsh,List.length_append,List.length_singleton]
  have:=place_snoc (shapes M M.small) (k,r,s)
  rw[shapes_length] at this
  rw[this,wf.ok.us]
  rfl
 ·show i<(M.objs ++ [_]).length
  rw[List.length_append,List.length_singleton]
  rcases hIs i hi with rfl|q
  ·omega
  ·have:=wf.ln i q;omega
 ·show M.large=lgOf (addS M k r s) M.slots
  rw[wf.lg]
  unfold lgOf
  congr 1
  refine List.map_congr_left (fun i hi=>?_)
  by_cases h0:i=0
  ·rw[if_pos h0,if_pos h0]
  ·rw[if_neg h0,if_neg h0,ob_old e (hsl i h0 hi)]
 ·rcases List.mem_append.1 hi with q|q
  ·rw[ho i q];exact wf.ss i q
  ·rw[List.mem_singleton.1 q,ob_new e]
   unfold osz newOb
   rw[List.length_replicate,List.length_replicate]
   exact hs
 ·rw[ob_old e (hsl i h0 hi)];exact wf.sb i h0 hi
theorem addS_any {w:World}{ph:Nat}{tag:Nat→Nat}{M:Hp}{H:HC} (h:HAt w ph tag M H) (ho1:1≤M.objs.length) (k r s:Nat) (hf:Fits k r s) (hs:1+r+s≤64) (hfit:M.used+(1+r+s)≤M.half):
  Calls Tryz.prog 119 #[.pointer (some ⟨H.a.1,0,none⟩),.int .i64 (k:Nat),.int .i64 (r:Nat),.int .i64 (s:Nat)] w fun e w'=>e=.returned (.tuple #[.int .i64 (M.used:Nat),.int .i64 0])∧∃ H',HAt w' ph tag (addS M k r s) H'∧Fr tag tag w w':=by
 have wf:=h.wf
 have ok:=wf.ok
 have hA:=h.raw.hA
 rw[h.A] at hA
 have hu:=midA_used M ok []
 have e:(addS M k r s).objs=M.objs ++ [newOb k r s false M.used]:=rfl
 refine (r_alloc_yes hA k r s hf (by rw[hu];exact hfit)).mono ?_
 rintro e' w' ⟨rfl,g1,g2⟩
 have hbb:∀ g,tag g≠0→tag g ∉ [2]→w'.heap[g]?=w.heap[g]?:=fun g q1 q2=>g2.block g (h.raw.un g q1) (fun hm=>q2 (by
  simp only[List.mem_cons,List.not_mem_nil,or_false] at hm ⊢
  rcases hm with rfl|rfl|rfl
  exact h.raw.tA.1;exact h.raw.tA.2.1;exact h.raw.tA.2.2))
 have g1':ArR w' H.a (midA (addS M k r s) []):=g1.like (by
   show shapes (addS M k r s) (M.small ++ [M.objs.length])=shapes M M.small ++ [(k,r,s)]
   rw[shapes_app,shapes_old wf e]
   congr 1
   show [shp (ob (addS M k r s) M.objs.length)]=_
   rw[ob_new e]
   show [(k,(List.replicate r 0).length,(List.replicate s 0).length)]=_
   rw[List.length_replicate,List.length_replicate]) (by
   show (M.small ++ [M.objs.length]).map _=M.small.map _ ++ [List.replicate (r+s) 0]
   rw[List.map_append]
   congr 1
   ·exact List.map_congr_left (fun i hi=>mix_old wf e (.inl hi))
   ·show [mix (addS M k r s) [] 0 M.objs.length]=_
    rw[mix_new e]) (by
   show (M.small ++ [M.objs.length]).map _=M.small.map _ ++ [none]
   rw[List.map_append]
   congr 1) rfl
 have h':=h.raw.turn [2] (by simp) (by simp) g2.size hbb (midA (addS M k r s) []) H.S H.cH H.bk H.re (.inr g1') (.inl ⟨by simp,rfl⟩) (.inl ⟨by simp,rfl⟩) (fun q bp hq=>.inl ⟨by simp;omega,rfl,rfl⟩)
 refine ⟨by rw[hu],_,⟨h',addS_wf wf ho1 k r s hs hfit,h.nL,h.nG,h.nK,h.nM,h.nC,h.nR,rfl,h.S,h.cB,fun q hq=>?_,h.re,fun x=>?_,h.lB,h.lH⟩,Fr.of_but g2 (fun g hm _=>?_)⟩
 ·show H.bk q=midK (addS M k r s) [] (fun _=>0) (M.slots.getD q 0)
  rw[h.bk q hq]
  have hIs:Is M (M.slots.getD q 0):=.inr ⟨hq,(slot_mem hq).2⟩
  unfold midK
  rw[mix_old wf e hIs,ob_old e (wf.ln _ hIs)]
 ·show H.cH.getD x none=(M.roots.getD x none).map (refW (addS M k r s))
  rw[h.cH x]
  cases hx:M.roots.getD x none with
  | none=>rfl
  | some i=>
   show some _=some _
   rw[refW_old e ((ok.rt i (roots_mem hx)).imp id (fun q=>wf.ln i q))]
 ·simp only[List.mem_cons,List.not_mem_nil,or_false] at hm
  have:=h.raw.tA
  rcases hm with rfl|rfl|rfl <;> omega
def PreS (M M1:Hp) (s:Nat):Prop:=(M.used+s≤M.half∧M1=M)∨(M.half<M.used+s∧∃ M0,IsColl M M0∧M1=fitM M0 s)
theorem fitM_objs (M:Hp) (s:Nat):(fitM M s).objs=M.objs∧(fitM M s).roots=M.roots∧(fitM M s).limit=M.limit∧(fitM M s).used=M.used∧(fitM M s).slots=M.slots:=by
 unfold fitM becM
 split
 ·split
  ·split <;> exact ⟨rfl,rfl,rfl,rfl,rfl⟩
  ·exact ⟨rfl,rfl,rfl,rfl,rfl⟩
 ·split
  ·split <;> exact ⟨rfl,rfl,rfl,rfl,rfl⟩
  ·exact ⟨rfl,rfl,rfl,rfl,rfl⟩
theorem allocSmall_any {w:World}{ph:Nat}{tag:Nat→Nat}{M:Hp}{H:HC} (h:HAt w ph tag M H) (ho1:1≤M.objs.length) (hc:M.coll≤1000000000000) (hr:M.resz≤1000000000000) (k r s:Nat) (hf:Fits k r s) (hs:1+r+s≤64):
  Calls Tryz.prog 81 #[.pointer (some ⟨ph,0,none⟩),.int .i64 (k:Nat),.int .i64 (r:Nat),.int .i64 (s:Nat),.int .i64 ((1+r+s:Nat):Int)] w fun e w'=>∃ tag' H' M1,PreS M M1 (1+r+s)∧Fr tag tag' w w'∧
   ((M1.used+(1+r+s)≤M1.half∧e=.returned (.tuple #[.int .u64 (M1.used:Nat),.int .i64 0])∧HAt w' ph tag' (addS M1 k r s) H')∨(M1.half<M1.used+(1+r+s)∧e=.returned (.tuple #[.int .u64 0,.int .i64 31])∧HAt w' ph tag' M1 H')):=by
 have wf:=h.wf
 have ok:=wf.ok
 have hA:=h.raw.hA
 rw[h.A] at hA
 have hu2:=ok.u2
 have hh2:=ok.h2
 have cf:∀ W,Still w W→ArR W H.a (midA M []):=fun W k=>hA.conf (by rw[k.heap];exact Nat.le_refl _) (by rw[k.heap]) (by rw[k.heap]) (by rw[k.heap])
 have HU:∀ W,Still w W→Calls Tryz.prog 64 #[.pointer (some ⟨H.a.1,0,none⟩)] W fun e w'=>e=.returned (.int .i64 (M.used:Nat))∧w'=W:=fun W k=>by
  have:=r_used (cf W k)
  rw[midA_used M ok] at this
  exact this
 have HS:∀ W,Still w W→Calls Tryz.prog 63 #[.pointer (some ⟨H.a.1,0,none⟩)] W fun e w'=>e=.returned (.int .i64 (M.half:Nat))∧w'=W:=fun W k=>r_size (cf W k)
 by_cases hfit:M.used+(1+r+s)≤M.half
 ·refine (small_end (e0:=0) (at':=M.used) (G:=fun w'=>∃ H',HAt w' ph tag (addS M k r s) H'∧Fr tag tag w w') (by omega) (by omega) hs hfit hh2 h.raw.n1 HU HS (fun W k'=>?_)).mono ?_
  ·refine (addS_any (h.still k'.below) ho1 k r s hf hs hfit).mono ?_
   rintro e w' ⟨rfl,H',q1,q2⟩
   exact ⟨rfl,H',q1,(Fr.of_below k'.below).trans q2⟩
  ·rintro e w' ⟨rfl,H',q1,q2⟩
   exact ⟨tag,H',M,.inl ⟨hfit,rfl⟩,q2,.inl ⟨hfit,rfl,q1⟩⟩
 ·refine (small_coll (G1:=fun W=>∃ tag' H' M',IsColl M M'∧HAt W ph tag' M' H'∧Fr tag tag' w W) (G2:=fun W=>∃ tag' H' M',IsColl M M'∧HAt W ph tag' (fitM M' (1+r+s)) H'∧Fr tag tag' w W)
   (G3:=fun at' e0 w'=>∃ tag' H' M',IsColl M M'∧Fr tag tag' w w'∧(((fitM M' (1+r+s)).used+(1+r+s)≤(fitM M' (1+r+s)).half∧at'=(fitM M' (1+r+s)).used∧e0=0∧HAt w' ph tag' (addS (fitM M' (1+r+s)) k r s) H')∨((fitM M' (1+r+s)).half<(fitM M' (1+r+s)).used+(1+r+s)∧e0=22∧HAt w' ph tag' (fitM M' (1+r+s)) H')))
   (by omega) hs (by omega) hh2 h.raw.n1 HU HS (fun W k'=>?_) (fun W hg=>?_) (fun W hg=>?_)).mono ?_
  ·refine (coll_any (h.still k'.below) hc).mono ?_
   rintro e w' ⟨rfl,tag',H',M',q1,q2,q3⟩
   exact ⟨rfl,tag',H',M',q1,q2,(Fr.of_below k'.below).trans q3⟩
  ·obtain ⟨tag',H',M',q1,q2,q3⟩:=hg
   refine (fit_any q2 (1+r+s) hs (by rw[q1.nums.2.2.2.1];exact hr)).mono ?_
   rintro e w' ⟨rfl,tag2,H2,p1,p2⟩
   exact ⟨rfl,tag2,H2,M',q1,p1,q3.trans p2⟩
  ·obtain ⟨tag',H',M',q1,q2,q3⟩:=hg
   have hobj:1≤(fitM M' (1+r+s)).objs.length:=by rw[(fitM_objs M' _).1,q1.nums.2.2.2.2.2];exact ho1
   have hA2:=q2.raw.hA
   rw[q2.A] at hA2
   have hu:=midA_used _ q2.wf.ok []
   have b1:=q2.wf.ok.u2
   have b2:=q2.wf.ok.h2
   by_cases hfit2:(fitM M' (1+r+s)).used+(1+r+s)≤(fitM M' (1+r+s)).half
   ·refine ⟨H'.a.1,(fitM M' (1+r+s)).used,0,q2.raw.n1,by omega,(addS_any q2 hobj k r s hf hs hfit2).mono ?_⟩
    rintro e w' ⟨rfl,H2,p1,p2⟩
    exact ⟨rfl,tag',H2,M',q1,q3.trans p2,.inl ⟨hfit2,rfl,rfl,p1⟩⟩
   ·refine ⟨H'.a.1,0,22,q2.raw.n1,by omega,(r_alloc_full hA2 k r s hf (by rw[hu];show (fitM M' (1+r+s)).half<_;omega)).mono ?_⟩
    rintro e w' ⟨rfl,hb⟩
    exact ⟨rfl,tag',H',M',q1,q3.trans (Fr.of_below hb),.inr ⟨by omega,rfl,q2.still hb⟩⟩
  ·rintro e w' ⟨at',e0,rfl,tag',H',M',q1,q2,(⟨p1,p2,p3,p4⟩|⟨p1,p2,p3⟩)⟩
   ·subst p3
    subst p2
    exact ⟨tag',H',_,.inr ⟨by omega,M',q1,rfl⟩,q2,.inl ⟨p1,rfl,p4⟩⟩
   ·subst p2
    exact ⟨tag',H',_,.inr ⟨by omega,M',q1,rfl⟩,q2,.inr ⟨p1,rfl,p3⟩⟩
end Go.Proofs.YtnfbaapbpgbgpaaGreat
