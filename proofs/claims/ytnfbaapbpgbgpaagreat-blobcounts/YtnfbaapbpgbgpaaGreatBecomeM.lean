import Derived.Test.YtnfbaapbpgbgpaaGreatCStep
import Derived.Test.YtnfbaapbpgbgpaaGreatStatW
namespace Go.Proofs.YtnfbaapbpgbgpaaGreat
open Go.ChangeShapes Go.WideShapes Go.ChangeAt Go.RowKit
set_option linter.unusedVariables false
set_option maxRecDepth 100000
set_option maxHeartbeats 1000000
def pgOf (M:Hp) (s:St) (x:Nat):Nat:=if x∈s.k.cop.take s.a∨x∈s.k.lin.take s.b then (ob M x).refs.length else 0
def StAt (w0:World) (tag0:Nat→Nat) (ph pc:Nat) (M:Hp) (H0:HC) (s:St) (w:World):Prop:=
 ∃ tag H v,HRaw w ph tag H∧MidC M s.k (pgOf M s) H∧H = { H0 with A:=H.A,S:=H.S,re:=H.re,bk:=H.bk }∧
  CAt w pc ph tag (place (shapes M s.k.cop) s.a) v ((s.k.lin.drop s.b).map (bpL M H))∧Fr tag0 tag w0 w∧s.a≤s.k.cop.length∧s.b≤s.k.lin.length
theorem take_snoc {l t:List Nat}{a:Nat} (h:a<l.length):(l++t).take (a+1)=l.take a ++ [l.getD a 0]:=by
 rw[List.take_append_of_le_length (by omega),List.take_add_one,List.getElem?_eq_getElem h,List.getD_eq_getElem?_getD,List.getElem?_eq_getElem h]
 rfl
theorem getD_mem {l:List Nat}{a:Nat} (h:a<l.length):l.getD a 0∈l:=by
 rw[List.getD_eq_getElem?_getD,List.getElem?_eq_getElem h]
 exact List.getElem_mem h
theorem nodup_take {l:List Nat} (hn:l.Nodup) {a:Nat} (h:a<l.length):l.getD a 0 ∉ l.take a:=by
 intro hm
 have h1:(l.take a++l.drop a).Nodup:=by rw[List.take_append_drop];exact hn
 rw[List.nodup_append] at h1
 refine h1.2.2 _ hm (l.getD a 0) ?_ rfl
 rw[List.drop_eq_getElem_cons h,List.getD_eq_getElem?_getD,List.getElem?_eq_getElem h]
 exact List.mem_cons_self
theorem HRaw.cset {w:World}{ph pc:Nat}{tag:Nat→Nat}{H:HC} (h:HRaw w ph tag H) (hc:tag pc=6) (q:Nat) (u:Value):HRaw (w.setCell ⟨pc,q,none⟩ u) ph tag H:=
 h.turn [6] (by simp) (by simp) (by rw[World.size_setCell];exact Nat.le_refl _) (fun g h0 hn=>setCell_else _ _ _ _ _ (by rintro rfl;exact hn (by rw[hc];simp))) H.A H.S H.cH H.bk H.re (.inl ⟨by simp,rfl⟩) (.inl ⟨by simp,rfl⟩) (.inl ⟨by simp,rfl⟩) (fun s bp _=>.inl ⟨by simp;omega,rfl,rfl⟩)
theorem Fr.cset {w:World}{pc:Nat}{tag:Nat→Nat} (hc:tag pc≠0) (q:Nat) (u:Value):Fr tag tag w (w.setCell ⟨pc,q,none⟩ u):=
 ⟨rfl,rfl,rfl,by rw[World.size_setCell];exact Nat.le_refl _,fun g hg e=>⟨setCell_else _ _ _ _ _ (by rintro rfl;exact hc e),e⟩⟩
theorem mid_step_small {w w0:World}{tag0:Nat→Nat}{ph pc:Nat}{M:Hp}{H0:HC}{s:St} (ok:HpOk M) (st:StAt w0 tag0 ph pc M H0 s w) (ha:s.a<s.k.cop.length):
  Calls Tryz.prog 111 #[.pointer (some ⟨pc,0,none⟩)] w fun e w'=>e=.returned (.bool true)∧StAt w0 tag0 ph pc M H0 ⟨lookW M s.k (s.k.cop.getD s.a 0),s.a+1,s.b⟩ w':=by
 obtain ⟨tag,H,v,h,m,e,c,fr,h1,h2⟩:=st
 obtain ⟨x,hx⟩:∃ x,s.k.cop.getD s.a 0=x:=⟨_,rfl⟩
 have hxm:x∈s.k.cop:=by rw[← hx];exact getD_mem ha
 have hxa:addr M s.k.cop x=place (shapes M s.k.cop) s.a:=by rw[← hx];exact addr_at M _ m.nd.1 _ ha
 have hxs:=m.cs x hxm
 have hxl:x ∉ s.k.lin:=fun q=>by have:=lin_big ok m x q;rw[(ok.s1 x hxs).2.1] at this;cases this
 have hp0:pgOf M s x=0:=by
  unfold pgOf
  rw[if_neg]
  rintro (q|q)
  ·rw[← hx] at q;exact nodup_take m.nd.1 ha q
  ·exact hxl (List.mem_of_mem_take q)
 have T:Tg M s.k.cop H x 85 H.s.1 H.s.1 (place (shapes M s.k.cop) s.a):=.inl ⟨rfl,hxm,rfl,rfl,hxa.symm⟩
 have hS:=h.hS
 rw[m.S] at hS
 have hU:(midS M s.k.cop (pgOf M s)).used=place (shapes M s.k.cop) s.k.cop.length:=by
  show place (shapes M s.k.cop) (shapes M s.k.cop).length=_
  rw[shapes_length]
 have hUb:place (shapes M s.k.cop) s.k.cop.length≤1048576:=by
  rw[← hU]
  exact Nat.le_trans hS.ok.u2 hS.ok.sz
 have hlt:place (shapes M s.k.cop) s.a<place (shapes M s.k.cop) s.k.cop.length:=by
  have q:=place_lt (shapes M s.k.cop) ha
  unfold wd at q
  omega
 have hbd:=Tg.bound h m T
 obtain ⟨⟨t1,ht1⟩,⟨t2,ht2⟩⟩:=foldW_mono M (ob M x).refs s.k
 have ht1':(lookW M s.k x).cop=s.k.cop++t1:=ht1
 have ht2':(lookW M s.k x).lin=s.k.lin++t2:=ht2
 have hpg:updF (pgOf M s) x (ob M x).refs.length=pgOf M ⟨lookW M s.k x,s.a+1,s.b⟩:=by
  funext y
  unfold updF pgOf
  show _=if y∈(lookW M s.k x).cop.take (s.a+1)∨y∈(lookW M s.k x).lin.take s.b then _ else _
  rw[ht1',ht2',take_snoc ha,hx,List.take_append_of_le_length h2]
  by_cases ey:y=x
  ·subst ey
   rw[if_pos rfl,if_pos (.inl (by simp))]
  ·rw[if_neg ey]
   congr 1
   simp [ey]
 have hnx:place (shapes M s.k.cop) s.a+osz (ob M x)=place (shapes M (lookW M s.k x).cop) (s.a+1):=by
  rw[ht1',shapes_app,place_prefix _ _ _ (by rw[shapes_length];omega)]
  rw[place,shapes_at _ _ _ ha,hx]
  rfl
 rw[hx]
 refine step_small (G:=fun w'=>∃ tag' H' v',HRaw w' ph tag' H'∧MidC M (lookW M s.k x) (pgOf M ⟨lookW M s.k x,s.a+1,s.b⟩) H'∧H' = { H with A:=H'.A,S:=H'.S,re:=H'.re,bk:=H'.bk }∧CAt w' pc ph tag' (place (shapes M s.k.cop) s.a) v' (((lookW M s.k x).lin.drop s.b).map (bpL M H'))∧Fr tag tag' w w')
  (sz:=osz (ob M x)) hlt hUb (by unfold osz;omega) c.c0 c.c1 h.n2 (fun W hst=>?_) (fun W hst=>?_) (fun W hg=>?_) (fun W hg=>?_)
 ·have:=r_used (hS.conf (w':=W) (by rw[hst.heap];exact Nat.le_refl _) (by rw[hst.heap]) (by rw[hst.heap]) (by rw[hst.heap]))
  rw[hU] at this
  exact this
 ·refine (mid_look ok m (h.below hst.below) h2 (c.conf (fun g _=>by rw[hst.heap]) (fun g _=>by rw[hst.heap])) x _ _ _ _ T hp0 (.inl hxs) (.inl hxm)).mono ?_
  rintro e w' ⟨rfl,tag',H',v',a1,a2,a3,a4,a5⟩
  rw[hpg] at a2
  exact ⟨rfl,tag',H',v',a1,a2,a3,a4,(Fr.of_below hst.below).trans a5⟩
 ·obtain ⟨tag',H',v',a1,a2,a3,a4,a5⟩:=hg
  exact ⟨a4.c1,a4.f1⟩
 ·obtain ⟨tag',H',v',a1,a2,a3,a4,a5⟩:=hg
  have hvn:v'.ownBlock≠some pc:=fun q=>by have:=a4.tl pc q;rw[a4.tc] at this;omega
  refine ⟨tag',H',v',a1.cset a4.tc 1 _,a2,eq_tr e a3,?_,fr.trans (a5.trans (Fr.cset (by rw[a4.tc];decide) 1 _)),?_,?_⟩
  ·refine ⟨?_,?_,?_,?_,?_,a4.line.same (fun g hg=>setCell_else _ _ _ _ _ (by rintro rfl;exact hvn hg)),a4.tc,a4.tl⟩
   ·rw[World.cell?_setCell_other _ _ _ _ (by simp)];exact a4.c0
   ·rw[World.cell?_setCell_same' _ _ _ (by rw[a4.c1];rfl)]
    show some (Value.int .i64 ((place (shapes M s.k.cop) s.a:Nat)+(osz (ob M x):Nat):Int))=some (.int .i64 ((place (shapes M (lookW M s.k x).cop) (s.a+1):Nat):Int))
    rw[← hnx,Int.natCast_add]
   ·rw[World.cell?_setCell_other _ _ _ _ (by simp)];exact a4.c2
   ·rw[World.frozen?_setCell];exact a4.f1
   ·rw[World.frozen?_setCell];exact a4.f2
  ·show s.a+1≤(lookW M s.k x).cop.length
   rw[ht1',List.length_append];omega
  ·show s.b≤(lookW M s.k x).lin.length
   rw[ht2',List.length_append];omega
theorem mid_step_none {w w0:World}{tag0:Nat→Nat}{ph pc:Nat}{M:Hp}{H0:HC}{s:St} (ok:HpOk M) (st:StAt w0 tag0 ph pc M H0 s w) (ha:¬ s.a<s.k.cop.length) (hb:¬ s.b<s.k.lin.length):
  Calls Tryz.prog 111 #[.pointer (some ⟨pc,0,none⟩)] w fun e w'=>e=.returned (.bool false)∧StAt w0 tag0 ph pc M H0 s w':=by
 obtain ⟨tag,H,v,h,m,e,c,fr,h1,h2⟩:=st
 have hS:=h.hS
 rw[m.S] at hS
 have hU:(midS M s.k.cop (pgOf M s)).used=place (shapes M s.k.cop) s.a:=by
  show place (shapes M s.k.cop) (shapes M s.k.cop).length=_
  rw[shapes_length,show s.k.cop.length=s.a by omega]
 have hl:((s.k.lin.drop s.b).map (bpL M H)).length=0:=by rw[List.length_map,List.length_drop];omega
 obtain ⟨a,cap,hv⟩:=c.line.shape
 rw[hl] at hv
 have c2:=c.c2
 rw[hv] at c2
 refine (step_none a cap rfl c.c0 c.c1 h.n2 c2 (fun W hst=>?_)).mono ?_
 ·have:=r_used (hS.conf (w':=W) (by rw[hst.heap];exact Nat.le_refl _) (by rw[hst.heap]) (by rw[hst.heap]) (by rw[hst.heap]))
  rw[hU] at this
  exact this
 ·rintro e' w' ⟨rfl,hst⟩
  exact ⟨rfl,tag,H,v,h.below hst.below,m,e,c.conf (fun g _=>by rw[hst.heap]) (fun g _=>by rw[hst.heap]),fr.trans (Fr.of_below hst.below),h1,h2⟩
theorem mid_step_large {w w0:World}{tag0:Nat→Nat}{ph pc:Nat}{M:Hp}{H0:HC}{s:St} (ok:HpOk M) (st:StAt w0 tag0 ph pc M H0 s w) (ha:¬ s.a<s.k.cop.length) (hb:s.b<s.k.lin.length):
  Calls Tryz.prog 111 #[.pointer (some ⟨pc,0,none⟩)] w fun e w'=>e=.returned (.bool true)∧StAt w0 tag0 ph pc M H0 ⟨lookW M s.k (s.k.lin.getD s.b 0),s.a,s.b+1⟩ w':=by
 obtain ⟨tag,H,v,h,m,e,c,fr,h1,h2⟩:=st
 obtain ⟨x,hx⟩:∃ x,s.k.lin.getD s.b 0=x:=⟨_,rfl⟩
 have hxm:x∈s.k.lin:=by rw[← hx];exact getD_mem hb
 have hxb:=lin_big ok m x hxm
 obtain ⟨hx0,hxs⟩:=m.ls x hxm
 obtain ⟨sl,hsl,esl⟩:=mem_slot hxs
 have hs0:M.slots.getD sl 0≠0:=by rw[esl];exact hx0
 have hat:(ob M x).at'=sl:=by have:=(ok.b1 sl hs0).2;rw[esl] at this;exact this
 obtain ⟨bp,hbp⟩:∃ bp,H.cB.getD sl none=some bp:=Option.isSome_iff_exists.1 ((m.cB sl).2 hs0)
 have hbl:bpL M H x=bp:=by unfold bpL;rw[hat,hbp];rfl
 have hxc:x ∉ s.k.cop:=fun q=>by have:=(ok.s1 x (m.cs x q)).2.1;rw[hxb] at this;cases this
 have hp0:pgOf M s x=0:=by
  unfold pgOf
  rw[if_neg]
  rintro (q|q)
  ·exact hxc (List.mem_of_mem_take q)
  ·rw[← hx] at q;exact nodup_take m.nd.2 hb q
 have T:Tg M s.k.cop H x 187 bp (H.at' sl).1 1:=.inr ⟨rfl,sl,esl,hx0,hbp,rfl,rfl⟩
 have hS:=h.hS
 rw[m.S] at hS
 have hU:(midS M s.k.cop (pgOf M s)).used=place (shapes M s.k.cop) s.a:=by
  show place (shapes M s.k.cop) (shapes M s.k.cop).length=_
  rw[shapes_length,show s.k.cop.length=s.a by omega]
 have hbd:=Tg.bound h m T
 obtain ⟨⟨t1,ht1⟩,⟨t2,ht2⟩⟩:=foldW_mono M (ob M x).refs s.k
 have ht1':(lookW M s.k x).cop=s.k.cop++t1:=ht1
 have ht2':(lookW M s.k x).lin=s.k.lin++t2:=ht2
 have hpg:updF (pgOf M s) x (ob M x).refs.length=pgOf M ⟨lookW M s.k x,s.a,s.b+1⟩:=by
  funext y
  unfold updF pgOf
  show _=if y∈(lookW M s.k x).cop.take s.a∨y∈(lookW M s.k x).lin.take (s.b+1) then _ else _
  rw[ht1',ht2',take_snoc hb,hx,List.take_append_of_le_length h1]
  by_cases ey:y=x
  ·subst ey
   rw[if_pos rfl,if_pos (.inr (by simp))]
  ·rw[if_neg ey]
   congr 1
   simp [ey]
 have hdrop:s.k.lin.drop s.b=x :: s.k.lin.drop (s.b+1):=by
  rw[List.drop_eq_getElem_cons hb,← hx,List.getD_eq_getElem?_getD,List.getElem?_eq_getElem hb];rfl
 have hln:((s.k.lin.drop s.b).map (bpL M H)).length=((s.k.lin.drop (s.b+1)).map (bpL M H)).length+1:=by rw[hdrop,List.map_cons,List.length_cons]
 obtain ⟨n,hn⟩:∃ n,((s.k.lin.drop (s.b+1)).map (bpL M H)).length=n:=⟨_,rfl⟩
 have hline:=c.line
 rw[hln,hn] at hline
 rcases hline with ⟨_,q⟩|⟨g,o,cap,cur,hv,hg,hnc,hcm,hcs,hf⟩
 ·omega
 have c2:=c.c2
 rw[hv] at c2
 have hg0:w.cell? ⟨g,o,none⟩=some (.pointer (some ⟨bp,0,none⟩)):=by
  have:=hf 0 (by omega)
  rw[Nat.add_zero,hdrop,List.map_cons] at this
  simp only[World.cell?,hg]
  simp only[Option.isSome_none,Bool.false_eq_true,if_false]
  rw[this,hbl]
  rfl
 rw[hx]
 refine step_large (G:=fun w'=>StAt w0 tag0 ph pc M H0 ⟨lookW M s.k x,s.a,s.b+1⟩ w') (sz:=osz (ob M x)) rfl hnc hcm c.c0 c.c1 h.n2 c2 c.f2 hg0 (fun W hst=>?_) (fun W o' c' hst ho=>?_)
 ·have:=r_used (hS.conf (w':=W) (by rw[hst.heap];exact Nat.le_refl _) (by rw[hst.heap]) (by rw[hst.heap]) (by rw[hst.heap]))
  rw[hU] at this
  exact this
 ·have hgp:g≠pc:=fun q=>by have:=c.tl g (by rw[hv];rfl);rw[q,c.tc] at this;omega
  have hcW:CAt W pc ph tag (place (shapes M s.k.cop) s.a) v ((s.k.lin.drop s.b).map (bpL M H)):=c.conf (fun g _=>by rw[hst.heap]) (fun g _=>by rw[hst.heap])
  have hc':CAt (W.setCell ⟨pc,2,none⟩ (.slice (some ⟨g,o',none⟩) n c')) pc ph tag (place (shapes M s.k.cop) s.a) (.slice (some ⟨g,o',none⟩) n c') ((s.k.lin.drop (s.b+1)).map (bpL M H)):=by
   refine ⟨?_,?_,World.cell?_setCell_same' _ _ _ (by rw[hcW.c2];rfl),?_,?_,?_,c.tc,fun q hq=>?_⟩
   ·rw[World.cell?_setCell_other _ _ _ _ (by simp)];exact hcW.c0
   ·rw[World.cell?_setCell_other _ _ _ _ (by simp)];exact hcW.c1
   ·rw[World.frozen?_setCell];exact hcW.f1
   ·rw[World.frozen?_setCell];exact hcW.f2
   ·rw[hn]
    refine .inr ⟨g,o',c',cur,rfl,?_,?_,?_,?_,fun j hj=>?_⟩
    ·rw[setCell_else _ _ _ _ _ hgp,hst.heap];exact hg
    ·rcases ho with ⟨q1,q2⟩|⟨q1,q2,q3⟩ <;> omega
    ·rcases ho with ⟨q1,q2⟩|⟨q1,q2,q3⟩ <;> omega
    ·rcases ho with ⟨q1,q2⟩|⟨q1,q2,q3⟩ <;> omega
    ·have q:=hf (j+1) (by omega)
     rw[hdrop,List.map_cons] at q
     have e1:o'=o+1:=by rcases ho with ⟨q1,q2⟩|⟨q1,q2,q3⟩ <;> omega
     rw[e1,show o+1+j=o+(j+1) by omega,q]
     rfl
   ·cases hq
    exact c.tl g (by rw[hv];rfl)
  have hW':=(h.below hst.below).cset c.tc 2 (.slice (some ⟨g,o',none⟩) n c')
  refine (mid_look ok m hW' (by omega) hc' x _ _ _ _ T hp0 (.inr ⟨hx0,hxs⟩) (.inr hxm)).mono ?_
  rintro e' w' ⟨rfl,tag',H',v',a1,a2,a3,a4,a5⟩
  rw[hpg] at a2
  refine ⟨rfl,tag',H',v',a1,a2,eq_tr e a3,?_,fr.trans ((Fr.of_below hst.below).trans ((Fr.cset (by rw[c.tc];decide) 2 _).trans a5)),?_,?_⟩
  ·have:place (shapes M (lookW M s.k x).cop) s.a=place (shapes M s.k.cop) s.a:=by
    rw[ht1',shapes_app,place_prefix _ _ _ (by rw[shapes_length];exact h1)]
   show CAt w' pc ph tag' (place (shapes M (lookW M s.k x).cop) s.a) v' _
   rw[this]
   exact a4
  ·show s.a≤(lookW M s.k x).cop.length
   rw[ht1',List.length_append];omega
  ·show s.b+1≤(lookW M s.k x).lin.length
   rw[ht2',List.length_append];omega
theorem tagAt_same {w:World}{tag:Nat→Nat}{v v':Value}{k:Nat} (hk:k≠0) (hv:∀ g,v.ownBlock=some g→tag g=k) (hf:Own2 w v v'):∀ g,g<w.heap.size→tagAt tag v' k g=tag g:=by
 intro g hg
 unfold tagAt
 split
 ·rename_i e
  rcases hf g e with q|q
  ·exact (hv g q).symm
  ·omega
 ·rfl
theorem HRaw.poolB {w w':World}{ph:Nat}{tag:Nat→Nat}{H:HC} (h:HRaw w ph tag H) {c':List (Option Nat)}{fr':List Nat}{vc' vf':Value} (p:PoolAt w' ph 3 208 encP (.pointer none) c' fr' vc' vf') (hc:PChg ph 3 H.vcB H.vfB w w')
  (hsub:∀ s bp,c'.getD s none=some bp→H.cB.getD s none=some bp) (hv:vc'.ownBlock=H.vcB.ownBlock) (hf:Own2 w H.vfB vf'):
  HRaw w' ph (tagAt tag vf' 5) { H with cB:=c',frB:=fr',vcB:=vc',vfB:=vf' }∧Fr tag (tagAt tag vf' 5) w w':=by
 have ht:=tagAt_same (by decide) h.tB.2 hf
 have hk:∀ g n,n≠0→tag g=n→tagAt tag vf' 5 g=n:=fun g n hn e=>(ht g (h.un g (by omega))).trans e
 have hs:=hc.but.size
 have hb:∀ g,g<w.heap.size→tag g≠1→tag g≠5→w'.heap[g]?=w.heap[g]?:=fun g hg h1 h5=>hc.but.block g hg (fun hm=>by
  rcases List.mem_cons.1 hm with q|q
  ·exact h1 (by rw[q];exact h.t1)
  ·rcases List.mem_append.1 q with q|q
   ·exact h5 (h.tB.1 g (mem_gB.1 q))
   ·exact h5 (h.tB.2 g (mem_gB.1 q)))
 have hg:∀ n g,n≠0→n≠1→n≠5→tag g=n→w'.heap[g]?=w.heap[g]?:=fun n g h0 h1 h5 e=>hb g (h.un g (by omega)) (by omega) (by omega)
 have hcc:∀ q,q≠3→q≠4→q≠5→w'.cell? ⟨ph,q,none⟩=w.cell? ⟨ph,q,none⟩:=fun q h1 h2 h3=>hc.cell q h1 h2 h3
 refine ⟨{
  n0:=(hcc 0 (by omega) (by omega) (by omega)).trans h.n0,n1:=(hcc 1 (by omega) (by omega) (by omega)).trans h.n1,n2:=(hcc 2 (by omega) (by omega) (by omega)).trans h.n2
  n9:=(hcc 9 (by omega) (by omega) (by omega)).trans h.n9,n10:=(hcc 10 (by omega) (by omega) (by omega)).trans h.n10,n11:=(hcc 11 (by omega) (by omega) (by omega)).trans h.n11,n12:=(hcc 12 (by omega) (by omega) (by omega)).trans h.n12,n13:=(hcc 13 (by omega) (by omega) (by omega)).trans h.n13
  fz:=fun i hi=>(hc.froz i).trans (h.fz i hi)
  pB:=p
  pH:=h.pH.conf (fun q q1 q2=>hcc q (by omega) (by omega) (by omega)) hc.froz (fun g e=>hg 4 g (by omega) (by omega) (by omega) (h.tH.1 g e)) (fun g e=>hg 4 g (by omega) (by omega) (by omega) (h.tH.2 g e))
  hA:=h.hA.conf hs (hg 2 _ (by omega) (by omega) (by omega) h.tA.1) (hg 2 _ (by omega) (by omega) (by omega) h.tA.2.1) (hg 2 _ (by omega) (by omega) (by omega) h.tA.2.2)
  hS:=h.hS.conf hs (hg 3 _ (by omega) (by omega) (by omega) h.tS.1) (hg 3 _ (by omega) (by omega) (by omega) h.tS.2.1) (hg 3 _ (by omega) (by omega) (by omega) h.tS.2.2)
  bB:=fun s bp e=>by
   have t:=h.tK s bp (hsub s bp e)
   exact (h.bB s bp (hsub s bp e)).conf hs (hg (8+s) _ (by omega) (by omega) (by omega) t.1) (hg (8+s) _ (by omega) (by omega) (by omega) t.2.1) (hg (8+s) _ (by omega) (by omega) (by omega) t.2.2.1) (hg (8+s) _ (by omega) (by omega) (by omega) t.2.2.2)
  t1:=hk _ _ (by decide) h.t1
  tA:=⟨hk _ _ (by decide) h.tA.1,hk _ _ (by decide) h.tA.2.1,hk _ _ (by decide) h.tA.2.2⟩
  tS:=⟨hk _ _ (by decide) h.tS.1,hk _ _ (by decide) h.tS.2.1,hk _ _ (by decide) h.tS.2.2⟩
  tH:=⟨fun g e=>hk _ _ (by decide) (h.tH.1 g e),fun g e=>hk _ _ (by decide) (h.tH.2 g e)⟩
  tB:=⟨fun g e=>hk _ _ (by decide) (h.tB.1 g (by rw[← hv];exact e)),fun g e=>by unfold tagAt;rw[if_pos e]⟩
  tK:=fun s bp e=>by
   have t:=h.tK s bp (hsub s bp e)
   exact ⟨hk _ _ (by omega) t.1,hk _ _ (by omega) t.2.1,hk _ _ (by omega) t.2.2.1,hk _ _ (by omega) t.2.2.2⟩
  tN:=fun s bp e=>h.tN s bp (hsub s bp e)
  un:=fun g e=>by
   unfold tagAt at e
   split at e
   ·rename_i q;exact p.frl.lt g q
   ·exact Nat.lt_of_lt_of_le (h.un g e) hs },⟨hc.but.os,hc.but.tape,hc.but.output,hs,fun g hg e=>⟨hb g hg (by omega) (by omega),(ht g hg).trans e⟩⟩⟩
def sumB (N:Nat) (f:Nat→Nat):Nat:=((List.range N).map f).sum
theorem sumB_upd (f f':Nat→Nat) (q:Nat):∀ N,(∀ s,s≠q→f s=f' s)→q<N→sumB N f+f' q=sumB N f'+f q
 | 0,_,h=>by omega
 | N+1,h,hq=>by
  unfold sumB
  rw[List.range_succ,List.map_append,List.map_append,List.sum_append,List.sum_append]
  simp only[List.map_cons,List.map_nil,List.sum_cons,List.sum_nil]
  by_cases e:q=N
  ·subst e
   have:(List.range q).map f=(List.range q).map f':=List.map_congr_left (fun s hs=>h s (by have:=List.mem_range.1 hs;omega))
   rw[this]
   omega
  ·have ih:=sumB_upd f f' q N h (by omega)
   have hN:=h N (fun x=>e x.symm)
   unfold sumB at ih
   omega
theorem sumB_congr (f f':Nat→Nat) (N:Nat) (h:∀ s,s<N→f s=f' s):sumB N f=sumB N f':=by
 unfold sumB
 rw[List.map_congr_left (fun s hs=>h s (List.mem_range.1 hs))]
theorem sumB_ge (f:Nat→Nat) (q:Nat):∀ N,q<N→f q≤sumB N f
 | N+1,h=>by
  unfold sumB
  rw[List.range_succ,List.map_append,List.sum_append]
  simp only[List.map_cons,List.map_nil,List.sum_cons,List.sum_nil]
  by_cases e:q=N
  ·subst e;omega
  ·have:=sumB_ge f q N (by omega)
   unfold sumB at this
   omega
theorem sumB_le (f f':Nat→Nat) (N:Nat) (h:∀ s,f s≤f' s):sumB N f≤sumB N f':=by
 induction N with
 | zero=>exact Nat.le_refl _
 | succ N ih=>
  unfold sumB at *
  rw[List.range_succ,List.map_append,List.map_append,List.sum_append,List.sum_append]
  simp only[List.map_cons,List.map_nil,List.sum_cons,List.sum_nil]
  have:=h N
  omega
theorem nodup_below {l:List Nat} (hn:l.Nodup) (n:Nat) (h:∀ x∈l,x<n):l.length≤n:=by
 have e:∀ l:List Nat,(l.map (fun _=>1)).sum=l.length:=fun l=>by induction l with|nil=>rfl|cons a l ih=>simp [ih];omega
 have:=sum_sub (fun _=>1) l (List.range n) hn (fun x hx=>List.mem_range.2 (h x hx))
 rw[e,e,List.length_range] at this
 exact this
structure Pu (M:Hp) (k:Wk):Prop where
 nd:k.cop.Nodup∧k.lin.Nodup
 cs:∀ i∈k.cop,i∈M.small
 ls:∀ i∈k.lin,i≠0∧i∈M.slots
theorem nodup_snoc {l:List Nat}{i:Nat} (h:l.Nodup) (hi:i ∉ l):(l ++ [i]).Nodup:=by
 rw[List.nodup_append]
 exact ⟨h,by simp,fun a ha b' hb'=>by rw[List.mem_singleton.1 hb'];rintro rfl;exact hi ha⟩
theorem Pu.reach {M:Hp}{k:Wk} (ok:HpOk M) (p:Pu M k) {i:Nat} (hi:i=0∨Is M i):Pu M (reachW M k i):=by
 unfold reachW
 split
 ·exact p
 ·rename_i hn
  have h0:i≠0:=fun e=>hn (.inl e)
  have hc:i ∉ k.cop:=fun e=>hn (.inr (.inl e))
  have hl:i ∉ k.lin:=fun e=>hn (.inr (.inr e))
  have hIs:=hi.resolve_left h0
  split
  ·rename_i hb
   have hs:i∈M.slots:=by
    rcases hIs with q|q
    ·have:=(ok.s1 i q).2.1;rw[hb] at this;cases this
    ·exact q.2
   refine ⟨⟨p.nd.1,nodup_snoc p.nd.2 hl⟩,p.cs,fun x hx=>?_⟩
   rcases List.mem_append.1 hx with q|q
   ·exact p.ls x q
   ·rw[List.mem_singleton.1 q];exact ⟨h0,hs⟩
  ·rename_i hb
   have hs:i∈M.small:=by
    rcases hIs with q|q
    ·exact q
    ·obtain ⟨s,hs,es⟩:=mem_slot q.2
     have:=(ok.b1 s (by rw[es];exact h0)).1
     rw[es] at this
     exact absurd this hb
   refine ⟨⟨nodup_snoc p.nd.1 hc,p.nd.2⟩,fun x hx=>?_,p.ls⟩
   rcases List.mem_append.1 hx with q|q
   ·exact p.cs x q
   ·rw[List.mem_singleton.1 q];exact hs
theorem Pu.fold {M:Hp} (ok:HpOk M):∀ (l:List Nat) {k:Wk},Pu M k→(∀ i∈l,i=0∨Is M i)→Pu M (l.foldl (reachW M) k)
 | [],_,p,_=>p
 | x :: l,k,p,h=>Pu.fold ok l (p.reach ok (h x List.mem_cons_self)) (fun i hi=>h i (List.mem_cons_of_mem _ hi))
theorem Pu.roots {M:Hp} (ok:HpOk M):∀ n,Pu M (rootsW M n)
 | 0=>⟨⟨List.nodup_nil,List.nodup_nil⟩,fun i hi=>absurd hi (by simp [rootsW]),fun i hi=>absurd hi (by simp [rootsW])⟩
 | n+1=>by
  rw[rootsW_succ]
  cases h:M.roots.getD n none with
  | none=>exact Pu.roots ok n
  | some i=>
   refine (Pu.roots ok n).reach ok (ok.rt i ?_)
   rw[List.getD_eq_getElem?_getD] at h
   cases hx:M.roots[n]? with
   | none=>rw[hx] at h;cases h
   | some y=>
    rw[hx] at h
    have:y=some i:=h
    rw[← this]
    exact List.mem_of_getElem? hx
theorem Pu.step {M:Hp} (ok:HpOk M) {s t:St} (p:Pu M s.k) (e:stepW M s=some t):Pu M t.k:=by
 unfold stepW at e
 split at e
 ·rename_i ha
  cases e
  refine Pu.fold ok _ p (fun r hr=>ok.rf _ (.inl (p.cs _ ?_)) r hr)
  rw[List.getD_eq_getElem?_getD,List.getElem?_eq_getElem ha]
  exact List.getElem_mem ha
 ·split at e
  ·rename_i hb
   cases e
   refine Pu.fold ok _ p (fun r hr=>ok.rf _ (.inr (p.ls _ ?_)) r hr)
   rw[List.getD_eq_getElem?_getD,List.getElem?_eq_getElem hb]
   exact List.getElem_mem hb
  ·cases e
theorem Pu.lens {M:Hp}{k:Wk} (p:Pu M k):k.cop.length≤M.small.length∧k.lin.length≤M.slots.length:=by
 have e:∀ l:List Nat,(l.map (fun _=>1)).sum=l.length:=fun l=>by induction l with|nil=>rfl|cons a l ih=>simp [ih];omega
 have h1:=sum_sub (fun _=>1) k.cop M.small p.nd.1 p.cs
 have h2:=sum_sub (fun _=>1) k.lin M.slots p.nd.2 (fun x hx=>(p.ls x hx).2)
 rw[e,e] at h1 h2
 exact ⟨h1,h2⟩
def meas (M:Hp) (s:St):Nat:=M.small.length+M.slots.length-(s.a+s.b)
theorem meas_step {M:Hp}{s t:St} (p:Pu M s.k) (c:Cl M s) (e:stepW M s=some t):meas M t<meas M s:=by
 obtain ⟨h1,h2⟩:=p.lens
 obtain ⟨c1,c2,_⟩:=c
 unfold stepW at e
 unfold meas
 by_cases ha:s.a<s.k.cop.length
 ·rw[if_pos ha] at e
  cases e
  show _-(s.a+1+s.b)<_
  omega
 ·rw[if_neg ha] at e
  by_cases hb:s.b<s.k.lin.length
  ·rw[if_pos hb] at e
   cases e
   show _-(s.a+(s.b+1))<_
   omega
  ·rw[if_neg hb] at e;cases e
theorem walk_ends {M:Hp} (ok:HpOk M):∀ (n:Nat) (s:St),meas M s≤n→Pu M s.k→Cl M s→∃ t,Star M s t∧stepW M t=none∧Pu M t.k
 | n,s,hm,p,c=>by
  cases e:stepW M s with
  | none=>exact ⟨s,.refl _,e,p⟩
  | some t=>
   have hlt:=meas_step p c e
   match n,hm with
   | 0,hm=>omega
   | n+1,hm=>
    obtain ⟨u,h1,h2,h3⟩:=walk_ends ok n t (by omega) (p.step ok e) (c.step e).1
    exact ⟨u,h1.cons e,h2,h3⟩
def stR (M:Hp) (n:Nat):St:=⟨rootsW M n,0,0⟩
theorem cl_start (M:Hp) (n:Nat):Cl M (stR M n):=⟨Nat.zero_le _,Nat.zero_le _,fun x hx=>by rcases hx with q|q <;> simp [stR] at q⟩
theorem walk_done {M:Hp} (ok:HpOk M) (n:Nat) (hn:∀ x,n≤x→M.roots.getD x none=none):∃ t,Star M (stR M n) t∧stepW M t=none∧Fin' M t.k∧t.a=t.k.cop.length∧t.b=t.k.lin.length:=by
 obtain ⟨t,h1,h2,h3⟩:=walk_ends ok _ (stR M n) (Nat.le_refl _) (Pu.roots ok n) (cl_start M n)
 obtain ⟨c1,⟨u1,e1⟩,⟨u2,e2⟩⟩:=Cl.star h1 (cl_start M n)
 obtain ⟨ha,hb,hc⟩:=c1.ends h2
 refine ⟨t,h1,h2,⟨h3.nd,h3.cs,h3.ls,hc,fun i hi=>?_⟩,ha,hb⟩
 obtain ⟨x,hx,ex⟩:=List.getElem_of_mem hi
 have hg:M.roots.getD x none=some i:=by rw[List.getD_eq_getElem?_getD,List.getElem?_eq_getElem hx];exact ex
 have hxn:x<n:=Classical.byContradiction (fun q=>by rw[hn x (by omega)] at hg;cases hg)
 have:=rootsW_has M n x i hxn hg
 rw[e1,e2]
 rcases this with q|q|q
 ·exact .inl q
 ·exact .inr (.inl (List.mem_append.2 (.inl q)))
 ·exact .inr (.inr (List.mem_append.2 (.inl q)))
theorem least_of {α:Type} (P:α→Nat→Prop):∃ μ:α→Nat,∀ x,(∃ m,P x m)→P x (μ x)∧∀ m,P x m→μ x≤m:=by
 have h:∀ x,∃ n,(∃ m,P x m)→P x n∧∀ m,P x m→n≤m:=by
  intro x
  by_cases hx:∃ m,P x m
  ·have key:∀ n,(∃ m,m≤n∧P x m)→∃ k,P x k∧∀ m,P x m→k≤m:=by
    intro n
    induction n with
    | zero=>
     rintro ⟨m,hm,hp⟩
     have:m=0:=by omega
     subst this
     exact ⟨0,hp,fun _ _=>Nat.zero_le _⟩
    | succ n ih=>
     rintro ⟨m,hm,hp⟩
     by_cases q:∃ m,m≤n∧P x m
     ·exact ih q
     ·refine ⟨m,hp,fun j hj=>Classical.byContradiction (fun hlt=>q ⟨j,by omega,hj⟩)⟩
   obtain ⟨m,hm⟩:=hx
   obtain ⟨k,h1,h2⟩:=key m ⟨m,Nat.le_refl _,hm⟩
   exact ⟨k,fun _=>⟨h1,h2⟩⟩
  ·exact ⟨0,fun q=>absurd q hx⟩
 exact ⟨fun x=>Classical.choose (h x),fun x hx=>Classical.choose_spec (h x) hx⟩
theorem lgOf_sum (M:Hp):∀ l:List Nat,lgOf M l=sumB l.length (fun s=>if l.getD s 0=0 then 0 else 1+osz (ob M (l.getD s 0))):=by
 intro l
 unfold lgOf sumB
 congr 1
 apply List.ext_getElem?
 intro n
 rw[List.getElem?_map,List.getElem?_map]
 by_cases h:n<l.length
 ·rw[List.getElem?_eq_getElem h,List.getElem?_range h]
  simp [List.getD_eq_getElem?_getD,List.getElem?_eq_getElem h]
 ·rw[List.getElem?_eq_none (Nat.le_of_not_lt h),List.getElem?_eq_none (by simp;omega)]
  rfl
theorem sumB_past (f:Nat→Nat) (N:Nat) (h:∀ s,N≤s→f s=0):∀ d,sumB (N+d) f=sumB N f
 | 0=>rfl
 | d+1=>by
  have ih:=sumB_past f N h d
  have:N+(d+1)=(N+d)+1:=by omega
  rw[this]
  unfold sumB at *
  rw[List.range_succ,List.map_append,List.sum_append,ih]
  simp [h (N+d) (by omega)]
structure HAt (w:World) (ph:Nat) (tag:Nat→Nat) (M:Hp) (H:HC):Prop where
 raw:HRaw w ph tag H
 wf:HpWf M
 nL:H.limit=M.limit
 nG:H.large=M.large
 nK:H.kept=M.kept
 nM:H.moved=M.moved
 nC:H.coll=M.coll
 nR:H.resz=M.resz
 A:H.A=midA M []
 S:H.S=RefSt.new M.half
 cB:∀ s,(H.cB.getD s none).isSome=true↔M.slots.getD s 0≠0
 bk:∀ s,M.slots.getD s 0≠0→H.bk s=midK M [] (fun _=>0) (M.slots.getD s 0)
 re:∀ s,M.slots.getD s 0≠0→H.re s≤H.coll
 cH:∀ x,H.cH.getD x none=(M.roots.getD x none).map (refW M)
 lB:H.cB.length≤M.slots.length∧∀ q∈H.frB,q<M.slots.length
 lH:H.cH.length≤M.roots.length∧∀ q∈H.frH,q<M.roots.length
def swapT (tag:Nat→Nat):Nat→Nat:=fun g=>if tag g=2 then 3 else if tag g=3 then 2 else tag g
theorem swapT_other {tag:Nat→Nat}{g:Nat} (h2:tag g≠2) (h3:tag g≠3):swapT tag g=tag g:=by unfold swapT;rw[if_neg h2,if_neg h3]
theorem HRaw.swap {w:World}{ph:Nat}{tag:Nat→Nat}{H:HC} (h:HRaw w ph tag H) (W:World) (hW:W=((w.setCell ⟨ph,1,none⟩ (.pointer (some ⟨H.s.1,0,none⟩))).setCell ⟨ph,2,none⟩ (.pointer (some ⟨H.a.1,0,none⟩))).drew):
  HRaw W ph (swapT tag) { H with a:=H.s,s:=H.a,A:=H.S,S:=H.A }∧Fr tag (swapT tag) w W:=by
 have hs:W.heap.size=w.heap.size:=by rw[hW];show (World.setCell _ _ _).heap.size=_;rw[World.size_setCell,World.size_setCell]
 have hb:∀ g,g≠ph→W.heap[g]?=w.heap[g]?:=fun g hg=>by
  rw[hW]
  show (World.setCell _ _ _).heap[g]?=_
  rw[setCell_else _ _ _ _ _ hg,setCell_else _ _ _ _ _ hg]
 have hc:∀ q,q≠1→q≠2→W.cell? ⟨ph,q,none⟩=w.cell? ⟨ph,q,none⟩:=fun q h1 h2=>by
  rw[hW]
  show (World.setCell _ _ _).cell? _=_
  rw[World.cell?_setCell_other _ _ _ _ (by intro e;cases e;exact h2 rfl),World.cell?_setCell_other _ _ _ _ (by intro e;cases e;exact h1 rfl)]
 have hf:∀ q,W.frozen? ⟨ph,q,none⟩=w.frozen? ⟨ph,q,none⟩:=fun q=>by
  rw[hW]
  show (World.setCell _ _ _).frozen? _=_
  rw[World.frozen?_setCell,World.frozen?_setCell]
 have hc1:W.cell? ⟨ph,1,none⟩=some (.pointer (some ⟨H.s.1,0,none⟩)):=by
  rw[hW]
  show (World.setCell _ _ _).cell? _=_
  rw[World.cell?_setCell_other _ _ _ _ (by simp)]
  exact World.cell?_setCell_same' _ _ _ (by rw[h.n1];rfl)
 have hc2:W.cell? ⟨ph,2,none⟩=some (.pointer (some ⟨H.a.1,0,none⟩)):=by
  rw[hW]
  show (World.setCell _ _ _).cell? _=_
  exact World.cell?_setCell_same' _ _ _ (by rw[World.cell?_setCell_other _ _ _ _ (by simp),h.n2];rfl)
 have hn:∀ n g,n≠1→tag g=n→W.heap[g]?=w.heap[g]?:=fun n g h1 e=>hb g (by rintro rfl;rw[h.t1] at e;exact h1 e.symm)
 have ho:∀ g n,n≠2→n≠3→tag g=n→swapT tag g=n:=fun g n h2 h3 e=>(swapT_other (by omega) (by omega)).trans e
 have h23:∀ g,tag g=2→swapT tag g=3:=fun g e=>by unfold swapT;rw[if_pos e]
 have h32:∀ g,tag g=3→swapT tag g=2:=fun g e=>by unfold swapT;rw[if_neg (by omega),if_pos e]
 have h0:∀ g,swapT tag g≠0→tag g≠0:=fun g e q=>e (by unfold swapT;rw[if_neg (by omega),if_neg (by omega)];exact q)
 have hle:w.heap.size≤W.heap.size:=by omega
 refine ⟨{
  n0:=(hc 0 (by omega) (by omega)).trans h.n0,n1:=hc1,n2:=hc2,n9:=(hc 9 (by omega) (by omega)).trans h.n9,n10:=(hc 10 (by omega) (by omega)).trans h.n10,n11:=(hc 11 (by omega) (by omega)).trans h.n11,n12:=(hc 12 (by omega) (by omega)).trans h.n12,n13:=(hc 13 (by omega) (by omega)).trans h.n13
  fz:=fun i hi=>(hf i).trans (h.fz i hi)
  pB:=h.pB.conf (fun q _ _=>hc q (by omega) (by omega)) hf (fun g e=>hn 5 g (by omega) (h.tB.1 g e)) (fun g e=>hn 5 g (by omega) (h.tB.2 g e))
  pH:=h.pH.conf (fun q _ _=>hc q (by omega) (by omega)) hf (fun g e=>hn 4 g (by omega) (h.tH.1 g e)) (fun g e=>hn 4 g (by omega) (h.tH.2 g e))
  hA:=h.hS.conf hle (hn 3 _ (by omega) h.tS.1) (hn 3 _ (by omega) h.tS.2.1) (hn 3 _ (by omega) h.tS.2.2)
  hS:=h.hA.conf hle (hn 2 _ (by omega) h.tA.1) (hn 2 _ (by omega) h.tA.2.1) (hn 2 _ (by omega) h.tA.2.2)
  bB:=fun s bp e=>by
   have t:=h.tK s bp e
   exact (h.bB s bp e).conf hle (hn (8+s) _ (by omega) t.1) (hn (8+s) _ (by omega) t.2.1) (hn (8+s) _ (by omega) t.2.2.1) (hn (8+s) _ (by omega) t.2.2.2)
  t1:=ho _ _ (by omega) (by omega) h.t1
  tA:=⟨h32 _ h.tS.1,h32 _ h.tS.2.1,h32 _ h.tS.2.2⟩
  tS:=⟨h23 _ h.tA.1,h23 _ h.tA.2.1,h23 _ h.tA.2.2⟩
  tH:=⟨fun g e=>ho _ _ (by omega) (by omega) (h.tH.1 g e),fun g e=>ho _ _ (by omega) (by omega) (h.tH.2 g e)⟩
  tB:=⟨fun g e=>ho _ _ (by omega) (by omega) (h.tB.1 g e),fun g e=>ho _ _ (by omega) (by omega) (h.tB.2 g e)⟩
  tK:=fun s bp e=>by
   have t:=h.tK s bp e
   exact ⟨ho _ _ (by omega) (by omega) t.1,ho _ _ (by omega) (by omega) t.2.1,ho _ _ (by omega) (by omega) t.2.2.1,ho _ _ (by omega) (by omega) t.2.2.2⟩
  tN:=h.tN
  un:=fun g e=>by have:=h.un g (h0 g e);omega },⟨by rw[hW];rfl,by rw[hW];rfl,by rw[hW];rfl,hle,fun g hg e=>⟨hb g (by rintro rfl;rw[h.t1] at e;cases e),ho g 0 (by omega) (by omega) e⟩⟩⟩
theorem HRaw.marks {w:World}{ph:Nat}{tag:Nat→Nat}{H:HC} (h:HRaw w ph tag H) (k m:Nat) (W:World) (hW:Still ((w.setCell ⟨ph,10,none⟩ (.int .i64 (k:Nat))).setCell ⟨ph,11,none⟩ (.int .i64 (m:Nat))) W):HRaw W ph tag { H with kept:=k,moved:=m }:=by
 have ho:∀ q,q≠10→q≠11→((w.setCell ⟨ph,10,none⟩ (.int .i64 (k:Nat))).setCell ⟨ph,11,none⟩ (.int .i64 (m:Nat))).cell? ⟨ph,q,none⟩=w.cell? ⟨ph,q,none⟩:=fun q h1 h2=>by
  rw[World.cell?_setCell_other _ _ _ _ (by intro e;cases e;exact h2 rfl),World.cell?_setCell_other _ _ _ _ (by intro e;cases e;exact h1 rfl)]
 refine (h.nums (w':=(w.setCell ⟨ph,10,none⟩ (.int .i64 (k:Nat))).setCell ⟨ph,11,none⟩ (.int .i64 (m:Nat))) (by rw[World.size_setCell,World.size_setCell];exact Nat.le_refl _) (fun g _ hn=>by rw[setCell_else _ _ _ _ _ hn,setCell_else _ _ _ _ _ hn]) (fun q=>by rw[World.frozen?_setCell,World.frozen?_setCell]) (fun q hq=>ho q (by omega) (by omega)) H.large k m H.coll H.resz
  ((ho 9 (by omega) (by omega)).trans h.n9) ?_ (World.cell?_setCell_same' _ _ _ (by rw[World.cell?_setCell_other _ _ _ _ (by simp),h.n11];rfl)) ((ho 12 (by omega) (by omega)).trans h.n12) ((ho 13 (by omega) (by omega)).trans h.n13)).below hW.below
 rw[World.cell?_setCell_other _ _ _ _ (by simp)]
 exact World.cell?_setCell_same' _ _ _ (by rw[h.n10];rfl)
set_option maxHeartbeats 2000000
def tagH (tag:Nat→Nat) (a s:Nat × Nat × Nat):Nat→Nat:=fun g=>if g=a.1∨g=a.2.1∨g=a.2.2 then 2 else if g=s.1∨g=s.2.1∨g=s.2.2 then 3 else tag g
theorem HRaw.halves {w w':World}{ph:Nat}{tag:Nat→Nat}{H:HC} (h:HRaw w ph tag H) (a s:Nat × Nat × Nat) (A S:RefSt) (r:Nat) (hs:w.heap.size≤w'.heap.size) (ho:w'.os=w.os∧w'.tape=w.tape∧w'.output=w.output) (hb:∀ g,g<w.heap.size→tag g≠2→g≠ph→w'.heap[g]?=w.heap[g]?)
  (hc:∀ q,q≠1→q≠2→q≠13→w'.cell? ⟨ph,q,none⟩=w.cell? ⟨ph,q,none⟩) (hf:∀ q,w'.frozen? ⟨ph,q,none⟩=w.frozen? ⟨ph,q,none⟩)
  (c1:w'.cell? ⟨ph,1,none⟩=some (.pointer (some ⟨a.1,0,none⟩))) (c2:w'.cell? ⟨ph,2,none⟩=some (.pointer (some ⟨s.1,0,none⟩))) (c13:w'.cell? ⟨ph,13,none⟩=some (.int .i64 (r:Nat)))
  (hA:ArR w' a A) (hS:ArR w' s S) (fa:w.heap.size≤a.1∧w.heap.size≤a.2.1∧w.heap.size≤a.2.2) (fs:w.heap.size≤s.1∧w.heap.size≤s.2.1∧w.heap.size≤s.2.2) (hd:∀ x ∈ [s.1,s.2.1,s.2.2],x ∉ [a.1,a.2.1,a.2.2]):
  HRaw w' ph (tagH tag a s) { H with a:=a,s:=s,A:=A,S:=S,resz:=r }∧Fr tag (tagH tag a s) w w':=by
 have hold:∀ g,g<w.heap.size→tagH tag a s g=tag g:=fun g hg=>by
  unfold tagH
  rw[if_neg (by rintro (q|q|q) <;> omega),if_neg (by rintro (q|q|q) <;> omega)]
 have hk:∀ g n,n≠0→tag g=n→tagH tag a s g=n:=fun g n hn e=>(hold g (h.un g (by omega))).trans e
 have hn:∀ n g,n≠0→n≠1→n≠2→tag g=n→w'.heap[g]?=w.heap[g]?:=fun n g h0 h1 h2 e=>hb g (h.un g (by omega)) (by omega) (by rintro rfl;have:=h.t1;omega)
 have hc':=fun q h1 h2 h3=>hc q h1 h2 h3
 refine ⟨{
  n0:=(hc 0 (by omega) (by omega) (by omega)).trans h.n0,n1:=c1,n2:=c2,n9:=(hc 9 (by omega) (by omega) (by omega)).trans h.n9,n10:=(hc 10 (by omega) (by omega) (by omega)).trans h.n10,n11:=(hc 11 (by omega) (by omega) (by omega)).trans h.n11,n12:=(hc 12 (by omega) (by omega) (by omega)).trans h.n12,n13:=c13
  fz:=fun i hi=>(hf i).trans (h.fz i hi)
  pB:=h.pB.conf (fun q _ _=>hc q (by omega) (by omega) (by omega)) hf (fun g e=>hn 5 g (by omega) (by omega) (by omega) (h.tB.1 g e)) (fun g e=>hn 5 g (by omega) (by omega) (by omega) (h.tB.2 g e))
  pH:=h.pH.conf (fun q _ _=>hc q (by omega) (by omega) (by omega)) hf (fun g e=>hn 4 g (by omega) (by omega) (by omega) (h.tH.1 g e)) (fun g e=>hn 4 g (by omega) (by omega) (by omega) (h.tH.2 g e))
  hA:=hA
  hS:=hS
  bB:=fun q bp e=>by
   have t:=h.tK q bp e
   exact (h.bB q bp e).conf hs (hn (8+q) _ (by omega) (by omega) (by omega) t.1) (hn (8+q) _ (by omega) (by omega) (by omega) t.2.1) (hn (8+q) _ (by omega) (by omega) (by omega) t.2.2.1) (hn (8+q) _ (by omega) (by omega) (by omega) t.2.2.2)
  t1:=hk _ _ (by decide) h.t1
  tA:=by
   unfold tagH
   exact ⟨if_pos (.inl rfl),if_pos (.inr (.inl rfl)),if_pos (.inr (.inr rfl))⟩
  tS:=by
   have key:∀ x ∈ [s.1,s.2.1,s.2.2],tagH tag a s x=3:=fun x hx=>by
    have q:=hd x hx
    simp only[List.mem_cons,List.not_mem_nil,or_false] at hx q
    unfold tagH
    rw[if_neg q,if_pos hx]
   exact ⟨key _ (by simp),key _ (by simp),key _ (by simp)⟩
  tH:=⟨fun g e=>hk _ _ (by decide) (h.tH.1 g e),fun g e=>hk _ _ (by decide) (h.tH.2 g e)⟩
  tB:=⟨fun g e=>hk _ _ (by decide) (h.tB.1 g e),fun g e=>hk _ _ (by decide) (h.tB.2 g e)⟩
  tK:=fun q bp e=>by
   have t:=h.tK q bp e
   exact ⟨hk _ _ (by omega) t.1,hk _ _ (by omega) t.2.1,hk _ _ (by omega) t.2.2.1,hk _ _ (by omega) t.2.2.2⟩
  tN:=h.tN
  un:=fun g e=>by
   unfold tagH at e
   split at e
   ·rename_i q
    have:=hA.lt
    rcases q with rfl|rfl|rfl
    exact this.1;exact this.2.1;exact this.2.2
   ·split at e
    ·rename_i q
     have:=hS.lt
     rcases q with rfl|rfl|rfl
     exact this.1;exact this.2.1;exact this.2.2
    ·exact Nat.lt_of_lt_of_le (h.un g e) hs },⟨ho.1,ho.2.1,ho.2.2,hs,fun g hg e=>⟨hb g hg (by omega) (by rintro rfl;have:=h.t1;omega),(hold g hg).trans e⟩⟩⟩
def becM (M:Hp) (n:Nat):Hp:=if n=M.half then M else { M with half:=n,resz:=M.resz+1 }
theorem becM_wf {M:Hp} (wf:HpWf M) (n:Nat) (h1:64≤n) (h2:M.used≤n) (h3:2*n+M.large≤M.limit):HpWf (becM M n):=by
 unfold becM
 split
 ·exact wf
 ·have:=wf.l2
  exact ⟨⟨wf.ok.sm,wf.ok.s1,wf.ok.b1,wf.ok.rf,wf.ok.rt,wf.ok.us,h2,by show n≤_;omega,wf.ok.sl⟩,wf.ln,wf.lg,wf.kp,h3,h1,wf.l2,wf.ss,wf.sb⟩
theorem become_walk {w:World}{ph n pa sz rz:Nat} (hne:n≠sz) (hrz:rz≤1000000000000) (e1:w.cell? ⟨ph,1,none⟩=some (.pointer (some ⟨pa,0,none⟩))) (R:World→Prop) (I1 I2:(Nat × Nat × Nat)→World→Prop)
  (HS:Calls Tryz.prog 63 #[.pointer (some ⟨pa,0,none⟩)] w fun e w'=>e=.returned (.int .i64 (sz:Nat))∧w'=w)
  (HN:Calls Tryz.prog 35 #[.int .i64 (n:Nat)] w fun e w'=>∃ a:Nat × Nat × Nat,e=.returned (.pointer (some ⟨a.1,0,none⟩))∧I1 a w')
  (c1:∀ a W,I1 a W→W.cell? ⟨ph,1,none⟩=some (.pointer (some ⟨pa,0,none⟩)))
  (HT:∀ a W,I1 a W→Calls Tryz.prog 127 #[.pointer (some ⟨a.1,0,none⟩),.pointer (some ⟨pa,0,none⟩)] W fun e w'=>e=.returned (.tuple #[])∧I2 a w')
  (HN2:∀ a W,I2 a W→Calls Tryz.prog 35 #[.int .i64 (n:Nat)] W fun e w'=>∃ s:Nat × Nat × Nat,e=.returned (.pointer (some ⟨s.1,0,none⟩))∧(w'.cell? ⟨ph,1,none⟩=some (.pointer (some ⟨pa,0,none⟩))∧(∃ x,w'.cell? ⟨ph,2,none⟩=some (.pointer (some x)))∧w'.cell? ⟨ph,13,none⟩=some (.int .i64 (rz:Nat))∧w'.frozen? ⟨ph,1,none⟩=false∧w'.frozen? ⟨ph,2,none⟩=false∧w'.frozen? ⟨ph,13,none⟩=false)∧
   R (((w'.setCell ⟨ph,1,none⟩ (.pointer (some ⟨a.1,0,none⟩))).setCell ⟨ph,2,none⟩ (.pointer (some ⟨s.1,0,none⟩))).setCell ⟨ph,13,none⟩ (.int .i64 ((rz:Int)+1)))):
  Calls Tryz.prog 90 #[.pointer (some ⟨ph,0,none⟩),.int .i64 (n:Nat)] w fun e w'=>e=.returned (.tuple #[])∧R w':=by
 have H1:=hide HS
 have H2:=hide HN
 have H3:=hide HT
 have H4:=hide HN2
 have H5:=hide c1
 have hd:((n:Int) == (sz:Nat))=false:=by simp;omega
 have e2:IntKind.i64.wrap ((rz:Int)+1)=(rz:Int)+1:=by rw[show (rz:Int)+1=((rz+1:Nat):Int) by omega];exact wrap_nat _ (by omega)
 clear HS HN HT HN2 c1
 go_enter Tryz.func90,Tryz.ntmps90
 go_wp2_with fail
 refine (unhide H1).mono ?_
 clear H1
 rintro e w1 ⟨rfl,rfl⟩
 go_wp2_with fail
 refine (unhide H2).mono ?_
 clear H2
 rintro e w2 ⟨a,rfl,hi1⟩
 have k1:=unhide H5 a w2 hi1
 have HI1:=hide (unhide H3 a w2 hi1)
 clear hi1 H3 H5
 go_wp2_with fail
 refine (unhide HI1).mono ?_
 clear HI1 k1
 rintro e w3 ⟨rfl,hi2⟩
 have HI2:=hide (unhide H4 a w3 hi2)
 clear hi2 H4
 go_wp2_with fail
 refine (unhide HI2).mono ?_
 clear HI2
 rintro e w4 ⟨s,rfl,⟨k1,⟨x,k2⟩,k3,k4,k5,k6⟩,hR⟩
 have HR:=hide hR
 clear hR
 go_wp2
 go_end0
 exact ⟨rfl,unhide HR⟩
theorem become_same {w:World}{ph n pa:Nat} (e1:w.cell? ⟨ph,1,none⟩=some (.pointer (some ⟨pa,0,none⟩)))
  (HS:Calls Tryz.prog 63 #[.pointer (some ⟨pa,0,none⟩)] w fun e w'=>e=.returned (.int .i64 (n:Nat))∧w'=w):
  Calls Tryz.prog 90 #[.pointer (some ⟨ph,0,none⟩),.int .i64 (n:Nat)] w fun e w'=>e=.returned (.tuple #[])∧w'=w:=by
 have H1:=hide HS
 clear HS
 go_enter Tryz.func90,Tryz.ntmps90
 go_wp2_with fail
 refine (unhide H1).mono ?_
 clear H1
 rintro e w1 ⟨rfl,rfl⟩
 go_wp2
 refine bodyPost_ret (results_none rfl _ _ _) rfl ?_
 exact ⟨rfl,rfl⟩
set_option maxHeartbeats 1000000
theorem midA_used (M:Hp) (ok:HpOk M) (cop:List Nat):(midA M cop).used=M.used:=by
 rw[ok.us]
 show place (shapes M M.small) (shapes M M.small).length=_
 rw[shapes_length]
theorem become_any {w:World}{ph:Nat}{tag:Nat→Nat}{M:Hp}{H:HC} (h:HAt w ph tag M H) (n:Nat) (h1:64≤n) (h2:M.used≤n) (h3:2*n+M.large≤M.limit) (hr:M.resz≤1000000000000):
  Calls Tryz.prog 90 #[.pointer (some ⟨ph,0,none⟩),.int .i64 (n:Nat)] w fun e w'=>e=.returned (.tuple #[])∧∃ tag' H',HAt w' ph tag' (becM M n) H'∧Fr tag tag' w w':=by
 have wf:=h.wf
 have ok:=wf.ok
 have hA:=h.raw.hA
 rw[h.A] at hA
 have hsz:(midA M []).size=M.half:=rfl
 by_cases hne:n=M.half
 ·have e1:becM M n=M:=by unfold becM;rw[if_pos hne]
  rw[e1,hne]
  refine (become_same h.raw.n1 (r_size hA)).mono ?_
  rintro e w' ⟨rfl,rfl⟩
  exact ⟨rfl,tag,H,h,Fr.refl _⟩
 ·have hl2:=wf.l2
  have hph:ph<w.heap.size:=h.raw.un ph (by rw[h.raw.t1];decide)
  have hal:=hA.lt
  have eM:becM M n = { M with half:=n,resz:=M.resz+1 }:=by unfold becM;rw[if_neg hne]
  refine become_walk (R:=fun w'=>∃ tag' H',HAt w' ph tag' (becM M n) H'∧Fr tag tag' w w') (sz:=M.half) (rz:=H.resz) (I1:=fun a W=>ArR W a (RefSt.new n)∧(w.heap.size≤a.1∧w.heap.size≤a.2.1∧w.heap.size≤a.2.2)∧Below w.heap.size w W)
   (I2:=fun a W=>ArR W a ⟨(midA M []).L,(midA M []).X,(midA M []).L.map (fun _=>none),[],.slice none 0 0,n⟩∧(w.heap.size≤a.1∧w.heap.size≤a.2.1∧w.heap.size≤a.2.2)∧∃ W1,Below w.heap.size w W1∧But [a.1,a.2.2,a.2.1,H.a.2.1] W1 W)
   hne (by rw[h.nR];exact hr) h.raw.n1 (r_size hA) ((r_new n (by omega) (by omega) w).mono ?_) (fun a W hI=>?_) (fun a W hI=>?_) (fun a W hI=>?_)
  ·rintro e w' ⟨a,rfl,q1,q2,q3⟩
   exact ⟨a,rfl,q1,q2,q3⟩
  ·exact (hI.2.2.cell (p:=⟨ph,1,none⟩) hph).trans h.raw.n1
  ·obtain ⟨q1,q2,q3⟩:=hI
   have hA':=hA.conf q3.size (q3.block _ hal.1) (q3.block _ hal.2.1) (q3.block _ hal.2.2)
   refine (takeAll_any hA' q1 (fun j hj=>?_) (fun x hx hy=>?_) (by rw[midA_used M ok];exact h2)).mono ?_
   ·show (M.small.map _).getD j none=none
    have hj':j<M.small.length:=by have:j<(shapes M M.small).length:=hj;rw[shapes_length] at this;exact this
    rw[getD_map_in _ _ _ 0 none hj',if_neg (by simp)]
   ·simp only[List.mem_cons,List.not_mem_nil,or_false] at hx hy
    rcases hx with rfl|rfl|rfl <;> rcases hy with e|e|e <;> omega
   ·rintro e w' ⟨rfl,g1,g2⟩
    exact ⟨rfl,g1,q2,W,q3,g2⟩
  ·obtain ⟨q1,q2,W1,q3,q4⟩:=hI
   have hW:w.heap.size≤W.heap.size:=Nat.le_trans q3.size q4.size
   have hWg:∀ g,g<w.heap.size→tag g≠2→W.heap[g]?=w.heap[g]?:=fun g hg ht=>by
    rw[q4.block g (Nat.lt_of_lt_of_le hg q3.size) (fun hm=>by
     simp only[List.mem_cons,List.not_mem_nil,or_false] at hm
     rcases hm with e|e|e|e
     ·omega
     ·omega
     ·omega
     ·exact ht (by rw[e];exact h.raw.tA.2.1)),q3.block g hg]
   refine (r_new n (by omega) (by omega) W).mono ?_
   rintro e w' ⟨s,rfl,s1,s2,s3⟩
   have hg':∀ g,g<w.heap.size→tag g≠2→w'.heap[g]?=w.heap[g]?:=fun g hg ht=>(s3.block g (by omega)).trans (hWg g hg ht)
   have hphb:=hg' ph hph (by rw[h.raw.t1];decide)
   have hc:=cell_like hphb
   have hf:=froz_like hphb
   refine ⟨s,rfl,⟨(hc 1).trans h.raw.n1,⟨_,(hc 2).trans h.raw.n2⟩,(hc 13).trans h.raw.n13,(hf 1).trans (h.raw.fz 1 (by decide)),(hf 2).trans (h.raw.fz 2 (by decide)),(hf 13).trans (h.raw.fz 13 (by decide))⟩,?_⟩
   obtain ⟨W9,hW9⟩:∃ W9,((w'.setCell ⟨ph,1,none⟩ (.pointer (some ⟨a.1,0,none⟩))).setCell ⟨ph,2,none⟩ (.pointer (some ⟨s.1,0,none⟩))).setCell ⟨ph,13,none⟩ (.int .i64 ((H.resz:Int)+1))=W9:=⟨_,rfl⟩
   rw[hW9]
   have h9:∀ g,g≠ph→W9.heap[g]?=w'.heap[g]?:=fun g hg=>by rw[← hW9,setCell_else _ _ _ _ _ hg,setCell_else _ _ _ _ _ hg,setCell_else _ _ _ _ _ hg]
   have z9:W9.heap.size=w'.heap.size:=by rw[← hW9,World.size_setCell,World.size_setCell,World.size_setCell]
   have c9:∀ q,q≠1→q≠2→q≠13→W9.cell? ⟨ph,q,none⟩=w.cell? ⟨ph,q,none⟩:=fun q k1 k2 k3=>by
    rw[← hW9,World.cell?_setCell_other _ _ _ _ (by intro e;cases e;exact k3 rfl),World.cell?_setCell_other _ _ _ _ (by intro e;cases e;exact k2 rfl),World.cell?_setCell_other _ _ _ _ (by intro e;cases e;exact k1 rfl)]
    exact hc q
   have f9:∀ q,W9.frozen? ⟨ph,q,none⟩=w.frozen? ⟨ph,q,none⟩:=fun q=>by
    rw[← hW9,World.frozen?_setCell,World.frozen?_setCell,World.frozen?_setCell];exact hf q
   have k1:W9.cell? ⟨ph,1,none⟩=some (.pointer (some ⟨a.1,0,none⟩)):=by
    rw[← hW9,World.cell?_setCell_other _ _ _ _ (by simp),World.cell?_setCell_other _ _ _ _ (by simp)]
    exact World.cell?_setCell_same' _ _ _ (by rw[hc 1,h.raw.n1];rfl)
   have k2:W9.cell? ⟨ph,2,none⟩=some (.pointer (some ⟨s.1,0,none⟩)):=by
    rw[← hW9,World.cell?_setCell_other _ _ _ _ (by simp)]
    exact World.cell?_setCell_same' _ _ _ (by rw[World.cell?_setCell_other _ _ _ _ (by simp),hc 2,h.raw.n2];rfl)
   have k13:W9.cell? ⟨ph,13,none⟩=some (.int .i64 ((H.resz+1:Nat):Int)):=by
    rw[← hW9]
    exact World.cell?_setCell_same' _ _ _ (by rw[World.cell?_setCell_other _ _ _ _ (by simp),World.cell?_setCell_other _ _ _ _ (by simp),hc 13,h.raw.n13];rfl)
   have la:=q1.lt
   have ls:=s1.lt
   have aA:ArR W9 a ⟨(midA M []).L,(midA M []).X,(midA M []).L.map (fun _=>none),[],.slice none 0 0,n⟩:=q1.conf (by rw[z9];exact s3.size) ((h9 _ (by omega)).trans (s3.block _ la.1)) ((h9 _ (by omega)).trans (s3.block _ la.2.1)) ((h9 _ (by omega)).trans (s3.block _ la.2.2))
   have aS:ArR W9 s (RefSt.new n):=s1.conf (by rw[z9];exact Nat.le_refl _) (h9 _ (by omega)) (h9 _ (by omega)) (h9 _ (by omega))
   have aA':ArR W9 a (midA { M with half:=n,resz:=M.resz+1 } []):=aA.like rfl rfl (by
    show M.small.map _=(shapes M M.small).map _
    unfold shapes
    rw[List.map_map]
    exact List.map_congr_left (fun i _=>by rw[if_neg (by simp)];rfl)) rfl
   obtain ⟨r1,r2⟩:=h.raw.halves a s _ _ (H.resz+1) (by rw[z9];exact Nat.le_trans hW s3.size) ⟨by rw[← hW9];exact s3.os.trans (q4.os.trans q3.os),by rw[← hW9];exact s3.tape.trans (q4.tape.trans q3.tape),by rw[← hW9];exact s3.output.trans (q4.output.trans q3.output)⟩ (fun g hg k1 k2=>(h9 g k2).trans (hg' g hg k1)) c9 f9 k1 k2 k13 aA' aS q2 ⟨by omega,by omega,by omega⟩ (fun x hx hy=>by
    simp only[List.mem_cons,List.not_mem_nil,or_false] at hx hy
    rcases hx with rfl|rfl|rfl <;> rcases hy with e|e|e <;> omega)
   rw[eM]
   refine ⟨_,_,⟨r1,?_,h.nL,h.nG,h.nK,h.nM,h.nC,?_,rfl,rfl,h.cB,h.bk,h.re,h.cH,h.lB,h.lH⟩,r2⟩
   ·have:=becM_wf wf n h1 h2 h3;rw[eM] at this;exact this
   ·show H.resz+1=M.resz+1;rw[h.nR]
end Go.Proofs.YtnfbaapbpgbgpaaGreat
