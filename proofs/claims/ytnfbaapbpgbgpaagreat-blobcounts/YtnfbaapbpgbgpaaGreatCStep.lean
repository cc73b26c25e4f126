import Derived.Test.YtnfbaapbpgbgpaaGreatMid
namespace Go.Proofs.YtnfbaapbpgbgpaaGreat
open Go.ChangeShapes Go.WideShapes Go.ChangeAt Go.RowKit
set_option linter.unusedVariables false
set_option maxRecDepth 100000
set_option maxHeartbeats 1000000
theorem m_obj_a (W:World) (p:Nat):(method 378 85 (.pointer (some ⟨p,0,none⟩)) "Object").run Tryz.prog W=.ok (157,.pointer (some ⟨p,0,none⟩)) W:=by kernel_rfl
theorem m_get_a (W:World) (p:Nat):(method 378 85 (.pointer (some ⟨p,0,none⟩)) "Get").run Tryz.prog W=.ok (194,.pointer (some ⟨p,0,none⟩)) W:=by kernel_rfl
theorem m_set_a (W:World) (p:Nat):(method 378 85 (.pointer (some ⟨p,0,none⟩)) "Set").run Tryz.prog W=.ok (195,.pointer (some ⟨p,0,none⟩)) W:=by kernel_rfl
theorem n_set_a (W:World) (p:Nat):(nilAhead 378 85 (.pointer (some ⟨p,0,none⟩)) "Set").run Tryz.prog W=.ok (some false) W:=by kernel_rfl
theorem m_get_b (W:World) (q p:Nat) (h:W.cell? ⟨q,0,none⟩=some (.pointer (some ⟨p,0,none⟩))):(method 378 187 (.pointer (some ⟨q,0,none⟩)) "Get").run Tryz.prog W=.ok (194,.pointer (some ⟨p,0,none⟩)) W:=by
 rw[m_get_b0,Sem.run_bind,run_load,h];rfl
theorem m_set_b (W:World) (q p:Nat) (h:W.cell? ⟨q,0,none⟩=some (.pointer (some ⟨p,0,none⟩))):(method 378 187 (.pointer (some ⟨q,0,none⟩)) "Set").run Tryz.prog W=.ok (195,.pointer (some ⟨p,0,none⟩)) W:=by
 rw[m_set_b0,Sem.run_bind,run_load,h];rfl
theorem n_set_b (W:World) (q:Nat):(nilAhead 378 187 (.pointer (some ⟨q,0,none⟩)) "Set").run Tryz.prog W=.ok (some false) W:=by kernel_rfl
def Tg (M:Hp) (cop:List Nat) (H:HC) (i t q p at':Nat):Prop:=
 (t=85∧i∈cop∧q=H.s.1∧p=H.s.1∧at'=addr M cop i)∨
 (t=187∧∃ s,M.slots.getD s 0=i∧i≠0∧H.cB.getD s none=some q∧p=(H.at' s).1∧at'=1)
theorem Tg.meth {w:World}{ph:Nat}{tag:Nat→Nat}{H:HC}{M:Hp}{cop:List Nat}{i t q p at':Nat} (h:HRaw w ph tag H) (T:Tg M cop H i t q p at'):
  (method 378 t (.pointer (some ⟨q,0,none⟩)) "Object").run Tryz.prog w=.ok (157,.pointer (some ⟨p,0,none⟩)) w∧(method 378 t (.pointer (some ⟨q,0,none⟩)) "Get").run Tryz.prog w=.ok (194,.pointer (some ⟨p,0,none⟩)) w∧
  (method 378 t (.pointer (some ⟨q,0,none⟩)) "Set").run Tryz.prog w=.ok (195,.pointer (some ⟨p,0,none⟩)) w∧(nilAhead 378 t (.pointer (some ⟨q,0,none⟩)) "Set").run Tryz.prog w=.ok (some false) w:=by
 rcases T with ⟨rfl,_,rfl,rfl,_⟩|⟨rfl,s,_,_,hb,rfl,_⟩
 ·exact ⟨m_obj_a _ _,m_get_a _ _,m_set_a _ _,n_set_a _ _⟩
 ·have hc:=(h.bB s q hb).c0
  exact ⟨m_obj_b _ _ _ hc,m_get_b _ _ _ hc,m_set_b _ _ _ hc,n_set_b _ _⟩
theorem Tg.more {M:Hp}{cop:List Nat}{H H':HC}{i t q p at':Nat} (T:Tg M cop H i t q p at') (x:List Nat) (e:H' = { H with A:=H'.A,S:=H'.S,re:=H'.re,bk:=H'.bk }):Tg M (cop++x) H' i t q p at':=by
 have e1:H'.s=H.s:=by rw[e]
 have e2:H'.cB=H.cB:=by rw[e]
 have e3:H'.at'=H.at':=by rw[e]
 rcases T with ⟨h1,h2,h3,h4,h5⟩|⟨h1,s,h2,h3,h4,h5,h6⟩
 ·exact .inl ⟨h1,List.mem_append.2 (.inl h2),by rw[e1];exact h3,by rw[e1];exact h4,by rw[addr_more M cop x i h2];exact h5⟩
 ·exact .inr ⟨h1,s,h2,h3,by rw[e2];exact h4,by rw[e3];exact h5,h6⟩
theorem midS_at (M:Hp) (cop:List Nat) (pg:Nat→Nat) (i:Nat) (h:i∈cop):cop.idxOf i<(midS M cop pg).L.length∧(midS M cop pg).Gn.getD (cop.idxOf i) none=none∧(midS M cop pg).L.getD (cop.idxOf i) (0,0,0)=shp (ob M i)∧(midS M cop pg).X.getD (cop.idxOf i) []=mix M cop (pg i) i:=by
 obtain ⟨h1,h2⟩:=idx_get h
 refine ⟨by show _<(shapes M cop).length;rw[shapes_length];exact h1,?_,?_,?_⟩
 ·show (cop.map _).getD _ none=none;rw[getD_map_in _ _ _ 0 none h1]
 ·show (shapes M cop).getD _ _=_;rw[shapes_at _ _ _ h1,h2]
 ·show (cop.map _).getD _ []=_;rw[getD_map_in _ _ _ 0 [] h1,h2]
theorem midS_put (M:Hp) (cop:List Nat) (pg:Nat→Nat) (i n:Nat) (hn:cop.Nodup) (h:i∈cop) (hp:pg i=n) (hr:n<(ob M i).refs.length):
  (midS M cop (updF pg i (n+1))).X=((midS M cop pg).put (cop.idxOf i) n (newRef M cop ((ob M i).refs.getD n 0))).X:=by
 show cop.map _=(cop.map _).set _ (List.set _ _ _)
 obtain ⟨h1,h2⟩:=idx_get h
 obtain ⟨_,_,_,h3⟩:=midS_at M cop pg i h
 rw[h3,hp,mix_step M cop n i hr]
 apply List.ext_getElem?
 intro q
 rw[List.getElem?_set,List.getElem?_map,List.getElem?_map]
 by_cases e:cop.idxOf i=q
 ·subst e
  rw[if_pos rfl,if_pos (by rw[List.length_map];exact h1),List.getElem?_eq_getElem h1,Option.map_some]
  rw[List.getD_eq_getElem?_getD,List.getElem?_eq_getElem h1] at h2
  have h2':cop[cop.idxOf i]=i:=h2
  rw[h2']
  unfold updF
  rw[if_pos rfl]
 ·rw[if_neg e]
  cases hx:cop[q]? with
  | none=>rfl
  | some x=>
   rw[Option.map_some,Option.map_some]
   have hxi:x≠i:=by
    rintro rfl
    obtain ⟨hn',hx'⟩:=List.getElem?_eq_some_iff.1 hx
    exact e (by rw[← hx'];exact List.Nodup.idxOf_getElem hn q hn')
   unfold updF
   rw[if_neg hxi]
theorem Tg.obj {w:World}{ph:Nat}{tag:Nat→Nat}{H:HC}{M:Hp}{k:Wk}{pg:Nat→Nat}{i t q p at':Nat} (h:HRaw w ph tag H) (m:MidC M k pg H) (T:Tg M k.cop H i t q p at'):
  Calls Tryz.prog 157 #[.pointer (some ⟨p,0,none⟩),.int .i64 (at':Nat)] w fun e w'=>e=.returned (.tuple #[.int .i64 ((ob M i).kind:Nat),.int .i64 ((ob M i).refs.length:Nat),.int .i64 ((ob M i).raws.length:Nat),.int .i64 0])∧Below w.heap.size w w':=by
 rcases T with ⟨rfl,hi,rfl,rfl,rfl⟩|⟨rfl,s,hs,h0,hb,rfl,rfl⟩
 ·have hS:=h.hS
  rw[m.S] at hS
  obtain ⟨j1,j2,j3,_⟩:=midS_at M k.cop pg i hi
  have:=r_obj hS _ j1 j2
  rw[j3] at this
  exact this
 ·have hK:=(h.bB s q hb).ar
  rw[m.bk s (by rw[hs];exact h0),hs] at hK
  exact r_obj hK 0 (by show 0<1;omega) rfl
theorem Tg.bound {w:World}{ph:Nat}{tag:Nat→Nat}{H:HC}{M:Hp}{k:Wk}{pg:Nat→Nat}{i t q p at':Nat} (h:HRaw w ph tag H) (m:MidC M k pg H) (T:Tg M k.cop H i t q p at'):(ob M i).refs.length≤1048576∧(ob M i).raws.length≤1048576:=by
 rcases T with ⟨rfl,hi,rfl,rfl,rfl⟩|⟨rfl,s,hs,h0,hb,rfl,rfl⟩
 ·have hS:=h.hS
  rw[m.S] at hS
  obtain ⟨j1,j2,j3,_⟩:=midS_at M k.cop pg i hi
  have:=flds_le hS.ok _ j1
  rw[j3] at this
  exact ⟨this.1,this.2.1⟩
 ·have hK:=(h.bB s q hb).ar
  rw[m.bk s (by rw[hs];exact h0),hs] at hK
  have:=flds_le hK.ok 0 (by show 0<1;omega)
  exact ⟨this.1,this.2.1⟩
theorem Tg.get {w:World}{ph:Nat}{tag:Nat→Nat}{H:HC}{M:Hp}{k:Wk}{pg:Nat→Nat}{i t q p at' n:Nat} (h:HRaw w ph tag H) (m:MidC M k pg H) (T:Tg M k.cop H i t q p at') (hp:pg i=n) (hn:n<(ob M i).refs.length):
  Calls Tryz.prog 194 #[.pointer (some ⟨p,0,none⟩),.int .i64 (at':Nat),.int .i64 (n:Nat)] w fun e w'=>e=.returned (.tuple #[.int .u64 (refW M ((ob M i).refs.getD n 0):Nat),.int .i64 0])∧Below w.heap.size w w':=by
 rcases T with ⟨rfl,hi,rfl,rfl,rfl⟩|⟨rfl,s,hs,h0,hb,rfl,rfl⟩
 ·have hS:=h.hS
  rw[m.S] at hS
  obtain ⟨j1,j2,j3,j4⟩:=midS_at M k.cop pg i hi
  have:=r_get hS _ n j1 j2 (by unfold fldsOf;rw[j3];show n<(ob M i).refs.length+(ob M i).raws.length;omega)
  rw[j4,hp,mix_at M k.cop n i hn] at this
  exact this
 ·have hK:=(h.bB s q hb).ar
  rw[m.bk s (by rw[hs];exact h0),hs] at hK
  have:=r_get hK 0 n (by show 0<1;omega) rfl (by show n<(ob M i).refs.length+(ob M i).raws.length;omega)
  have e:((midK M k.cop pg i).X.getD 0 []).getD n 0=refW M ((ob M i).refs.getD n 0):=by
   show (mix M k.cop (pg i) i).getD n 0=_
   rw[hp,mix_at M k.cop n i hn]
  rw[e] at this
  exact this
theorem newRef_lt {w:World}{ph:Nat}{tag:Nat→Nat}{H:HC}{M:Hp}{k:Wk}{pg:Nat→Nat} (ok:HpOk M) (m:MidC M k pg H) (r:Nat) (hr:r=0∨Is M r) (hd:r=0∨(ob M r).big=true∨r∈k.cop):newRef M k.cop r<18446744073709551616:=by
 unfold newRef
 split
 ·omega
 ·rename_i h0
  split
  ·rename_i hb
   rcases hr with q|q|q
   ·exact absurd q h0
   ·have:=(ok.s1 r q).2.1;rw[hb] at this;cases this
   ·obtain ⟨s,hs,es⟩:=mem_slot q.2
    have:=(ok.b1 s (by rw[es];exact h0)).2
    rw[es] at this
    have:=ok.sl
    unfold topW
    omega
  ·rename_i hb
   have hrc:r∈k.cop:=by
    rcases hd with q|q|q
    ·exact absurd q h0
    ·exact absurd q hb
    ·exact q
   have q1:=place_le (shapes M k.cop) (Nat.le_of_lt (idx_get hrc).1)
   have q2:=place_sub M k.cop M.small m.nd.1 m.cs
   rw[← ok.us] at q2
   have:=ok.u2
   have:=ok.h2
   unfold addr
   omega
theorem Tg.set {w:World}{ph pc:Nat}{tag:Nat→Nat}{H:HC}{M:Hp}{k:Wk}{pg:Nat→Nat}{i t q p at' n next:Nat}{v:Value}{ps:List Nat} (ok:HpOk M) (h:HRaw w ph tag H) (m:MidC M k pg H) (c:CAt w pc ph tag next v ps) (T:Tg M k.cop H i t q p at') (hp:pg i=n) (hn:n<(ob M i).refs.length)
  (hin:i∈k.cop∨i∈k.lin) (hr:(ob M i).refs.getD n 0=0∨Is M ((ob M i).refs.getD n 0)) (hd:(ob M i).refs.getD n 0=0∨(ob M ((ob M i).refs.getD n 0)).big=true∨(ob M i).refs.getD n 0∈k.cop):
  Calls Tryz.prog 195 #[.pointer (some ⟨p,0,none⟩),.int .i64 (at':Nat),.int .i64 (n:Nat),.int .u64 (newRef M k.cop ((ob M i).refs.getD n 0):Nat)] w fun e w'=>e=.returned (.int .i64 0)∧
   ∃ H',HRaw w' ph tag H'∧MidC M k (updF pg i (n+1)) H'∧H' = { H with A:=H'.A,S:=H'.S,re:=H'.re,bk:=H'.bk }∧CAt w' pc ph tag next v ps∧Fr tag tag w w':=by
 have hlt:=newRef_lt (w:=w) (ph:=ph) (tag:=tag) ok m _ hr hd
 have hpg0:∀ x,x ∉ k.cop→x ∉ k.lin→updF pg i (n+1) x=0:=fun x h1 h2=>by
  unfold updF
  rw[if_neg (by rintro rfl;rcases hin with q|q;exact h1 q;exact h2 q)]
  exact m.pg0 x h1 h2
 have hpgd:∀ x,∀ r∈(ob M x).refs.take (updF pg i (n+1) x),r=0∨(ob M r).big=true∨r∈k.cop:=fun x r hx=>by
  unfold updF at hx
  by_cases e:x=i
  ·subst e
   rw[if_pos rfl,List.take_add_one,List.getElem?_eq_getElem hn] at hx
   rcases List.mem_append.1 hx with q|q
   ·exact m.pgd x r (by rw[hp];exact q)
   ·have e2:r=(ob M x).refs.getD n 0:=by
     rw[List.getD_eq_getElem?_getD,List.getElem?_eq_getElem hn]
     simpa using q
    rw[e2];exact hd
  ·rw[if_neg e] at hx;exact m.pgd x r hx
 rcases T with ⟨rfl,hi,rfl,rfl,rfl⟩|⟨rfl,s,hs,h0,hb,rfl,rfl⟩
 ·have hS:=h.hS
  rw[m.S] at hS
  obtain ⟨j1,j2,j3,j4⟩:=midS_at M k.cop pg i hi
  have hc:=r_set hS _ n _ hlt j1 j2 (by unfold fldsOf;rw[j3];show n<(ob M i).refs.length+(ob M i).raws.length;omega)
  refine hc.mono ?_
  rintro e w' ⟨rfl,g1,g2⟩
  have hbb:∀ g,tag g≠0→tag g ∉ [3]→w'.heap[g]?=w.heap[g]?:=fun g q1 q2=>g2.block g (h.un g q1) (fun hm=>q2 (by
   simp only[List.mem_cons,List.not_mem_nil,or_false] at hm ⊢
   rcases hm with rfl|rfl|rfl
   exact h.tS.1;exact h.tS.2.1;exact h.tS.2.2))
  have g1':ArR w' H.s (midS M k.cop (updF pg i (n+1))):=g1.like rfl (midS_put M k.cop pg i n m.nd.1 hi hp hn) rfl rfl
  have h':=h.turn [3] (by simp) (by simp) g2.size hbb H.A (midS M k.cop (updF pg i (n+1))) H.cH H.bk H.re (.inl ⟨by simp,rfl⟩) (.inr g1') (.inl ⟨by simp,rfl⟩) (fun s bp hs=>.inl ⟨by simp;omega,rfl,rfl⟩)
  refine ⟨rfl,_,h',⟨m.A,rfl,m.cB,fun s hs=>?_,m.re,m.nd,m.cs,m.ls,hpg0,hpgd⟩,rfl,c.keep [3] (by simp) (by simp) hbb,Fr.of_but g2 (fun g hm _=>?_)⟩
  ·show H.bk s=midK M k.cop (updF pg i (n+1)) (M.slots.getD s 0)
   rw[m.bk s hs]
   unfold midK updF
   rw[if_neg]
   intro e
   have q1:=(ok.s1 i (m.cs i hi)).2.1
   have q2:=(ok.b1 s hs).1
   rw[e,q1] at q2
   cases q2
  ·simp only[List.mem_cons,List.not_mem_nil,or_false] at hm
   have:=h.tS
   rcases hm with rfl|rfl|rfl <;> omega
 ·have hs0:M.slots.getD s 0≠0:=by rw[hs];exact h0
  have hbk:=h.bB s q hb
  have hK:=hbk.ar
  rw[m.bk s hs0,hs] at hK
  have hc:=r_set hK 0 n _ hlt (by show 0<1;omega) rfl (by show n<(ob M i).refs.length+(ob M i).raws.length;omega)
  refine hc.mono ?_
  rintro e w' ⟨rfl,g1,g2⟩
  have ht:=h.tK s q hb
  have hN:=h.tN s q hb
  have hbb:∀ g,tag g≠0→tag g ∉ [8+s]→w'.heap[g]?=w.heap[g]?:=fun g q1 q2=>g2.block g (h.un g q1) (fun hm=>q2 (by
   simp only[List.mem_cons,List.not_mem_nil,or_false] at hm ⊢
   rcases hm with rfl|rfl|rfl
   exact ht.2.1;exact ht.2.2.1;exact ht.2.2.2))
  have hX:(midK M k.cop (updF pg i (n+1)) i).X=((midK M k.cop pg i).put 0 n (newRef M k.cop ((ob M i).refs.getD n 0))).X:=by
   show [mix M k.cop (updF pg i (n+1) i) i]=[(mix M k.cop (pg i) i).set n _]
   rw[hp,mix_step M k.cop n i hn]
   unfold updF
   rw[if_pos rfl]
  have g1':ArR w' (H.at' s) (midK M k.cop (updF pg i (n+1)) i):=g1.like rfl hX rfl rfl
  have hq:w'.heap[q]?=w.heap[q]?:=g2.block q (h.un q (by rw[ht.1];omega)) (fun hm=>by
   simp only[List.mem_cons,List.not_mem_nil,or_false] at hm
   rcases hm with e|e|e
   exact hN.1 e;exact hN.2.1 e;exact hN.2.2 e)
  have h':=h.turn [8+s] (by simp;omega) (by simp;omega) g2.size hbb H.A H.S H.cH (updF H.bk s (midK M k.cop (updF pg i (n+1)) i)) H.re (.inl ⟨by simp;omega,rfl⟩) (.inl ⟨by simp;omega,rfl⟩) (.inl ⟨by simp;omega,rfl⟩) (fun s' bp' hs'=>by
   by_cases e:s'=s
   ·subst e
    rw[hb] at hs'
    cases hs'
    refine .inr ⟨(cell_like hq _).trans hbk.c0,(cell_like hq _).trans hbk.c1,(froz_like hq _).trans hbk.f1,?_⟩
    have e2:updF H.bk s' (midK M k.cop (updF pg i (n+1)) i) s'=midK M k.cop (updF pg i (n+1)) i:=by unfold updF;rw[if_pos rfl]
    rw[e2]
    exact g1'
   ·refine .inl ⟨by simp;omega,?_,rfl⟩
    unfold updF;rw[if_neg e])
  refine ⟨rfl,_,h',⟨m.A,?_,m.cB,fun s' hs'=>?_,m.re,m.nd,m.cs,m.ls,hpg0,hpgd⟩,rfl,c.keep [8+s] (by simp;omega) (by simp;omega) hbb,Fr.of_but g2 (fun g hm _=>?_)⟩
  ·show H.S=midS M k.cop (updF pg i (n+1))
   rw[m.S]
   have hX2:k.cop.map (fun x=>mix M k.cop (pg x) x)=k.cop.map (fun x=>mix M k.cop (updF pg i (n+1) x) x):=List.map_congr_left (fun x hx=>by
    unfold updF
    rw[if_neg]
    rintro rfl
    have q1:=(ok.s1 x (m.cs x hx)).2.1
    have q2:=(ok.b1 s hs0).1
    rw[hs,q1] at q2
    cases q2)
   unfold midS
   rw[hX2]
  ·show updF H.bk s (midK M k.cop (updF pg i (n+1)) i) s'=midK M k.cop (updF pg i (n+1)) (M.slots.getD s' 0)
   by_cases e:s'=s
   ·subst e
    have e2:updF H.bk s' (midK M k.cop (updF pg i (n+1)) i) s'=midK M k.cop (updF pg i (n+1)) i:=by unfold updF;rw[if_pos rfl]
    rw[e2,hs]
   ·have e2:updF H.bk s (midK M k.cop (updF pg i (n+1)) i) s'=H.bk s':=by unfold updF;rw[if_neg e]
    rw[e2,m.bk s' hs']
    have e3:updF pg i (n+1) (M.slots.getD s' 0)=pg (M.slots.getD s' 0):=by
     unfold updF
     rw[if_neg]
     intro x
     have q1:=(ok.b1 s' hs').2
     have q2:=(ok.b1 s hs0).2
     rw[x] at q1
     rw[hs,q1] at q2
     exact e q2
    unfold midK
    rw[e3]
  ·simp only[List.mem_cons,List.not_mem_nil,or_false] at hm
   rcases hm with rfl|rfl|rfl <;> omega
theorem lin_le {M:Hp}{k:Wk}{pg:Nat→Nat}{H:HC} (ok:HpOk M) (m:MidC M k pg H):k.lin.length≤1000000:=by
 have:=sum_sub (fun _=>1) k.lin M.slots m.nd.2 (fun x hx=>(m.ls x hx).2)
 have e:∀ l:List Nat,(l.map (fun _=>1)).sum=l.length:=fun l=>by induction l with|nil=>rfl|cons a l ih=>simp [ih];omega
 rw[e,e] at this
 exact Nat.le_trans this ok.sl
theorem reachW_done (M:Hp) (k:Wk) (i:Nat) (h:i∈k.lin→(ob M i).big=true):i=0∨(ob M i).big=true∨i∈(reachW M k i).cop:=by
 unfold reachW
 by_cases h0:i=0∨i∈k.cop∨i∈k.lin
 ·rw[if_pos h0]
  rcases h0 with q|q|q
  ·exact .inl q
  ·exact .inr (.inr q)
  ·exact .inr (.inl (h q))
 ·rw[if_neg h0]
  by_cases hb:(ob M i).big=true
  ·exact .inr (.inl hb)
  ·rw[if_neg hb];exact .inr (.inr (by simp))
theorem foldW_mono (M:Hp):∀ (l:List Nat) (k:Wk),(∃ t,(l.foldl (reachW M) k).cop=k.cop++t)∧∃ t,(l.foldl (reachW M) k).lin=k.lin++t
 | [],k=>⟨⟨[],by simp⟩,⟨[],by simp⟩⟩
 | a :: l,k=>by
  obtain ⟨⟨t1,h1⟩,⟨t2,h2⟩⟩:=reachW_mono M k a
  obtain ⟨⟨t3,h3⟩,⟨t4,h4⟩⟩:=foldW_mono M l (reachW M k a)
  exact ⟨⟨t1++t3,by rw[List.foldl_cons,h3,h1,List.append_assoc]⟩,⟨t2++t4,by rw[List.foldl_cons,h4,h2,List.append_assoc]⟩⟩
theorem lin_big {M:Hp}{k:Wk}{pg:Nat→Nat}{H:HC} (ok:HpOk M) (m:MidC M k pg H) (i:Nat) (h:i∈k.lin):(ob M i).big=true:=by
 obtain ⟨h0,h1⟩:=m.ls i h
 obtain ⟨s,hs,es⟩:=mem_slot h1
 have:=(ok.b1 s (by rw[es];exact h0)).1
 rw[es] at this
 exact this
def LkAt (w0:World) (tag0:Nat→Nat) (ph pc next b:Nat) (M:Hp) (k:Wk) (pg:Nat→Nat) (H:HC) (i n n':Nat) (w:World):Prop:=
 ∃ tag H' v,HRaw w ph tag H'∧MidC M (((ob M i).refs.take n').foldl (reachW M) k) (updF pg i n) H'∧H' = { H with A:=H'.A,S:=H'.S,re:=H'.re,bk:=H'.bk }∧
  CAt w pc ph tag next v (((((ob M i).refs.take n').foldl (reachW M) k).lin.drop b).map (bpL M H'))∧Fr tag0 tag w0 w
theorem eq_tr {H H' H'':HC} (e:H' = { H with A:=H'.A,S:=H'.S,re:=H'.re,bk:=H'.bk }) (e2:H'' = { H' with A:=H''.A,S:=H''.S,re:=H''.re,bk:=H''.bk }):H'' = { H with A:=H''.A,S:=H''.S,re:=H''.re,bk:=H''.bk }:=by
 rw[e] at e2
 exact e2
theorem mid_look {w:World}{ph pc:Nat}{tag:Nat→Nat}{H:HC}{next b:Nat}{v:Value}{M:Hp}{k:Wk}{pg:Nat→Nat} (ok:HpOk M) (m:MidC M k pg H) (h:HRaw w ph tag H) (hb:b≤k.lin.length) (c:CAt w pc ph tag next v ((k.lin.drop b).map (bpL M H)))
  (i t q p at':Nat) (T:Tg M k.cop H i t q p at') (hp:pg i=0) (hIs:Is M i) (hin:i∈k.cop∨i∈k.lin):
  Calls Tryz.prog 149 #[.pointer (some ⟨pc,0,none⟩),.iface t (.pointer (some ⟨q,0,none⟩)),.int .i64 (at':Nat)] w fun e w'=>e=.returned (.int .i64 (osz (ob M i):Nat))∧
   ∃ tag' H' v',HRaw w' ph tag' H'∧MidC M (lookW M k i) (updF pg i (ob M i).refs.length) H'∧H' = { H with A:=H'.A,S:=H'.S,re:=H'.re,bk:=H'.bk }∧CAt w' pc ph tag' next v' (((lookW M k i).lin.drop b).map (bpL M H'))∧Fr tag tag' w w':=by
 obtain ⟨hr1,hr2⟩:=Tg.bound h m T
 have hT:∀ n' (H':HC),H' = { H with A:=H'.A,S:=H'.S,re:=H'.re,bk:=H'.bk }→Tg M (((ob M i).refs.take n').foldl (reachW M) k).cop H' i t q p at':=fun n' H' e=>by
  obtain ⟨⟨x,hx⟩,_⟩:=foldW_mono M ((ob M i).refs.take n') k
  rw[hx]
  exact T.more x e
 have hupd:updF pg i 0=pg:=by
  funext x
  unfold updF
  split
  ·rename_i e;rw[e,hp]
  ·rfl
 have hfold:∀ n,n<(ob M i).refs.length→((ob M i).refs.take (n+1)).foldl (reachW M) k=reachW M (((ob M i).refs.take n).foldl (reachW M) k) ((ob M i).refs.getD n 0):=fun n hn=>by
  rw[List.take_add_one,List.getElem?_eq_getElem hn,List.foldl_append,List.getD_eq_getElem?_getD,List.getElem?_eq_getElem hn]
  rfl
 have hbl:∀ n,b≤(((ob M i).refs.take n).foldl (reachW M) k).lin.length:=fun n=>by
  obtain ⟨_,x,hx⟩:=foldW_mono M ((ob M i).refs.take n) k
  rw[hx,List.length_append]
  omega
 have hin2:∀ n,i∈(((ob M i).refs.take n).foldl (reachW M) k).cop∨i∈(((ob M i).refs.take n).foldl (reachW M) k).lin:=fun n=>by
  obtain ⟨⟨x,hx⟩,⟨y,hy⟩⟩:=foldW_mono M ((ob M i).refs.take n) k
  rw[hx,hy]
  rcases hin with z|z
  ·exact .inl (List.mem_append.2 (.inl z))
  ·exact .inr (List.mem_append.2 (.inl z))
 have hrf:∀ n,n<(ob M i).refs.length→(ob M i).refs.getD n 0=0∨Is M ((ob M i).refs.getD n 0):=fun n hn=>by
  refine ok.rf i hIs _ ?_
  rw[List.getD_eq_getElem?_getD,List.getElem?_eq_getElem hn]
  exact List.getElem_mem hn
 have key:=look_any (w:=w) (pc:=pc) (t:=t) (q:=q) (p:=p) (at':=at') (kd:=(ob M i).kind) (r:=(ob M i).refs.length) (s:=(ob M i).raws.length)
  (fun n W=>LkAt w tag ph pc next b M k pg H i n n W) (fun n W=>LkAt w tag ph pc next b M k pg H i n (n+1) W)
  (fun n=>refW M ((ob M i).refs.getD n 0)) (fun n=>newRef M (((ob M i).refs.take (n+1)).foldl (reachW M) k).cop ((ob M i).refs.getD n 0)) hr1 hr2
  (fun n W W' hI hB=>by
   obtain ⟨tag',H',v',a1,a2,a3,a4,a5⟩:=hI
   exact ⟨tag',H',v',a1.below hB,a2,a3,a4.conf (fun g e=>hB.block g (a1.un g (by omega))) (fun g e=>hB.block g (a1.un g (by omega))),a5.trans (Fr.of_below hB)⟩)
  ⟨tag,H,v,h,by rw[hupd];exact m,rfl,c,Fr.refl _⟩
  (Tg.meth h T).1 (Tg.obj h m T)
  (fun n W hn hI=>by
   obtain ⟨tag',H',v',a1,a2,a3,a4,a5⟩:=hI
   exact (Tg.meth a1 (hT n H' a3)).2.1)
  (fun n W hn hI=>by
   obtain ⟨tag',H',v',a1,a2,a3,a4,a5⟩:=hI
   exact Tg.get a1 a2 (hT n H' a3) (by unfold updF;rw[if_pos rfl]) hn)
  (fun n W hn hI=>by
   obtain ⟨tag',H',v',a1,a2,a3,a4,a5⟩:=hI
   refine (mid_move ok a2 a1 (hbl n) a4 (lin_le ok a2) _ (hrf n hn)).mono ?_
   rintro e w' ⟨rfl,tag2,H2,v2,b1,b2,b3,b4,b5⟩
   rw[← hfold n hn] at b2 b4 ⊢
   exact ⟨rfl,tag2,H2,v2,b1,b2,eq_tr a3 b3,b4,a5.trans b5⟩)
  (fun n W hn hI=>by
   obtain ⟨tag',H',v',a1,a2,a3,a4,a5⟩:=hI
   exact (Tg.meth a1 (hT (n+1) H' a3)).2.2.1)
  (fun n W hn hI=>by
   obtain ⟨tag',H',v',a1,a2,a3,a4,a5⟩:=hI
   exact (Tg.meth a1 (hT n H' a3)).2.2.2)
  (fun n W hn hI=>by
   obtain ⟨tag',H',v',a1,a2,a3,a4,a5⟩:=hI
   exact (Tg.meth a1 (hT (n+1) H' a3)).2.2.2)
  (fun n W hn hI=>by
   obtain ⟨tag',H',v',a1,a2,a3,a4,a5⟩:=hI
   have hdn:=reachW_done M (((ob M i).refs.take n).foldl (reachW M) k) ((ob M i).refs.getD n 0) (fun x=>by
    have:(ob M i).refs.getD n 0∈(((ob M i).refs.take (n+1)).foldl (reachW M) k).lin:=by
     rw[hfold n hn]
     obtain ⟨_,y,hy⟩:=reachW_mono M (((ob M i).refs.take n).foldl (reachW M) k) ((ob M i).refs.getD n 0)
     rw[hy]
     exact List.mem_append.2 (.inl x)
    exact lin_big ok a2 _ this)
   rw[← hfold n hn] at hdn
   refine (Tg.set ok a1 a2 a4 (hT (n+1) H' a3) (by unfold updF;rw[if_pos rfl]) hn (hin2 (n+1)) (hrf n hn) hdn).mono ?_
   rintro e w' ⟨rfl,H2,b1,b2,b3,b4,b5⟩
   have hu:updF (updF pg i n) i (n+1)=updF pg i (n+1):=by
    funext x
    unfold updF
    split <;> rfl
   rw[hu] at b2
   have hbp:bpL M H2=bpL M H':=by
    have:H2.cB=H'.cB:=by rw[b3]
    funext x
    unfold bpL
    rw[this]
   exact ⟨rfl,tag',H2,v',b1,b2,eq_tr a3 b3,by rw[hbp];exact b4,a5.trans b5⟩)
 refine key.mono ?_
 rintro e w' ⟨rfl,tag',H',v',a1,a2,a3,a4,a5⟩
 rw[List.take_length] at a2 a4
 exact ⟨rfl,tag',H',v',a1,a2,a3,a4,a5⟩
def lgOf (M:Hp) (sl:List Nat):Nat:=(sl.map fun i=>if i=0 then 0 else 1+osz (ob M i)).sum
structure HpWf (M:Hp):Prop where
 ok:HpOk M
 ln:∀ i,Is M i→i<M.objs.length
 lg:M.large=lgOf M M.slots
 kp:M.kept≤M.large
 lm:2*M.half+M.large≤M.limit
 h1:64≤M.half
 l2:M.limit≤1048576
 ss:∀ i∈M.small,osz (ob M i)≤64
 sb:∀ i,i≠0→i∈M.slots→64<osz (ob M i)
def obC (M:Hp) (k:Wk) (i:Nat):Ob:=if i∈k.cop then { ob M i with at':=addr M k.cop i } else if i∈k.lin then ob M i else ob0
def slC (M:Hp) (k:Wk):List Nat:=M.slots.map fun i=>if i∈k.lin then i else 0
def collM (M:Hp) (k:Wk):Hp:=
 { M with
      used:=place (shapes M k.cop) k.cop.length,large:=lgOf M (slC M k),kept:=lgOf M (slC M k),coll:=M.coll+1,moved:=place (shapes M k.cop) k.cop.length-1,
      objs:=(List.range M.objs.length).map (obC M k),small:=k.cop,slots:=slC M k }
structure Fin' (M:Hp) (k:Wk):Prop where
 nd:k.cop.Nodup∧k.lin.Nodup
 cs:∀ i∈k.cop,i∈M.small
 ls:∀ i∈k.lin,i≠0∧i∈M.slots
 cl:∀ i,i∈k.cop∨i∈k.lin→∀ r∈(ob M i).refs,r=0∨r∈k.cop∨r∈k.lin
 rt:∀ i,some i∈M.roots→i=0∨i∈k.cop∨i∈k.lin
theorem ob_coll (M:Hp) (k:Wk) (i:Nat) (h:i<M.objs.length):ob (collM M k) i=obC M k i:=by
 show ((List.range M.objs.length).map (obC M k)).getD i ob0=_
 rw[List.getD_eq_getElem?_getD,List.getElem?_map,List.getElem?_range h]
 rfl
theorem Fin'.is {M:Hp}{k:Wk} (f:Fin' M k) {i:Nat} (h:i∈k.cop∨i∈k.lin):Is M i:=by
 rcases h with h|h
 ·exact .inl (f.cs i h)
 ·exact .inr (f.ls i h)
theorem Fin'.cop {M:Hp}{k:Wk} (wf:HpWf M) (f:Fin' M k) {i:Nat} (h:i∈k.cop):ob (collM M k) i = { ob M i with at':=addr M k.cop i }:=by
 rw[ob_coll M k i (wf.ln i (f.is (.inl h)))]
 unfold obC
 rw[if_pos h]
theorem small_not_slot {M:Hp} (ok:HpOk M) {i:Nat} (h:i∈M.small) (h2:i∈M.slots):False:=by
 obtain ⟨s,hs,es⟩:=mem_slot h2
 have h0:=(ok.s1 i h).1
 have q:=(ok.b1 s (by rw[es];exact h0)).1
 rw[es,(ok.s1 i h).2.1] at q
 cases q
theorem Fin'.lin {M:Hp}{k:Wk} (wf:HpWf M) (f:Fin' M k) {i:Nat} (h:i∈k.lin):ob (collM M k) i=ob M i:=by
 rw[ob_coll M k i (wf.ln i (f.is (.inr h)))]
 unfold obC
 rw[if_neg (fun q=>small_not_slot wf.ok (f.cs i q) (f.ls i h).2),if_pos h]
theorem Fin'.parts {M:Hp}{k:Wk} (wf:HpWf M) (f:Fin' M k) {i:Nat} (h:i∈k.cop∨i∈k.lin):(ob (collM M k) i).kind=(ob M i).kind∧(ob (collM M k) i).refs=(ob M i).refs∧(ob (collM M k) i).raws=(ob M i).raws∧(ob (collM M k) i).big=(ob M i).big:=by
 rcases h with h|h
 ·rw[f.cop wf h];exact ⟨rfl,rfl,rfl,rfl⟩
 ·rw[f.lin wf h];exact ⟨rfl,rfl,rfl,rfl⟩
theorem Fin'.shpE {M:Hp}{k:Wk} (wf:HpWf M) (f:Fin' M k) {i:Nat} (h:i∈k.cop∨i∈k.lin):shp (ob (collM M k) i)=shp (ob M i):=by
 obtain ⟨h1,h2,h3,_⟩:=f.parts wf h
 unfold shp
 rw[h1,h2,h3]
theorem Fin'.oszE {M:Hp}{k:Wk} (wf:HpWf M) (f:Fin' M k) {i:Nat} (h:i∈k.cop∨i∈k.lin):osz (ob (collM M k) i)=osz (ob M i):=by
 rw[← wd_shp,← wd_shp,f.shpE wf h]
theorem Fin'.shapesE {M:Hp}{k:Wk} (wf:HpWf M) (f:Fin' M k):shapes (collM M k) k.cop=shapes M k.cop:=List.map_congr_left (fun i hi=>f.shpE wf (.inl hi))
theorem Fin'.addrE {M:Hp}{k:Wk} (wf:HpWf M) (f:Fin' M k) (i:Nat):addr (collM M k) k.cop i=addr M k.cop i:=by
 unfold addr
 rw[f.shapesE wf]
theorem Fin'.ref {M:Hp}{k:Wk} (wf:HpWf M) (f:Fin' M k) {i:Nat} (h:i=0∨i∈k.cop∨i∈k.lin):refW (collM M k) i=newRef M k.cop i:=by
 unfold refW newRef
 by_cases h0:i=0
 ·rw[if_pos h0,if_pos h0]
 ·rw[if_neg h0,if_neg h0]
  rcases h with h|h|h
  ·exact absurd h h0
  ·rw[f.cop wf h]
   have hb:=(wf.ok.s1 i (f.cs i h)).2.1
   show (if (ob M i).big=true then _ else _)=_
   rw[if_neg (by rw[hb];decide),if_neg (by rw[hb];decide)]
  ·rw[f.lin wf h]
   have hb:(ob M i).big=true:=by
    obtain ⟨q0,q1⟩:=f.ls i h
    obtain ⟨s,hs,es⟩:=mem_slot q1
    have:=(wf.ok.b1 s (by rw[es];exact q0)).1
    rw[es] at this
    exact this
   rw[if_pos hb,if_pos hb]
theorem Fin'.mixE {M:Hp}{k:Wk} (wf:HpWf M) (f:Fin' M k) {i:Nat} (h:i∈k.cop∨i∈k.lin):mix (collM M k) [] 0 i=mix M k.cop (ob M i).refs.length i:=by
 rw[mix_zero,mix_all]
 obtain ⟨h1,h2,h3,_⟩:=f.parts wf h
 rw[h2,h3,List.map_congr_left (fun r hr=>f.ref wf (f.cl i h r hr))]
theorem slC_at (M:Hp) (k:Wk) (s:Nat):(slC M k).getD s 0=if M.slots.getD s 0∈k.lin then M.slots.getD s 0 else 0:=by
 unfold slC
 rw[List.getD_eq_getElem?_getD,List.getElem?_map,List.getD_eq_getElem?_getD]
 cases h:M.slots[s]? with
 | none=>simp only[Option.map_none,Option.getD_none];split <;> rfl
 | some x=>rfl
theorem lgOf_le (M:Hp) (k:Wk):∀ l:List Nat,lgOf M (l.map fun i=>if i∈k.lin then i else 0)≤lgOf M l
 | []=>Nat.le_refl _
 | x :: l=>by
  have ih:=lgOf_le M k l
  unfold lgOf at *
  simp only[List.map_cons,List.sum_cons]
  by_cases h:x∈k.lin
  ·rw[if_pos h];omega
  ·rw[if_neg h]
   have:(if (0:Nat)=0 then 0 else 1+osz (ob M 0))=0:=if_pos rfl
   omega
theorem Fin'.wf {M:Hp}{k:Wk} (wf:HpWf M) (f:Fin' M k):HpWf (collM M k):=by
 have hsl:∀ s,(collM M k).slots.getD s 0≠0→M.slots.getD s 0≠0∧M.slots.getD s 0∈k.lin∧(collM M k).slots.getD s 0=M.slots.getD s 0:=by
  intro s hs
  have e:(collM M k).slots.getD s 0=_:=slC_at M k s
  rw[e] at hs ⊢
  split at hs
  ·rename_i h;rw[if_pos h];exact ⟨hs,h,rfl⟩
  ·exact absurd rfl hs
 have hmem:∀ i,i≠0→i∈(collM M k).slots→i∈k.lin:=by
  intro i h0 hi
  obtain ⟨s,_,es⟩:=mem_slot hi
  have:=hsl s (by rw[es];exact h0)
  rw[es] at this
  rw[this.2.2]
  exact this.2.1
 have hin:∀ i,i∈k.lin→i∈(collM M k).slots:=by
  intro i hi
  show i∈M.slots.map _
  exact List.mem_map.2 ⟨i,(f.ls i hi).2,if_pos hi⟩
 have hIs:∀ i,Is (collM M k) i→i∈k.cop∨i∈k.lin:=by
  intro i h
  rcases h with h|h
  ·exact .inl h
  ·exact .inr (hmem i h.1 h.2)
 have hIs2:∀ i,i∈k.cop∨i∈k.lin→Is (collM M k) i:=by
  intro i h
  rcases h with h|h
  ·exact .inl h
  ·exact .inr ⟨(f.ls i h).1,hin i h⟩
 have hlg:lgOf (collM M k) (slC M k)=lgOf M (slC M k):=by
  unfold lgOf
  congr 1
  refine List.map_congr_left (fun i hi=>?_)
  by_cases h0:i=0
  ·rw[if_pos h0,if_pos h0]
  ·rw[if_neg h0,if_neg h0,f.oszE wf (.inr (hmem i h0 hi))]
 have hle:lgOf M (slC M k)≤M.large:=by rw[wf.lg];exact lgOf_le M k M.slots
 refine ⟨⟨f.nd.1,fun i hi=>?_,fun s hs=>?_,fun i hi r hr=>?_,fun i hi=>?_,?_,?_,wf.ok.h2,?_⟩,fun i hi=>?_,hlg.symm,Nat.le_refl _,?_,wf.h1,wf.l2,fun i hi=>?_,fun i h0 hi=>?_⟩
 ·have hs:=wf.ok.s1 i (f.cs i hi)
  rw[f.cop wf hi]
  exact ⟨hs.1,hs.2.1,(f.addrE wf i).symm⟩
 ·obtain ⟨h1,h2,h3⟩:=hsl s hs
  rw[h3,f.lin wf h2]
  exact wf.ok.b1 s h1
 ·have hi':=hIs i hi
  rw[(f.parts wf hi').2.1] at hr
  rcases f.cl i hi' r hr with q|q
  ·exact .inl q
  ·exact .inr (hIs2 r q)
 ·rcases f.rt i hi with q|q
  ·exact .inl q
  ·exact .inr (hIs2 i q)
 ·show place (shapes M k.cop) k.cop.length=place (shapes (collM M k) k.cop) k.cop.length
  rw[f.shapesE wf]
 ·show place (shapes M k.cop) k.cop.length≤M.half
  have:=place_sub M k.cop M.small f.nd.1 f.cs
  rw[← wf.ok.us] at this
  exact Nat.le_trans this wf.ok.u2
 ·show (M.slots.map _).length≤1000000
  rw[List.length_map]
  exact wf.ok.sl
 ·show i<((List.range M.objs.length).map _).length
  rw[List.length_map,List.length_range]
  exact wf.ln i (f.is (hIs i hi))
 ·show 2*M.half+lgOf M (slC M k)≤M.limit
  have:=wf.lm
  omega
 ·rw[f.oszE wf (.inl hi)];exact wf.ss i (f.cs i hi)
 ·rw[f.oszE wf (.inr (hmem i h0 hi))];exact wf.sb i h0 (f.ls i (hmem i h0 hi)).2
theorem reachW_has (M:Hp) (k:Wk) (i:Nat):i=0∨i∈(reachW M k i).cop∨i∈(reachW M k i).lin:=by
 unfold reachW
 split
 ·rename_i h;exact h
 ·split
  ·exact .inr (.inr (by simp))
  ·exact .inr (.inl (by simp))
theorem foldW_has (M:Hp):∀ (l:List Nat) (k:Wk) (r:Nat),r∈l→r=0∨r∈(l.foldl (reachW M) k).cop∨r∈(l.foldl (reachW M) k).lin
 | x :: l,k,r,h=>by
  rcases List.mem_cons.1 h with rfl|h
  ·obtain ⟨⟨t1,h1⟩,⟨t2,h2⟩⟩:=foldW_mono M l (reachW M k r)
   rw[List.foldl_cons,h1,h2]
   rcases reachW_has M k r with q|q|q
   ·exact .inl q
   ·exact .inr (.inl (List.mem_append.2 (.inl q)))
   ·exact .inr (.inr (List.mem_append.2 (.inl q)))
  ·exact foldW_has M l (reachW M k x) r h
def Cl (M:Hp) (s:St):Prop:=s.a≤s.k.cop.length∧s.b≤s.k.lin.length∧∀ x,x∈s.k.cop.take s.a∨x∈s.k.lin.take s.b→∀ r∈(ob M x).refs,r=0∨r∈s.k.cop∨r∈s.k.lin
theorem Cl.step {M:Hp}{s t:St} (h:Cl M s) (e:stepW M s=some t):Cl M t∧(∃ u,t.k.cop=s.k.cop++u)∧∃ u,t.k.lin=s.k.lin++u:=by
 unfold stepW at e
 obtain ⟨h1,h2,h3⟩:=h
 have key:∀ x,(∃ t1,(lookW M s.k x).cop=s.k.cop++t1)∧(∃ t2,(lookW M s.k x).lin=s.k.lin++t2)∧∀ r∈(ob M x).refs,r=0∨r∈(lookW M s.k x).cop∨r∈(lookW M s.k x).lin:=fun x=>
  ⟨(foldW_mono M (ob M x).refs s.k).1,(foldW_mono M (ob M x).refs s.k).2,fun r hr=>foldW_has M (ob M x).refs s.k r hr⟩
 split at e
 ·rename_i ha
  cases e
  obtain ⟨⟨t1,q1⟩,⟨t2,q2⟩,q3⟩:=key (s.k.cop.getD s.a 0)
  refine ⟨⟨?_,?_,fun x hx r hr=>?_⟩,⟨t1,q1⟩,⟨t2,q2⟩⟩
  ·show s.a+1≤(lookW M s.k _).cop.length;rw[q1,List.length_append];omega
  ·show s.b≤(lookW M s.k _).lin.length;rw[q2,List.length_append];omega
  ·have hx':x∈(lookW M s.k (s.k.cop.getD s.a 0)).cop.take (s.a+1)∨x∈(lookW M s.k (s.k.cop.getD s.a 0)).lin.take s.b:=hx
   show r=0∨r∈(lookW M s.k _).cop∨r∈(lookW M s.k _).lin
   have old:x∈s.k.cop.take s.a∨x∈s.k.lin.take s.b→r=0∨r∈(lookW M s.k (s.k.cop.getD s.a 0)).cop∨r∈(lookW M s.k (s.k.cop.getD s.a 0)).lin:=fun hh=>by
    rw[q1,q2]
    rcases h3 x hh r hr with q|q|q
    ·exact .inl q
    ·exact .inr (.inl (List.mem_append.2 (.inl q)))
    ·exact .inr (.inr (List.mem_append.2 (.inl q)))
   rcases hx' with hx' | hx'
   ·rw[q1,List.take_append_of_le_length (by omega),List.take_add_one,List.getElem?_eq_getElem ha] at hx'
    rcases List.mem_append.1 hx' with q|q
    ·exact old (.inl q)
    ·have ex:x=s.k.cop.getD s.a 0:=by
      rw[List.getD_eq_getElem?_getD,List.getElem?_eq_getElem ha]
      simpa using q
     subst ex
     exact q3 r hr
   ·rw[q2,List.take_append_of_le_length h2] at hx'
    exact old (.inr hx')
 ·split at e
  ·rename_i hb
   cases e
   obtain ⟨⟨t1,q1⟩,⟨t2,q2⟩,q3⟩:=key (s.k.lin.getD s.b 0)
   refine ⟨⟨?_,?_,fun x hx r hr=>?_⟩,⟨t1,q1⟩,⟨t2,q2⟩⟩
   ·show s.a≤(lookW M s.k _).cop.length;rw[q1,List.length_append];omega
   ·show s.b+1≤(lookW M s.k _).lin.length;rw[q2,List.length_append];omega
   ·have hx':x∈(lookW M s.k (s.k.lin.getD s.b 0)).cop.take s.a∨x∈(lookW M s.k (s.k.lin.getD s.b 0)).lin.take (s.b+1):=hx
    show r=0∨r∈(lookW M s.k _).cop∨r∈(lookW M s.k _).lin
    have old:x∈s.k.cop.take s.a∨x∈s.k.lin.take s.b→r=0∨r∈(lookW M s.k (s.k.lin.getD s.b 0)).cop∨r∈(lookW M s.k (s.k.lin.getD s.b 0)).lin:=fun hh=>by
     rw[q1,q2]
     rcases h3 x hh r hr with q|q|q
     ·exact .inl q
     ·exact .inr (.inl (List.mem_append.2 (.inl q)))
     ·exact .inr (.inr (List.mem_append.2 (.inl q)))
    rcases hx' with hx' | hx'
    ·rw[q1,List.take_append_of_le_length h1] at hx'
     exact old (.inl hx')
    ·rw[q2,List.take_append_of_le_length (by omega),List.take_add_one,List.getElem?_eq_getElem hb] at hx'
     rcases List.mem_append.1 hx' with q|q
     ·exact old (.inr q)
     ·have ex:x=s.k.lin.getD s.b 0:=by
       rw[List.getD_eq_getElem?_getD,List.getElem?_eq_getElem hb]
       simpa using q
      subst ex
      exact q3 r hr
  ·cases e
theorem Cl.star {M:Hp}{s t:St} (h:Star M s t) (c:Cl M s):Cl M t∧(∃ u,t.k.cop=s.k.cop++u)∧∃ u,t.k.lin=s.k.lin++u:=by
 induction h with
 | refl=>exact ⟨c,⟨[],by simp⟩,⟨[],by simp⟩⟩
 | more h e ih=>
  obtain ⟨c1,⟨u1,e1⟩,⟨u2,e2⟩⟩:=ih
  obtain ⟨c2,⟨u3,e3⟩,⟨u4,e4⟩⟩:=c1.step e
  exact ⟨c2,⟨u1++u3,by rw[e3,e1,List.append_assoc]⟩,⟨u2++u4,by rw[e4,e2,List.append_assoc]⟩⟩
theorem Cl.ends {M:Hp}{s:St} (c:Cl M s) (e:stepW M s=none):s.a=s.k.cop.length∧s.b=s.k.lin.length∧∀ x,x∈s.k.cop∨x∈s.k.lin→∀ r∈(ob M x).refs,r=0∨r∈s.k.cop∨r∈s.k.lin:=by
 unfold stepW at e
 obtain ⟨h1,h2,h3⟩:=c
 split at e
 ·cases e
 ·split at e
  ·cases e
  ·have ha:s.a=s.k.cop.length:=by omega
   have hb:s.b=s.k.lin.length:=by omega
   rw[ha,hb,List.take_length,List.take_length] at h3
   exact ⟨ha,hb,h3⟩
theorem rootsW_succ (M:Hp) (q:Nat):rootsW M (q+1)=match M.roots.getD q none with|none=>rootsW M q|some i=>reachW M (rootsW M q) i:=by
 unfold rootsW
 rw[List.take_add_one,List.foldl_append,List.getD_eq_getElem?_getD]
 cases h:M.roots[q]? with
 | none=>rfl
 | some x=>
  cases x with
  | none=>rfl
  | some i=>rfl
theorem rootsW_has (M:Hp):∀ q x i,x<q→M.roots.getD x none=some i→i=0∨i∈(rootsW M q).cop∨i∈(rootsW M q).lin
 | q+1,x,i,hx,hi=>by
  rw[rootsW_succ]
  by_cases e:x=q
  ·subst e
   rw[hi]
   exact reachW_has M _ i
  ·have ih:=rootsW_has M q x i (by omega) hi
   cases h:M.roots.getD q none with
   | none=>exact ih
   | some j=>
    obtain ⟨⟨t1,h1⟩,⟨t2,h2⟩⟩:=reachW_mono M (rootsW M q) j
    show i=0∨i∈(reachW M (rootsW M q) j).cop∨i∈(reachW M (rootsW M q) j).lin
    rw[h1,h2]
    rcases ih with q|q|q
    ·exact .inl q
    ·exact .inr (.inl (List.mem_append.2 (.inl q)))
    ·exact .inr (.inr (List.mem_append.2 (.inl q)))
theorem rootsW_past (M:Hp) (n:Nat) (h:∀ x,n≤x→M.roots.getD x none=none):∀ d,rootsW M (n+d)=rootsW M n
 | 0=>rfl
 | d+1=>by
  have:n+(d+1)=(n+d)+1:=by omega
  rw[this,rootsW_succ,h (n+d) (by omega)]
  exact rootsW_past M n h d
set_option maxHeartbeats 2000000
theorem step_none {w:World}{pc ph s next U:Nat} (a:Option Addr) (cap:Nat) (hlt:next=U) (e0:w.cell? ⟨pc,0,none⟩=some (.pointer (some ⟨ph,0,none⟩))) (e1:w.cell? ⟨pc,1,none⟩=some (.int .i64 (next:Nat))) (e2:w.cell? ⟨ph,2,none⟩=some (.pointer (some ⟨s,0,none⟩))) (e3:w.cell? ⟨pc,2,none⟩=some (.slice a 0 cap))
  (HU:∀ W,Still w W→Calls Tryz.prog 64 #[.pointer (some ⟨s,0,none⟩)] W fun e w'=>e=.returned (.int .i64 (U:Nat))∧w'=W):
  Calls Tryz.prog 111 #[.pointer (some ⟨pc,0,none⟩)] w fun e w'=>e=.returned (.bool false)∧Still w w':=by
 have H1:=hide HU
 have hd:decide ((next:Int)<(U:Nat))=false:=decide_eq_false (by omega)
 clear HU
 go_enter Tryz.func111,Tryz.ntmps111
 go_wp2
 go_quiet (first|(go_at_call 64;exact Calls.quiet_of_same (unhide H1 _ ((Still.refl _).drew _))))
 clear H1
 go_wp2
 go_ret
 exact ⟨rfl,(Still.refl _).drew _⟩
theorem step_large {w:World}{pc ph s next U sz g o n cap bp:Nat}{G:World→Prop} (hlt:next=U) (hcap:n+1≤cap) (hc2:cap≤maxLen) (e0:w.cell? ⟨pc,0,none⟩=some (.pointer (some ⟨ph,0,none⟩))) (e1:w.cell? ⟨pc,1,none⟩=some (.int .i64 (next:Nat))) (e2:w.cell? ⟨ph,2,none⟩=some (.pointer (some ⟨s,0,none⟩))) (e3:w.cell? ⟨pc,2,none⟩=some (.slice (some ⟨g,o,none⟩) (n+1) cap)) (f3:w.frozen? ⟨pc,2,none⟩=false)
  (e4:w.cell? ⟨g,o,none⟩=some (.pointer (some ⟨bp,0,none⟩)))
  (HU:∀ W,Still w W→Calls Tryz.prog 64 #[.pointer (some ⟨s,0,none⟩)] W fun e w'=>e=.returned (.int .i64 (U:Nat))∧w'=W)
  (HL:∀ W o' c',Still w W→((o'=o+1∧c'=cap-1)∨(cap=1∧o'=o∧c'=0))→Calls Tryz.prog 149 #[.pointer (some ⟨pc,0,none⟩),.iface 187 (.pointer (some ⟨bp,0,none⟩)),.int .i64 1] (W.setCell ⟨pc,2,none⟩ (.slice (some ⟨g,o',none⟩) n c')) fun e w'=>e=.returned (.int .i64 (sz:Nat))∧G w'):
  Calls Tryz.prog 111 #[.pointer (some ⟨pc,0,none⟩)] w fun e w'=>e=.returned (.bool true)∧G w':=by
 have H1:=hide HU
 have H2:=hide HL
 have hd:decide ((next:Int)<(U:Nat))=false:=decide_eq_false (by omega)
 clear HU HL
 go_enter Tryz.func111,Tryz.ntmps111
 go_wp2
 go_quiet (first|(go_at_call 64;exact Calls.quiet_of_same (unhide H1 _ ((Still.refl _).drew _))))
 clear H1
 go_wp2_with fail
 all_goals first|refine (unhide H2 _ (o+1) (cap-1) ((Still.refl _).drew _) (.inl ⟨rfl,rfl⟩)).mono ?_|refine (unhide H2 _ o 0 ((Still.refl _).drew _) (.inr ⟨by omega,rfl,rfl⟩)).mono ?_
 all_goals (clear H2;rintro e w2 ⟨rfl,hg⟩)
 all_goals go_wp2
 all_goals go_ret
 all_goals exact ⟨rfl,hg⟩
theorem step_small {w:World}{pc ph s next U sz:Nat}{G G':World→Prop} (hlt:next<U) (hU:U≤1048576) (hz:sz≤4194304) (e0:w.cell? ⟨pc,0,none⟩=some (.pointer (some ⟨ph,0,none⟩))) (e1:w.cell? ⟨pc,1,none⟩=some (.int .i64 (next:Nat))) (e2:w.cell? ⟨ph,2,none⟩=some (.pointer (some ⟨s,0,none⟩)))
  (HU:∀ W,Still w W→Calls Tryz.prog 64 #[.pointer (some ⟨s,0,none⟩)] W fun e w'=>e=.returned (.int .i64 (U:Nat))∧w'=W)
  (HL:∀ W,Still w W→Calls Tryz.prog 149 #[.pointer (some ⟨pc,0,none⟩),.iface 85 (.pointer (some ⟨s,0,none⟩)),.int .i64 (next:Nat)] W fun e w'=>e=.returned (.int .i64 (sz:Nat))∧G w')
  (hG:∀ W,G W→W.cell? ⟨pc,1,none⟩=some (.int .i64 (next:Nat))∧W.frozen? ⟨pc,1,none⟩=false) (hG':∀ W,G W→G' (W.setCell ⟨pc,1,none⟩ (.int .i64 ((next:Int)+(sz:Nat))))):
  Calls Tryz.prog 111 #[.pointer (some ⟨pc,0,none⟩)] w fun e w'=>e=.returned (.bool true)∧G' w':=by
 have H1:=hide HU
 have H2:=hide HL
 have H3:=hide hG
 have H4:=hide hG'
 have hd:decide ((next:Int)<(U:Nat))=true:=decide_eq_true (by omega)
 have e3:IntKind.i64.wrap ((next:Int)+(sz:Nat))=((next+sz:Nat):Int):=by rw[show (next:Int)+(sz:Nat)=((next+sz:Nat):Int) by omega];exact wrap_nat _ (by omega)
 clear HU HL hG hG'
 go_enter Tryz.func111,Tryz.ntmps111
 go_wp2
 go_quiet (first|(go_at_call 64;exact Calls.quiet_of_same (unhide H1 _ ((Still.refl _).drew _))))
 clear H1
 go_wp2_with fail
 go_region_with (go_at_call 149;refine (unhide H2 _ ((Still.refl _).drew _)).mono ?_;rintro e w2 ⟨rfl,hg⟩;obtain ⟨k1,k2⟩:=unhide H3 _ hg)
 all_goals (have HF:=hide (unhide H4 _ hg);clear H2 H3 H4 hg)
 all_goals go_wp2
 all_goals go_ret
 all_goals exact ⟨rfl,unhide HF⟩
end Go.Proofs.YtnfbaapbpgbgpaaGreat
