import Derived.Test.YtnfbaapbpgbgpaaGreatAllocM
import Derived.Test.YtnfbaapbpgbgpaaGreatHObj
import Derived.Test.YtnfbaapbpgbgpaaGreatStatW
namespace Go.Proofs.YtnfbaapbpgbgpaaGreat
open Go.ChangeShapes Go.WideShapes Go.ChangeAt Go.RowKit
set_option linter.unusedVariables false
set_option maxRecDepth 100000
set_option maxHeartbeats 1000000
theorem poolPut_at (c:List (Option Nat)) (n x s:Nat) (hn:n≤c.length):(poolPut c n x).getD s none=if s=n then some x else c.getD s none:=by
 unfold poolPut
 by_cases h:n<c.length
 ·rw[if_pos h,getD_set_opt c n s (some x) h]
 ·rw[if_neg h]
  have e:n=c.length:=by omega
  subst e
  rw[List.getD_eq_getElem?_getD]
  by_cases hs:s<c.length
  ·rw[List.getElem?_append_left hs,if_neg (by omega),List.getD_eq_getElem?_getD]
  ·rw[List.getElem?_append_right (by omega)]
   by_cases e:s=c.length
   ·subst e;simp
   ·rw[if_neg e,List.getD_eq_getElem?_getD,List.getElem?_eq_none (by omega:c.length≤s),List.getElem?_eq_none (by simp;omega)]
def tagB (tag:Nat→Nat) (bp:Nat) (a:Nat × Nat × Nat) (v:Value) (n:Nat):Nat→Nat:=fun g=>if g=bp∨g=a.1∨g=a.2.1∨g=a.2.2 then 8+n else tagAt tag v 5 g
theorem HRaw.addB {w w':World}{ph:Nat}{tag:Nat→Nat}{H:HC} (h:HRaw w ph tag H) (n bp:Nat) (a:Nat × Nat × Nat) (R:RefSt) (hz:tag bp=0∧tag a.1=0∧tag a.2.1=0∧tag a.2.2=0) (hlt:bp<w.heap.size) (hk:BkAt w bp a R 0) (hne:bp≠a.1∧bp≠a.2.1∧bp≠a.2.2) (hn:n≤H.cB.length)
  {fr':List Nat}{vc' vf':Value} (p:PoolAt w' ph 3 208 encP (.pointer none) (poolPut H.cB n bp) fr' vc' vf') (hv:Own2 w H.vcB vc') (hf:∀ g,vf'.ownBlock=some g→H.vfB.ownBlock=some g) {w1:World} (c1:PChg ph 3 H.vcB H.vfB w w1) (c2:PChg ph 3 vc' vf' w1 w'):
  HRaw w' ph (tagB tag bp a vc' n) { H with cB:=poolPut H.cB n bp,frB:=fr',vcB:=vc',vfB:=vf',at':=updF H.at' n a,bk:=updF H.bk n R,re:=updF H.re n 0 }∧
   (w'.os=w.os∧w'.tape=w.tape∧w'.output=w.output∧w.heap.size≤w'.heap.size)∧(∀ g,g<w.heap.size→tag g=0→w'.heap[g]?=w.heap[g]?)∧∀ g,g<w.heap.size→g≠bp→g≠a.1→g≠a.2.1→g≠a.2.2→tagB tag bp a vc' n g=tag g:=by
 have hal:=hk.ar.lt
 have hta:=tagAt_same (by decide) h.tB.1 hv
 have hold:∀ g,g<w.heap.size→g≠bp→g≠a.1→g≠a.2.1→g≠a.2.2→tagB tag bp a vc' n g=tag g:=fun g hg q1 q2 q3 q4=>by
  unfold tagB
  rw[if_neg (by rintro (e|e|e|e);exact q1 e;exact q2 e;exact q3 e;exact q4 e)]
  exact hta g hg
 have hkk:∀ g m,m≠0→tag g=m→tagB tag bp a vc' n g=m:=fun g m hm e=>by
  refine (hold g (h.un g (by omega)) ?_ ?_ ?_ ?_).trans e
  ·rintro rfl;omega
  ·rintro rfl;omega
  ·rintro rfl;omega
  ·rintro rfl;omega
 have hs:w.heap.size≤w'.heap.size:=Nat.le_trans c1.but.size c2.but.size
 have hb:∀ g,g<w.heap.size→tag g≠1→tag g≠5→w'.heap[g]?=w.heap[g]?:=fun g hg h1 h5=>by
  rw[c2.but.block g (Nat.lt_of_lt_of_le hg c1.but.size) (fun hm=>by
   rcases List.mem_cons.1 hm with q|q
   ·exact h1 (by rw[q];exact h.t1)
   ·rcases List.mem_append.1 q with q|q
    ·rcases hv g (mem_gB.1 q) with z|z
     ·exact h5 (h.tB.1 g z)
     ·omega
    ·exact h5 (h.tB.2 g (hf g (mem_gB.1 q)))),c1.but.block g hg (fun hm=>by
   rcases List.mem_cons.1 hm with q|q
   ·exact h1 (by rw[q];exact h.t1)
   ·rcases List.mem_append.1 q with q|q
    ·exact h5 (h.tB.1 g (mem_gB.1 q))
    ·exact h5 (h.tB.2 g (mem_gB.1 q)))]
 have hg:∀ m g,m≠0→m≠1→m≠5→tag g=m→w'.heap[g]?=w.heap[g]?:=fun m g h0 h1 h5 e=>hb g (h.un g (by omega)) (by omega) (by omega)
 have hcc:∀ q,q≠3→q≠4→q≠5→w'.cell? ⟨ph,q,none⟩=w.cell? ⟨ph,q,none⟩:=fun q h1 h2 h3=>(c2.cell q h1 h2 h3).trans (c1.cell q h1 h2 h3)
 have hff:∀ q,w'.frozen? ⟨ph,q,none⟩=w.frozen? ⟨ph,q,none⟩:=fun q=>(c2.froz q).trans (c1.froz q)
 have hget:∀ s b2,(poolPut H.cB n bp).getD s none=some b2→(s=n∧b2=bp)∨(s≠n∧H.cB.getD s none=some b2):=fun s b2 e=>by
  rw[poolPut_at _ _ _ _ hn] at e
  by_cases q:s=n
  ·rw[if_pos q] at e;cases e;exact .inl ⟨q,rfl⟩
  ·rw[if_neg q] at e;exact .inr ⟨q,e⟩
 have u1:∀ {α:Type} (f:Nat→α) (x:α),updF f n x n=x:=fun f x=>by unfold updF;rw[if_pos rfl]
 have u2:∀ {α:Type} (f:Nat→α) (x:α) (s:Nat),s≠n→updF f n x s=f s:=fun f x s q=>by unfold updF;rw[if_neg q]
 refine ⟨{
  n0:=(hcc 0 (by omega) (by omega) (by omega)).trans h.n0,n1:=(hcc 1 (by omega) (by omega) (by omega)).trans h.n1,n2:=(hcc 2 (by omega) (by omega) (by omega)).trans h.n2
  n9:=(hcc 9 (by omega) (by omega) (by omega)).trans h.n9,n10:=(hcc 10 (by omega) (by omega) (by omega)).trans h.n10,n11:=(hcc 11 (by omega) (by omega) (by omega)).trans h.n11,n12:=(hcc 12 (by omega) (by omega) (by omega)).trans h.n12,n13:=(hcc 13 (by omega) (by omega) (by omega)).trans h.n13
  fz:=fun i hi=>(hff i).trans (h.fz i hi)
  pB:=p
  pH:=h.pH.conf (fun q q1 q2=>hcc q (by omega) (by omega) (by omega)) hff (fun g e=>hg 4 g (by omega) (by omega) (by omega) (h.tH.1 g e)) (fun g e=>hg 4 g (by omega) (by omega) (by omega) (h.tH.2 g e))
  hA:=h.hA.conf hs (hg 2 _ (by omega) (by omega) (by omega) h.tA.1) (hg 2 _ (by omega) (by omega) (by omega) h.tA.2.1) (hg 2 _ (by omega) (by omega) (by omega) h.tA.2.2)
  hS:=h.hS.conf hs (hg 3 _ (by omega) (by omega) (by omega) h.tS.1) (hg 3 _ (by omega) (by omega) (by omega) h.tS.2.1) (hg 3 _ (by omega) (by omega) (by omega) h.tS.2.2)
  bB:=fun s b2 e=>by
   rcases hget s b2 e with ⟨rfl,rfl⟩|⟨q,e2⟩
   ·show BkAt w' b2 (updF H.at' s a s) (updF H.bk s R s) (updF H.re s 0 s)
    rw[u1,u1,u1]
    exact hk.conf hs (hb _ hlt (by omega) (by omega)) (hb _ hal.1 (by omega) (by omega)) (hb _ hal.2.1 (by omega) (by omega)) (hb _ hal.2.2 (by omega) (by omega))
   ·show BkAt w' b2 (updF H.at' n a s) (updF H.bk n R s) (updF H.re n 0 s)
    rw[u2 _ _ _ q,u2 _ _ _ q,u2 _ _ _ q]
    have t:=h.tK s b2 e2
    exact (h.bB s b2 e2).conf hs (hg (8+s) _ (by omega) (by omega) (by omega) t.1) (hg (8+s) _ (by omega) (by omega) (by omega) t.2.1) (hg (8+s) _ (by omega) (by omega) (by omega) t.2.2.1) (hg (8+s) _ (by omega) (by omega) (by omega) t.2.2.2)
  t1:=hkk _ _ (by decide) h.t1
  tA:=⟨hkk _ _ (by decide) h.tA.1,hkk _ _ (by decide) h.tA.2.1,hkk _ _ (by decide) h.tA.2.2⟩
  tS:=⟨hkk _ _ (by decide) h.tS.1,hkk _ _ (by decide) h.tS.2.1,hkk _ _ (by decide) h.tS.2.2⟩
  tH:=⟨fun g e=>hkk _ _ (by decide) (h.tH.1 g e),fun g e=>hkk _ _ (by decide) (h.tH.2 g e)⟩
  tB:=by
   refine ⟨fun g e=>?_,fun g e=>hkk _ _ (by decide) (h.tB.2 g (hf g e))⟩
   unfold tagB
   rw[if_neg,show tagAt tag vc' 5 g=5 by unfold tagAt;rw[if_pos e]]
   have e':vc'.ownBlock=some g:=e
   rcases hv g e' with z|z
   ·have:=h.tB.1 g z
    rintro (q|q|q|q)
    ·rw[q] at this;omega
    ·rw[q] at this;omega
    ·rw[q] at this;omega
    ·rw[q] at this;omega
   ·rintro (q|q|q|q) <;> omega
  tK:=fun s b2 e=>by
   rcases hget s b2 e with ⟨rfl,rfl⟩|⟨q,e2⟩
   ·show _∧tagB tag b2 a vc' s (updF H.at' s a s).1=_∧tagB tag b2 a vc' s (updF H.at' s a s).2.1=_∧tagB tag b2 a vc' s (updF H.at' s a s).2.2=_
    rw[u1]
    unfold tagB
    exact ⟨if_pos (.inl rfl),if_pos (.inr (.inl rfl)),if_pos (.inr (.inr (.inl rfl))),if_pos (.inr (.inr (.inr rfl)))⟩
   ·show _∧tagB tag bp a vc' n (updF H.at' n a s).1=_∧tagB tag bp a vc' n (updF H.at' n a s).2.1=_∧tagB tag bp a vc' n (updF H.at' n a s).2.2=_
    rw[u2 _ _ _ q]
    have t:=h.tK s b2 e2
    exact ⟨hkk _ _ (by omega) t.1,hkk _ _ (by omega) t.2.1,hkk _ _ (by omega) t.2.2.1,hkk _ _ (by omega) t.2.2.2⟩
  tN:=fun s b2 e=>by
   rcases hget s b2 e with ⟨rfl,rfl⟩|⟨q,e2⟩
   ·show b2≠(updF H.at' s a s).1∧b2≠(updF H.at' s a s).2.1∧b2≠(updF H.at' s a s).2.2
    rw[u1];exact hne
   ·show b2≠(updF H.at' n a s).1∧b2≠(updF H.at' n a s).2.1∧b2≠(updF H.at' n a s).2.2
    rw[u2 _ _ _ q];exact h.tN s b2 e2
  un:=fun g e=>by
   unfold tagB at e
   split at e
   ·rename_i q
    rcases q with rfl|rfl|rfl|rfl <;> omega
   ·unfold tagAt at e
    split at e
    ·rename_i q;exact p.row.lt g q
    ·exact Nat.lt_of_lt_of_le (h.un g e) hs },⟨c2.but.os.trans c1.but.os,c2.but.tape.trans c1.but.tape,c2.but.output.trans c1.but.output,hs⟩,fun g hg e=>hb g hg (by omega) (by omega),hold⟩
def addL (M:Hp) (k r s n:Nat):Hp:=
 { M with large:=M.large+(2+r+s),objs:=M.objs ++ [newOb k r s true n],slots:=if n<M.slots.length then M.slots.set n M.objs.length else M.slots ++ [M.objs.length] }
theorem addL_slot (M:Hp) (k r s n q:Nat) (hn:n≤M.slots.length):(addL M k r s n).slots.getD q 0=if q=n then M.objs.length else M.slots.getD q 0:=by
 show (if n<M.slots.length then M.slots.set n M.objs.length else M.slots ++ [M.objs.length]).getD q 0=_
 by_cases h:n<M.slots.length
 ·rw[if_pos h,getD_set _ _ _ _ h]
 ·rw[if_neg h]
  have e:n=M.slots.length:=by omega
  rw[getD_snoc,e]
  by_cases hq:q<M.slots.length
  ·rw[if_pos hq,if_neg (by omega)]
  ·rw[if_neg hq]
   by_cases e2:q=M.slots.length
   ·rw[if_pos e2,if_pos e2]
   ·rw[if_neg e2,if_neg e2,List.getD_eq_getElem?_getD,List.getElem?_eq_none (by omega)];rfl
theorem addL_mem (M:Hp) (k r s n:Nat) (hn:n≤M.slots.length) (h0:M.slots.getD n 0=0) (i:Nat) (hi:i≠0):i∈(addL M k r s n).slots↔i=M.objs.length∨i∈M.slots:=by
 have e:=addL_slot M k r s n
 constructor
 ·intro h
  obtain ⟨q,hq,eq⟩:=mem_slot h
  rw[e q hn] at eq
  by_cases z:q=n
  ·rw[if_pos z] at eq;exact .inl eq.symm
  ·rw[if_neg z] at eq
   have:M.slots.getD q 0≠0:=by rw[eq];exact hi
   have:=(slot_mem this).2
   rw[eq] at this
   exact .inr this
 ·rintro (h|h)
  ·have:(addL M k r s n).slots.getD n 0=i:=by rw[e n hn,if_pos rfl];exact h.symm
   have h1:=(slot_mem (M:=addL M k r s n) (s:=n) (by rw[this];exact hi)).2
   rw[this] at h1
   exact h1
  ·obtain ⟨q,hq,eq⟩:=mem_slot h
   have hqn:q≠n:=by rintro rfl;rw[h0] at eq;exact hi eq.symm
   have:(addL M k r s n).slots.getD q 0=i:=by rw[e q hn,if_neg hqn];exact eq
   have h1:=(slot_mem (M:=addL M k r s n) (s:=q) (by rw[this];exact hi)).2
   rw[this] at h1
   exact h1
theorem addL_len (M:Hp) (k r s n:Nat) (hn:n≤M.slots.length):M.slots.length≤(addL M k r s n).slots.length∧n<(addL M k r s n).slots.length∧(addL M k r s n).slots.length≤M.slots.length+1:=by
 show M.slots.length≤(if n<M.slots.length then M.slots.set n M.objs.length else M.slots ++ [M.objs.length]).length∧_<(if n<M.slots.length then M.slots.set n M.objs.length else M.slots ++ [M.objs.length]).length∧(if n<M.slots.length then M.slots.set n M.objs.length else M.slots ++ [M.objs.length]).length≤_
 split
 ·rw[List.length_set];omega
 ·rw[List.length_append,List.length_singleton];omega
theorem addL_wf {M:Hp} (wf:HpWf M) (h1:1≤M.objs.length) (k r s n:Nat) (hs:64<1+r+s) (hfit:2*M.half+M.large+(2+r+s)≤M.limit) (hn:n≤M.slots.length) (h0:M.slots.getD n 0=0) (hlen:M.slots.length<1000000):HpWf (addL M k r s n):=by
 have e:(addL M k r s n).objs=M.objs ++ [newOb k r s true n]:=rfl
 have hsl:∀ i,i≠0→i∈M.slots→i<M.objs.length:=fun i h0 h=>wf.ln i (.inr ⟨h0,h⟩)
 have hmem:=addL_mem M k r s n hn h0
 have hIs:∀ i,Is (addL M k r s n) i→i=M.objs.length∨Is M i:=by
  intro i h
  rcases h with h|h
  ·exact .inr (.inl h)
  ·rcases (hmem i h.1).1 h.2 with q|q
   ·exact .inl q
   ·exact .inr (.inr ⟨h.1,q⟩)
 have hIs2:∀ i,Is M i→Is (addL M k r s n) i:=by
  intro i h
  rcases h with h|h
  ·exact .inl h
  ·exact .inr ⟨h.1,(hmem i h.1).2 (.inr h.2)⟩
 have hsh:shapes (addL M k r s n) M.small=shapes M M.small:=shapes_old wf e
 have ho:∀ i∈M.small,ob (addL M k r s n) i=ob M i:=fun i hi=>ob_old e (wf.ln i (.inl hi))
 have hll:=addL_len M k r s n hn
 refine ⟨⟨wf.ok.sm,fun i hi=>?_,fun q hq=>?_,fun i hi rr hr=>?_,fun i hi=>?_,?_,wf.ok.u2,wf.ok.h2,by omega⟩,fun i hi=>?_,?_,?_,?_,wf.h1,wf.l2,fun i hi=>?_,fun i h00 hi=>?_⟩
 ·rw[ho i hi]
  show _∧_∧_=addr (addL M k r s n) M.small i
  unfold addr
  rw[hsh]
  exact wf.ok.s1 i hi
 ·have eq:=addL_slot M k r s n q hn
  rw[eq] at hq ⊢
  by_cases z:q=n
  ·rw[if_pos z,ob_new e];exact ⟨rfl,z.symm⟩
  ·rw[if_neg z] at hq ⊢
   rw[ob_old e (hsl _ hq (slot_mem hq).2)]
   exact wf.ok.b1 q hq
 ·rcases hIs i hi with rfl|q
  ·rw[ob_new e] at hr
   exact .inl (List.eq_of_mem_replicate hr)
  ·rw[ob_old e (wf.ln i q)] at hr
   exact (wf.ok.rf i q rr hr).imp id (hIs2 rr)
 ·exact (wf.ok.rt i hi).imp id (hIs2 i)
 ·show M.used=place (shapes (addL M k r s n) M.small) M.small.length
  rw[hsh];exact wf.ok.us
 ·show i<(M.objs ++ [_]).length
  rw[List.length_append,List.length_singleton]
  rcases hIs i hi with rfl|q
  ·omega
  ·have:=wf.ln i q;omega
 ·show M.large+(2+r+s)=lgOf (addL M k r s n) (addL M k r s n).slots
  have hterm:∀ q,(if (addL M k r s n).slots.getD q 0=0 then 0 else 1+osz (ob (addL M k r s n) ((addL M k r s n).slots.getD q 0)))=if q=n then 2+r+s else (if M.slots.getD q 0=0 then 0 else 1+osz (ob M (M.slots.getD q 0))):=fun q=>by
   rw[addL_slot M k r s n q hn]
   by_cases z:q=n
   ·rw[if_pos z,if_pos z,if_neg (by omega),ob_new e]
    unfold osz newOb
    rw[List.length_replicate,List.length_replicate]
    omega
   ·rw[if_neg z,if_neg z]
    by_cases z0:M.slots.getD q 0=0
    ·rw[if_pos z0,if_pos z0]
    ·rw[if_neg z0,if_neg z0,ob_old e (hsl _ z0 (slot_mem z0).2)]
  rw[lgOf_sum,sumB_congr _ _ _ (fun q _=>hterm q),wf.lg,lgOf_sum]
  have e3:=sumB_upd (fun q=>if q=n then 2+r+s else (if M.slots.getD q 0=0 then 0 else 1+osz (ob M (M.slots.getD q 0)))) (fun q=>if M.slots.getD q 0=0 then 0 else 1+osz (ob M (M.slots.getD q 0))) n (addL M k r s n).slots.length (fun q hq=>if_neg hq) hll.2.1
  simp only[if_true] at e3
  rw[if_pos h0] at e3
  obtain ⟨d,hd⟩:=Nat.exists_eq_add_of_le hll.1
  have e4:=sumB_past (fun q=>if M.slots.getD q 0=0 then 0 else 1+osz (ob M (M.slots.getD q 0))) M.slots.length (fun q hq=>if_pos (by rw[List.getD_eq_getElem?_getD,List.getElem?_eq_none hq];rfl)) d
  rw[← hd] at e4
  omega
 ·show M.kept≤M.large+(2+r+s)
  have:=wf.kp;omega
 ·show 2*M.half+(M.large+(2+r+s))≤M.limit
  omega
 ·rw[ho i hi];exact wf.ss i hi
 ·rcases (hmem i h00).1 hi with rfl|q
  ·rw[ob_new e]
   unfold osz newOb
   rw[List.length_replicate,List.length_replicate]
   exact hs
  ·rw[ob_old e (hsl i h00 q)];exact wf.sb i h00 q
theorem low_bound {M:Hp} (wf:HpWf M) (n:Nat) (h:∀ q,q<n→M.slots.getD q 0≠0):n≤15887:=by
 have hl:=wf.lm
 have hl2:=wf.l2
 have hlg:=wf.lg
 rw[lgOf_sum] at hlg
 have hn:n≤M.slots.length:=Classical.byContradiction (fun q=>h M.slots.length (by omega) (by rw[List.getD_eq_getElem?_getD,List.getElem?_eq_none (Nat.le_refl _)];rfl))
 have key:∀ m,m≤n→66*m≤sumB m (fun s=>if M.slots.getD s 0=0 then 0 else 1+osz (ob M (M.slots.getD s 0))):=by
  intro m
  induction m with
  | zero=>intro _;exact Nat.zero_le _
  | succ m ih=>
   intro hm
   have i1:=ih (by omega)
   have h0:=h m (by omega)
   have hb:=wf.sb _ h0 (slot_mem h0).2
   unfold sumB at *
   rw[List.range_succ,List.map_append,List.sum_append]
   simp only[List.map_cons,List.map_nil,List.sum_cons,List.sum_nil]
   rw[if_neg h0]
   omega
 have mono:∀ d,sumB n (fun s=>if M.slots.getD s 0=0 then 0 else 1+osz (ob M (M.slots.getD s 0)))≤sumB (n+d) (fun s=>if M.slots.getD s 0=0 then 0 else 1+osz (ob M (M.slots.getD s 0))):=by
  intro d
  induction d with
  | zero=>exact Nat.le_refl _
  | succ d ih=>
   have:n+(d+1)=(n+d)+1:=by omega
   rw[this]
   unfold sumB at *
   rw[List.range_succ,List.map_append,List.sum_append]
   omega
 obtain ⟨d,hd⟩:=Nat.exists_eq_add_of_le hn
 have k1:=key n (Nat.le_refl _)
 have k2:=mono d
 rw[← hd] at k2
 omega
def LowS (M:Hp) (n:Nat):Prop:=M.slots.getD n 0=0∧n≤M.slots.length∧∀ q,q<n→M.slots.getD q 0≠0
def PreL (M M1:Hp) (b:Nat):Prop:=(2*M.half+M.large+b≤M.limit∧M.large-M.kept+b≤M.half+M.kept∧M1=M)∨((M.limit<2*M.half+M.large+b∨M.half+M.kept<M.large-M.kept+b)∧∃ M0,IsColl M M0∧M1=fitM M0 0)
def WayL (M1 M2:Hp) (b:Nat):Prop:=(2*M1.half+M1.large+b≤M1.limit∧M2=M1)∨(M1.limit<2*M1.half+M1.large+b∧M1.large+b≤M1.limit∧64≤(M1.limit-M1.large-b) / 2∧M1.used≤(M1.limit-M1.large-b) / 2∧M2=becM M1 ((M1.limit-M1.large-b) / 2))
def NoWay (M1:Hp) (b:Nat):Prop:=M1.limit<2*M1.half+M1.large+b∧(M1.limit<M1.large+b∨(M1.limit-M1.large-b) / 2<64∨(M1.limit-M1.large-b) / 2<M1.used)
theorem becM_parts (M:Hp) (n:Nat):(becM M n).objs=M.objs∧(becM M n).roots=M.roots∧(becM M n).limit=M.limit∧(becM M n).used=M.used∧(becM M n).slots=M.slots∧(becM M n).large=M.large∧(becM M n).half=n∧(becM M n).small=M.small∧(becM M n).kept=M.kept:=by
 unfold becM
 split
 ·rename_i h;exact ⟨rfl,rfl,rfl,rfl,rfl,rfl,h.symm,rfl,rfl⟩
 ·exact ⟨rfl,rfl,rfl,rfl,rfl,rfl,rfl,rfl,rfl⟩
theorem hpass_any {w:World}{ph:Nat}{tag:Nat→Nat}{M:Hp}{H:HC} (h:HAt w ph tag M H) (b:Nat) (hb:b≤4194304):
  Calls Tryz.prog 116 #[.pointer (some ⟨ph,0,none⟩),.int .i64 (b:Nat)] w fun e w'=>e=.returned (.bool (decide (M.limit<2*M.half+M.large+b)))∧Still w w':=by
 have wf:=h.wf
 have hA:=h.raw.hA
 rw[h.A] at hA
 have e0:=h.raw.n0
 rw[h.nL] at e0
 have e9:=h.raw.n9
 rw[h.nG] at e9
 have b1:=wf.l2
 have b2:=wf.lm
 exact passes_any (by omega) b1 (by omega) hb e0 h.raw.n1 e9 (fun W k=>r_size (hA.conf (by rw[k.heap];exact Nat.le_refl _) (by rw[k.heap]) (by rw[k.heap]) (by rw[k.heap])))
theorem allocLarge_any {w:World}{ph:Nat}{tag:Nat→Nat}{M:Hp}{H:HC} (h:HAt w ph tag M H) (ho1:1≤M.objs.length) (hc:M.coll≤1000000000000) (hr:M.resz≤900000000000) (hsl:M.slots.length≤20000) (k r s:Nat) (hf:Fits k r s) (hs:64<1+r+s):
  Calls Tryz.prog 80 #[.pointer (some ⟨ph,0,none⟩),.int .i64 (k:Nat),.int .i64 (r:Nat),.int .i64 (s:Nat),.int .i64 ((2+r+s:Nat):Int)] w fun e w'=>∃ tag' H' M1,PreL M M1 (2+r+s)∧Fr tag tag' w w'∧
   ((∃ M2 n,WayL M1 M2 (2+r+s)∧LowS M2 n∧e=.returned (.tuple #[.int .u64 ((9223372036854775808+n:Nat):Int),.int .i64 0])∧HAt w' ph tag' (addL M2 k r s n) H')∨(NoWay M1 (2+r+s)∧e=.returned (.tuple #[.int .u64 0,.int .i64 31])∧HAt w' ph tag' M1 H')):=by
 obtain ⟨b,hbe⟩:∃ b,2+r+s=b:=⟨_,rfl⟩
 have f1:(r:Int)≤1048576:=hf.2.2.2.1
 have f2:(s:Int)≤1048576:=hf.2.2.2.2.2
 have hb:b≤4194304:=by omega
 have wf:=h.wf
 have hA:=h.raw.hA
 rw[h.A] at hA
 have e9:=h.raw.n9
 rw[h.nG] at e9
 have e10:=h.raw.n10
 rw[h.nK] at e10
 have b1:=wf.l2
 have b2:=wf.lm
 rw[hbe]
 have hpre:∀ M1,PreL M M1 b→1≤M1.objs.length∧M1.slots.length≤20000∧M1.resz≤900000000001:=by
  rintro M1 (⟨_,_,rfl⟩|⟨_,M0,q,rfl⟩)
  ·exact ⟨ho1,hsl,by omega⟩
  ·have q1:=fitM_objs M0 0
   have q2:=q.nums
   refine ⟨by rw[q1.1,q2.2.2.2.2.2];exact ho1,?_,?_⟩
   ·rw[q1.2.2.2.2]
    obtain ⟨t,_,_,_,rfl⟩:=q
    show (M.slots.map _).length≤_
    rw[List.length_map];exact hsl
   ·have e1:M0.resz=M.resz:=q2.2.2.2.1
    unfold fitM becM
    split
    ·split
     ·split
      ·omega
      ·show M0.resz+1≤_;omega
     ·omega
    ·split
     ·split
      ·omega
      ·show M0.resz+1≤_;omega
     ·omega
 refine (large_walk (G1:=fun W=>∃ tag' H' M1,PreL M M1 b∧HAt W ph tag' M1 H'∧Fr tag tag' w W)
  (G2:=fun W=>∃ tag' H' M1 M2,PreL M M1 b∧WayL M1 M2 b∧HAt W ph tag' M2 H'∧Fr tag tag' w W)
  (GN:=fun W=>∃ tag' H' M1,PreL M M1 b∧NoWay M1 b∧HAt W ph tag' M1 H'∧Fr tag tag' w W)
  (G3:=fun a W=>∃ tag' H' M1 M2,PreL M M1 b∧WayL M1 M2 b∧HAt W ph tag' M2 H'∧Fr tag tag' w W∧ArR W a (RefSt.new b)∧(tag' a.1=0∧tag' a.2.1=0∧tag' a.2.2=0)∧(w.heap.size≤a.1∧w.heap.size≤a.2.1∧w.heap.size≤a.2.2))
  (G4:=fun a W=>∃ tag' H' M1 M2,PreL M M1 b∧WayL M1 M2 b∧HAt W ph tag' M2 H'∧Fr tag tag' w W∧ArR W a ((RefSt.new b).lay k r s (List.replicate (r+s) 0) undef (.slice none 0 0))∧(tag' a.1=0∧tag' a.2.1=0∧tag' a.2.2=0)∧(w.heap.size≤a.1∧w.heap.size≤a.2.1∧w.heap.size≤a.2.2))
  (GY:=fun n W=>∃ tag' H' M1 M2,PreL M M1 b∧WayL M1 M2 b∧LowS M2 n∧HAt W ph tag' (addL M2 k r s n) H'∧Fr tag tag' w W)
  hb (decide (M.limit<2*M.half+M.large+b)) (decide (M.half+M.kept<M.large-M.kept+b)) (hpass_any h b hb) ?_ ?_ ?_ ?_ ?_ ?_ ?_).mono ?_
 ·intro hp W k'
  have cf:=hA.conf (w':=W) (by rw[k'.heap];exact Nat.le_refl _) (by rw[k'.heap]) (by rw[k'.heap]) (by rw[k'.heap])
  have hh:=h.still k'.below
  have e9':=hh.raw.n9
  rw[h.nG] at e9'
  have e10':=hh.raw.n10
  rw[h.nK] at e10'
  refine (due_any (b:=b) (half:=M.half) (by omega) wf.kp (by omega) hb hh.raw.n1 e9' e10' (fun W2 k2=>r_size (cf.conf (by rw[k2.heap];exact Nat.le_refl _) (by rw[k2.heap]) (by rw[k2.heap]) (by rw[k2.heap])))).mono ?_
  rintro e w' ⟨rfl,k3⟩
  exact ⟨rfl,k'.trans k3⟩
 ·intro hpd W k'
  refine (hcollect_any (h.still k'.below) hc (by omega)).mono ?_
  rintro e w' ⟨rfl,tag',H',M',q1,q2,q3⟩
  exact ⟨rfl,tag',H',_,.inr ⟨hpd.imp of_decide_eq_true of_decide_eq_true,M',q1,rfl⟩,q2,(Fr.of_below k'.below).trans q3⟩
 ·intro p0 d0 W k'
  have p1:=of_decide_eq_false p0
  have d1:=of_decide_eq_false d0
  exact ⟨tag,H,M,.inl ⟨by omega,by omega,rfl⟩,h.still k'.below,Fr.of_below k'.below⟩
 ·rintro W ⟨tag',H',M1,q1,q2,q3⟩
  have wf1:=q2.wf
  have c1:=wf1.l2
  have c2:=wf1.lm
  refine ⟨decide (M1.limit<2*M1.half+M1.large+b),hpass_any q2 b hb,fun hq W' k'=>?_,fun hq W' k'=>?_⟩
  ·have:=of_decide_eq_false hq
   exact ⟨tag',H',M1,M1,q1,.inl ⟨by omega,rfl⟩,q2.still k'.below,q3.trans (Fr.of_below k'.below)⟩
  ·have hpass:=of_decide_eq_true hq
   have qh:=q2.still k'.below
   have hA1:=qh.raw.hA
   rw[qh.A] at hA1
   have n0:=qh.raw.n0
   rw[qh.nL] at n0
   have n9:=qh.raw.n9
   rw[qh.nG] at n9
   have HU:∀ W2,Still W' W2→Calls Tryz.prog 64 #[.pointer (some ⟨H'.a.1,0,none⟩)] W2 fun e w'=>e=.returned (.int .i64 (M1.used:Nat))∧w'=W2:=fun W2 k2=>by
    have:=r_used (hA1.conf (w':=W2) (by rw[k2.heap];exact Nat.le_refl _) (by rw[k2.heap]) (by rw[k2.heap]) (by rw[k2.heap]))
    rw[midA_used M1 wf1.ok] at this
    exact this
   by_cases z1:M1.limit<M1.large+b
   ·refine ⟨false,(way_low (b:=b) (U:=M1.used) c1 (by omega) hb rfl n0 qh.raw.n1 n9 ?_).mono ?_⟩
    ·rw[show (M1.limit:Int)-(M1.large:Nat)-(b:Nat) = -(((M1.large+b-M1.limit:Nat)):Int) by omega,Int.neg_tdiv,Int.tdiv_eq_ediv_of_nonneg (by omega)]
     omega
    ·rintro e w' ⟨rfl,k2⟩
     exact ⟨rfl,fun x=>(by cases x),fun _=>⟨tag',H',M1,q1,⟨hpass,.inl z1⟩,qh.still k2.below,q3.trans ((Fr.of_below k'.below).trans (Fr.of_below k2.below))⟩⟩
   ·obtain ⟨V,hV⟩:∃ V:Nat,(M1.limit-M1.large-b) / 2=V:=⟨_,rfl⟩
    have hV2:((M1.limit:Int)-(M1.large:Nat)-(b:Nat)).tdiv 2=(V:Nat):=by
     rw[Int.tdiv_eq_ediv_of_nonneg (by omega)]
     omega
    by_cases z2:V<64
    ·refine ⟨false,(way_low (b:=b) (U:=M1.used) c1 (by omega) hb hV2 n0 qh.raw.n1 n9 (by omega)).mono ?_⟩
     rintro e w' ⟨rfl,k2⟩
     exact ⟨rfl,fun x=>(by cases x),fun _=>⟨tag',H',M1,q1,⟨hpass,.inr (.inl (by omega))⟩,qh.still k2.below,q3.trans ((Fr.of_below k'.below).trans (Fr.of_below k2.below))⟩⟩
    ·by_cases z3:V<M1.used
     ·refine ⟨false,(way_used (b:=b) (U:=M1.used) c1 (by omega) hb hV2 n0 qh.raw.n1 n9 HU (by omega) (by omega)).mono ?_⟩
      rintro e w' ⟨rfl,k2⟩
      exact ⟨rfl,fun x=>(by cases x),fun _=>⟨tag',H',M1,q1,⟨hpass,.inr (.inr (by omega))⟩,qh.still k2.below,q3.trans ((Fr.of_below k'.below).trans (Fr.of_below k2.below))⟩⟩
     ·refine ⟨true,(way_yes (b:=b) (U:=M1.used) c1 (by omega) hb hV2 n0 qh.raw.n1 n9 HU (by omega) (by omega) (fun w'=>∃ tag'' H'',HAt w' ph tag'' (becM M1 V) H''∧Fr tag' tag'' W' w') (fun W2 k2=>?_)).mono ?_⟩
      ·refine (become_any (qh.still k2.below) V (by omega) (by omega) (by omega) (by have:=(hpre M1 q1).2.2;omega)).mono ?_
       rintro e w' ⟨rfl,t2,H2,r1,r2⟩
       exact ⟨rfl,t2,H2,r1,(Fr.of_below k2.below).trans r2⟩
      ·rintro e w' ⟨rfl,t2,H2,r1,r2⟩
       exact ⟨rfl,fun _=>⟨t2,H2,M1,becM M1 V,q1,.inr ⟨hpass,by omega,by omega,by omega,by rw[hV]⟩,r1,q3.trans ((Fr.of_below k'.below).trans r2)⟩,fun x=>(by cases x)⟩
 ·rintro W ⟨tag',H',M1,M2,q1,q2,q3,q4⟩
  have c1:=q3.wf.l2
  have c2:=q3.wf.lm
  have hfit:b≤1048576:=by
   rcases q2 with ⟨z,rfl⟩|⟨z1,z2,z3,z4,rfl⟩
   ·omega
   ·have:=becM_parts M1 ((M1.limit-M1.large-b) / 2)
    rw[this.2.2.1] at c1
    omega
  refine (r_new b (by omega) hfit W).mono ?_
  rintro e w' ⟨a,rfl,s1,s2,s3⟩
  have hz:∀ x,W.heap.size≤x→tag' x=0:=fun x hx=>Classical.byContradiction (fun q=>by have:=q3.raw.un x q;omega)
  have:=q4.size
  exact ⟨a,rfl,tag',H',M1,M2,q1,q2,q3.still s3,q4.trans (Fr.of_below s3),s1,⟨hz _ s2.1,hz _ s2.2.1,hz _ s2.2.2⟩,⟨by omega,by omega,by omega⟩⟩
 ·rintro a W ⟨tag',H',M1,M2,q1,q2,q3,q4,q5,q6,q7⟩
  have hu:(RefSt.new b).used=1:=rfl
  refine (r_alloc_yes q5 k r s hf (by rw[hu];show 1+(1+r+s)≤b;omega)).mono ?_
  rintro e w' ⟨rfl,g1,g2⟩
  have hsame:∀ g,tag' g≠0→w'.heap[g]?=W.heap[g]?:=fun g hg=>g2.block g (q3.raw.un g hg) (fun hm=>by
   simp only[List.mem_cons,List.not_mem_nil,or_false] at hm
   rcases hm with rfl|rfl|rfl
   exact hg q6.1;exact hg q6.2.1;exact hg q6.2.2)
  refine ⟨⟨_,rfl⟩,tag',H',M1,M2,q1,q2,{ q3 with raw:=q3.raw.same g2.size hsame },⟨g2.os.trans q4.os,g2.tape.trans q4.tape,g2.output.trans q4.output,Nat.le_trans q4.size g2.size,fun g hg e=>?_⟩,g1,q6,q7⟩
  have z:=q4.blk g hg e
  refine ⟨(g2.block g (Nat.lt_of_lt_of_le hg q4.size) (fun hm=>?_)).trans z.1,z.2⟩
  simp only[List.mem_cons,List.not_mem_nil,or_false] at hm
  rcases hm with rfl|rfl|rfl <;> omega
 ·rintro a W ⟨tag',H',M1,M2,q1,q2,q3,q4,q5,q6,q7⟩
  have c1:=q3.wf.l2
  have c2:=q3.wf.lm
  have n9:=q3.raw.n9
  rw[q3.nG] at n9
  have hp1:=hpre M1 q1
  have hM2:1≤M2.objs.length∧M2.slots.length≤20000∧2*M2.half+M2.large+b≤M2.limit:=by
   rcases q2 with ⟨z,rfl⟩|⟨z1,z2,z3,z4,rfl⟩
   ·exact ⟨hp1.1,hp1.2.1,z⟩
   ·obtain ⟨x1,x2,x3,x4,x5,x6,x7,_⟩:=becM_parts M1 ((M1.limit-M1.large-b) / 2)
    rw[x1,x5,x7,x6,x3]
    exact ⟨hp1.1,hp1.2.1,by omega⟩
  have hcBl:H'.cB.length<1000000:=by have:=q3.lB.1;omega
  refine ⟨M2.large,by omega,n9,q3.raw.fz 9 (by decide),?_⟩
  have enum:((M2.large:Int)+(b:Nat))=((M2.large+b:Nat):Int):=by omega
  rw[enum]
  have hl1:=hraw_large q3.raw (M2.large+b)
  obtain ⟨W3,hW3⟩:∃ W3,W.setCell ⟨ph,9,none⟩ (.int .i64 ((M2.large+b:Nat):Int))=W3:=⟨_,rfl⟩
  rw[hW3] at hl1 ⊢
  have z3:W3.heap.size=W.heap.size:=by rw[← hW3,World.size_setCell]
  have hphW:ph<W.heap.size:=q3.raw.un ph (by rw[q3.raw.t1];decide)
  have hph0:tag' ph≠0:=by rw[q3.raw.t1];decide
  have h3:∀ g,g≠ph→W3.heap[g]?=W.heap[g]?:=fun g hg=>by rw[← hW3,setCell_else _ _ _ _ _ hg]
  have al:=q5.lt
  have na:a.1≠ph∧a.2.1≠ph∧a.2.2≠ph:=⟨fun e=>hph0 (by rw[← e];exact q6.1),fun e=>hph0 (by rw[← e];exact q6.2.1),fun e=>hph0 (by rw[← e];exact q6.2.2)⟩
  have aA3:ArR W3 a ((RefSt.new b).lay k r s (List.replicate (r+s) 0) undef (.slice none 0 0)):=q5.conf (by rw[z3];exact Nat.le_refl _) (h3 _ na.1) (h3 _ na.2.1) (h3 _ na.2.2)
  have k4:Below W3.heap.size W3 (W3.alloc (.cells #[.pointer (some ⟨a.1,0,none⟩),.int .i64 0] 189)):=(Below.refl _ _).alloc (Nat.le_refl _) _
  have hl2:=hl1.below k4
  have hbz:tag' W.heap.size=0:=Classical.byContradiction (fun q=>by have:=q3.raw.un _ q;omega)
  have hblk:(W3.alloc (.cells #[.pointer (some ⟨a.1,0,none⟩),.int .i64 0] 189)).heap[W.heap.size]?=some (.cells #[.pointer (some ⟨a.1,0,none⟩),.int .i64 0] 189 (0,0)):=by
   rw[← z3];exact heap_alloc_new W3 _
  have aA4:=aA3.conf k4.size (k4.block _ (by omega)) (k4.block _ (by omega)) (k4.block _ (by omega))
  have hbk:∀ n,BkAt (W3.alloc (.cells #[.pointer (some ⟨a.1,0,none⟩),.int .i64 0] 189)) W.heap.size a (midK (addL M2 k r s n) [] (fun _=>0) M2.objs.length) 0:=by
   intro n
   have eo:(addL M2 k r s n).objs=M2.objs ++ [newOb k r s true n]:=rfl
   refine ⟨?_,?_,?_,aA4.like ?_ ?_ rfl ?_⟩
   ·simp only[World.cell?,hblk];simp
   ·simp only[World.cell?,hblk];simp
   ·simp only[World.frozen?,hblk];simp
   ·show [shp (ob (addL M2 k r s n) M2.objs.length)]=[] ++ [(k,r,s)]
    rw[ob_new eo]
    show [(k,(List.replicate r 0).length,(List.replicate s 0).length)]=_
    rw[List.length_replicate,List.length_replicate]
    rfl
   ·show [mix (addL M2 k r s n) [] 0 M2.objs.length]=[] ++ [List.replicate (r+s) 0]
    rw[mix_new eo]
    rfl
   ·show 1+osz (ob (addL M2 k r s n) M2.objs.length)=b
    rw[ob_new eo]
    unfold osz newOb
    rw[List.length_replicate,List.length_replicate]
    omega
  refine (addB_any hl2.pB hcBl (fun q hq=>by have:=q3.lB.2 q hq;omega) W.heap.size).mono ?_
  rintro e w' ⟨n,rfl,n1,n2,n3,fr',vc',vf',p1,p2,p3,p4,p5,w1,p6,p7⟩
  have hs4:(W3.alloc (.cells #[.pointer (some ⟨a.1,0,none⟩),.int .i64 0] 189)).heap.size=W.heap.size+1:=by rw[World.size_alloc,z3]
  obtain ⟨r1,r2,r3,r4⟩:=hl2.addB n W.heap.size a _ ⟨hbz,q6.1,q6.2.1,q6.2.2⟩ (by omega) (hbk n) ⟨by omega,by omega,by omega⟩ n3 p1 p4 p5 p6 p7
  have hslot:∀ q,(H'.cB.getD q none).isSome=true↔M2.slots.getD q 0≠0:=q3.cB
  have low:LowS M2 n:=by
   refine ⟨Classical.byContradiction (fun z=>?_),Nat.le_trans n3 q3.lB.1,fun q hq=>?_⟩
   ·have:=(hslot n).2 z
    have n1':H'.cB.getD n none=none:=n1
    rw[n1'] at this
    cases this
   ·refine (hslot q).1 ?_
    have n2':H'.cB.getD q none≠none:=n2 q hq
    cases hx:H'.cB.getD q none with
    | none=>exact absurd hx n2'
    | some x=>rfl
  have hlb:=low_bound q3.wf n low.2.2
  have eo:(addL M2 k r s n).objs=M2.objs ++ [newOb k r s true n]:=rfl
  have wf2:=addL_wf q3.wf hM2.1 k r s n hs (by omega) low.2.1 low.1 (by omega)
  have hsln:=addL_len M2 k r s n low.2.1
  refine ⟨n,rfl,by omega,tagB tag' W.heap.size a vc' n,_,M1,M2,q1,q2,low,⟨r1,wf2,q3.nL,?_,q3.nK,q3.nM,q3.nC,q3.nR,?_,q3.S,fun q=>?_,fun q hq=>?_,fun q hq=>?_,fun x=>?_,⟨?_,fun x hx=>?_⟩,q3.lH⟩,?_⟩
  ·show M2.large+b=M2.large+(2+r+s);omega
  ·show H'.A=midA (addL M2 k r s n) []
   rw[q3.A]
   unfold midA
   have x1:shapes M2 M2.small=shapes (addL M2 k r s n) (addL M2 k r s n).small:=(shapes_old q3.wf eo).symm
   have x2:M2.small.map (fun i=>mix M2 [] 0 i)=(addL M2 k r s n).small.map (fun i=>mix (addL M2 k r s n) [] 0 i):=List.map_congr_left (fun i hi=>(mix_old q3.wf eo (.inl hi)).symm)
   have x3:M2.small.map (fun i=>if i∈([]:List Nat) then some (addr M2 [] i) else none)=(addL M2 k r s n).small.map (fun i=>if i∈([]:List Nat) then some (addr (addL M2 k r s n) [] i) else none):=List.map_congr_left (fun i hi=>by rw[if_neg (by simp),if_neg (by simp)])
   rw[x1,x2,x3]
   rfl
  ·show ((poolPut H'.cB n W.heap.size).getD q none).isSome=true↔_
   rw[poolPut_at _ _ _ _ n3,addL_slot M2 k r s n q low.2.1]
   by_cases z:q=n
   ·rw[if_pos z,if_pos z]
    simp only[Option.isSome_some,true_iff]
    omega
   ·rw[if_neg z,if_neg z];exact hslot q
  ·rw[addL_slot M2 k r s n q low.2.1] at hq ⊢
   show updF H'.bk n _ q=_
   unfold updF
   by_cases z:q=n
   ·rw[if_pos z,if_pos z]
   ·rw[if_neg z] at hq
    rw[if_neg z,if_neg z,q3.bk q hq]
    have hIs:Is M2 (M2.slots.getD q 0):=.inr ⟨hq,(slot_mem hq).2⟩
    unfold midK
    rw[mix_old q3.wf eo hIs,ob_old eo (q3.wf.ln _ hIs)]
  ·rw[addL_slot M2 k r s n q low.2.1] at hq
   show updF H'.re n 0 q≤H'.coll
   unfold updF
   by_cases z:q=n
   ·rw[if_pos z];exact Nat.zero_le _
   ·rw[if_neg z] at hq ⊢;exact q3.re q hq
  ·show H'.cH.getD x none=(M2.roots.getD x none).map (refW (addL M2 k r s n))
   rw[q3.cH x]
   cases hx:M2.roots.getD x none with
   | none=>rfl
   | some i=>
    show some _=some _
    rw[refW_old eo ((q3.wf.ok.rt i (roots_mem hx)).imp id (fun q=>q3.wf.ln i q))]
  ·show (poolPut H'.cB n W.heap.size).length≤_
   have:=q3.lB.1
   have n3':n≤H'.cB.length:=n3
   unfold poolPut
   split
   ·rw[List.length_set];omega
   ·rw[List.length_append,List.length_singleton];omega
  ·have:=q3.lB.2 x (p2 x hx);omega
  ·have s4:=k4.size
   refine ⟨r2.1.trans ?_,r2.2.1.trans ?_,r2.2.2.1.trans ?_,?_,fun g hg e=>?_⟩
   ·rw[← hW3];exact q4.os
   ·rw[← hW3];exact q4.tape
   ·rw[← hW3];exact q4.output
   ·have:=q4.size;have:=r2.2.2.2;omega
   ·have z:=q4.blk g hg e
    have hgs:g<W.heap.size:=Nat.lt_of_lt_of_le hg q4.size
    have hgp:g≠ph:=by rintro rfl;exact hph0 z.2
    refine ⟨?_,?_⟩
    ·rw[r3 g (by omega) z.2,k4.block g (by omega),h3 g hgp];exact z.1
    ·rw[r4 g (by omega) (by omega) (by omega) (by omega) (by omega)];exact z.2
 ·rintro e w' (⟨n,rfl,tag',H',M1,M2,q1,q2,q3,q4,q5⟩|⟨rfl,tag',H',M1,q1,q2,q3,q4⟩)
  ·exact ⟨tag',H',M1,q1,q5,.inl ⟨M2,n,q2,q3,rfl,q4⟩⟩
  ·exact ⟨tag',H',M1,q1,q4,.inr ⟨q2,rfl,q3⟩⟩
def AllocR (M:Hp) (k r s:Nat) (M':Hp) (v x:Nat):Prop:=
 (1+r+s≤64∧∃ M1,PreS M M1 (1+r+s)∧((M1.used+(1+r+s)≤M1.half∧v=M1.used∧x=0∧M'=addS M1 k r s)∨(M1.half<M1.used+(1+r+s)∧v=0∧x=31∧M'=M1)))∨
 (64<1+r+s∧∃ M1,PreL M M1 (2+r+s)∧((∃ M2 n,WayL M1 M2 (2+r+s)∧LowS M2 n∧v=9223372036854775808+n∧x=0∧M'=addL M2 k r s n)∨(NoWay M1 (2+r+s)∧v=0∧x=31∧M'=M1)))
theorem halloc_any {w:World}{ph:Nat}{tag:Nat→Nat}{M:Hp}{H:HC} (h:HAt w ph tag M H) (ho1:1≤M.objs.length) (hc:M.coll≤1000000000000) (hr:M.resz≤900000000000) (hsl:M.slots.length≤20000) (k r s:Nat) (hf:Fits k r s):
  Calls Tryz.prog 36 #[.pointer (some ⟨ph,0,none⟩),.int .i64 (k:Nat),.int .i64 (r:Nat),.int .i64 (s:Nat)] w fun e w'=>∃ tag' H' M' v x,AllocR M k r s M' v x∧Fr tag tag' w w'∧e=.returned (.tuple #[.int .u64 (v:Nat),.int .i64 (x:Nat)])∧HAt w' ph tag' M' H':=by
 by_cases hs:1+r+s≤64
 ·refine alloc_small hf hs ((allocSmall_any h ho1 hc (by omega) k r s hf hs).mono ?_)
  rintro e w' ⟨tag',H',M1,hp,fr,⟨a,rfl,hh⟩|⟨a,rfl,hh⟩⟩
  ·exact ⟨⟨_,_,rfl⟩,tag',H',_,M1.used,0,.inl ⟨hs,M1,hp,.inl ⟨a,rfl,rfl,rfl⟩⟩,fr,rfl,hh⟩
  ·exact ⟨⟨_,_,rfl⟩,tag',H',_,0,31,.inl ⟨hs,M1,hp,.inr ⟨a,rfl,rfl,rfl⟩⟩,fr,rfl,hh⟩
 ·have hs:64<1+r+s:=by omega
  refine alloc_large hf hs ((allocLarge_any h ho1 hc hr hsl k r s hf hs).mono ?_)
  rintro e w' ⟨tag',H',M1,hp,fr,⟨M2,n,a,al,rfl,hh⟩|⟨a,rfl,hh⟩⟩
  ·exact ⟨⟨_,_,rfl⟩,tag',H',_,9223372036854775808+n,0,.inr ⟨hs,M1,hp,.inl ⟨M2,n,a,al,rfl,rfl,rfl⟩⟩,fr,rfl,hh⟩
  ·exact ⟨⟨_,_,rfl⟩,tag',H',_,0,31,.inr ⟨hs,M1,hp,.inr ⟨a,rfl,rfl,rfl⟩⟩,fr,rfl,hh⟩
def newM (n:Nat):Hp:=⟨n,64,1,0,0,0,0,0,[ob0],[],[],[]⟩
theorem newM_wf (n:Nat) (h1:128≤n) (h2:n≤1048576):HpWf (newM n):=by
 have hi:∀ i,¬ Is (newM n) i:=fun i hi=>by
  rcases hi with hi|⟨_,hi⟩
  ·exact List.not_mem_nil hi
  ·exact List.not_mem_nil hi
 have hz:∀ s,(newM n).slots.getD s 0=0:=fun s=>by show ([]:List Nat).getD s 0=0;simp
 exact {
  ok:={
   sm:=List.nodup_nil,s1:=fun i hi=>absurd hi List.not_mem_nil,b1:=fun s hs=>absurd (hz s) hs
   rf:=fun i h=>absurd h (hi i),rt:=fun i h=>absurd h List.not_mem_nil,sl:=Nat.zero_le _,us:=by rfl,u2:=by show 1≤64;omega,h2:=by show 64≤1048576;omega }
  ln:=fun i h=>absurd h (hi i),lg:=by rfl,kp:=Nat.le_refl _,lm:=by show 2*64+0≤n;omega,h1:=Nat.le_refl _,l2:=h2
  ss:=fun i hi=>absurd hi List.not_mem_nil,sb:=fun i _ hi=>absurd hi List.not_mem_nil }
def newT (ph:Nat) (a s:Nat × Nat × Nat):Nat→Nat:=fun g=>if g=ph then 1 else if g=a.1∨g=a.2.1∨g=a.2.2 then 2 else if g=s.1∨g=s.2.1∨g=s.2.2 then 3 else 0
theorem hnew_any {w:World} (n:Nat) (h1:128≤n) (h2:n≤1048576):
  Calls Tryz.prog 9 #[.int .i64 (n:Nat)] w fun e w'=>∃ ph tag H,e=.returned (.tuple #[.pointer (some ⟨ph,0,none⟩),.int .i64 0])∧HAt w' ph tag (newM n) H∧(∀ g,tag g≠0→w.heap.size≤g)∧Below w.heap.size w w':=by
 refine (hnew_walk h1 h2 (G1:=fun a W=>ArR W a (RefSt.new 64)∧(w.heap.size≤a.1∧w.heap.size≤a.2.1∧w.heap.size≤a.2.2)∧Below w.heap.size w W)
  (G2:=fun a s W=>ArR W a (RefSt.new 64)∧ArR W s (RefSt.new 64)∧(w.heap.size≤a.1∧w.heap.size≤a.2.1∧w.heap.size≤a.2.2)∧(a.1<s.1∧a.1<s.2.1∧a.1<s.2.2∧a.2.1<s.1∧a.2.1<s.2.1∧a.2.1<s.2.2∧a.2.2<s.1∧a.2.2<s.2.1∧a.2.2<s.2.2)∧Below w.heap.size w W) ?_ ?_).mono ?_
 ·exact r_new 64 (by omega) (by omega) w
 ·rintro a W ⟨hA,hl,hb⟩
  refine (r_new 64 (by omega) (by omega) W).mono ?_
  rintro e w' ⟨s,rfl,hS,hl2,hb2⟩
  have q:=hA.lt
  have hA':ArR w' a (RefSt.new 64):=hA.conf hb2.size (hb2.block _ q.1) (hb2.block _ q.2.1) (hb2.block _ q.2.2)
  exact ⟨s,rfl,hA',hS,hl,⟨by omega,by omega,by omega,by omega,by omega,by omega,by omega,by omega,by omega⟩,hb.trans (hb2.mono hb.size)⟩
 ·rintro e w' ⟨a,s,w2,⟨hA,hS,hl,hd,hb⟩,rfl,rfl⟩
  generalize hobj:(Obj.cells #[Value.int IntKind.i64 (n:Nat),.pointer (some ⟨a.1,0,none⟩),.pointer (some ⟨s.1,0,none⟩),.slice none 0 0,.slice none 0 0,.int .i64 0,.slice none 0 0,.slice none 0 0,.int .i64 0,.int .i64 0,.int .i64 0,.int .i64 0,.int .i64 0,.int .i64 0] 95)=o
  have kb:Below w2.heap.size w2 (w2.alloc o):=(Below.refl _ _).alloc (Nat.le_refl _) _
  have qa:=hA.lt
  have qs:=hS.lt
  have hA':ArR (w2.alloc o) a (RefSt.new 64):=hA.conf kb.size (kb.block _ qa.1) (kb.block _ qa.2.1) (kb.block _ qa.2.2)
  have hS':ArR (w2.alloc o) s (RefSt.new 64):=hS.conf kb.size (kb.block _ qs.1) (kb.block _ qs.2.1) (kb.block _ qs.2.2)
  have hg:(w2.alloc o).heap[w2.heap.size]?=some o:=heap_alloc_new _ _
  have hsz:(w2.alloc o).heap.size=w2.heap.size+1:=by simp
  have hcell:∀ i v,#[Value.int IntKind.i64 (n:Nat),.pointer (some ⟨a.1,0,none⟩),.pointer (some ⟨s.1,0,none⟩),.slice none 0 0,.slice none 0 0,.int .i64 0,.slice none 0 0,.slice none 0 0,.int .i64 0,.int .i64 0,.int .i64 0,.int .i64 0,.int .i64 0,.int .i64 0][i]?=some v→(w2.alloc o).cell? ⟨w2.heap.size,i,none⟩=some v:=fun i v hv=>by
   simp only[World.cell?,hg]
   rw[← hobj]
   exact hv
  have hfz:∀ i,(w2.alloc o).frozen? ⟨w2.heap.size,i,none⟩=false:=fun i=>by
   simp only[World.frozen?,hg]
   rw[← hobj]
   show (decide ((0:Nat)≤i) && decide (i<0))=false
   simp
  clear hg
  have hz:∀ g,(Value.slice none 0 0).ownBlock≠some g:=fun g=>by simp [Value.ownBlock]
  have pB:PoolAt (w2.alloc o) w2.heap.size 3 208 encP (.pointer none) [] [] (.slice none 0 0) (.slice none 0 0):=
   ⟨hcell 3 _ rfl,hcell 4 _ rfl,hcell 5 _ rfl,hfz _,hfz _,hfz _,.inl ⟨rfl,rfl⟩,.inl ⟨rfl,rfl⟩,hz _,hz _,fun g e=>absurd e (hz g),PoolOk.nil,Nat.zero_le _,Nat.zero_le _⟩
  have pH:PoolAt (w2.alloc o) w2.heap.size 6 148 encU (.int .u64 0) [] [] (.slice none 0 0) (.slice none 0 0):=
   ⟨hcell 6 _ rfl,hcell 7 _ rfl,hcell 8 _ rfl,hfz _,hfz _,hfz _,.inl ⟨rfl,rfl⟩,.inl ⟨rfl,rfl⟩,hz _,hz _,fun g e=>absurd e (hz g),PoolOk.nil,Nat.zero_le _,Nat.zero_le _⟩
  have T2:∀ g,(g=a.1∨g=a.2.1∨g=a.2.2)→newT w2.heap.size a s g=2:=fun g e=>by
   unfold newT
   rw[if_neg (by omega),if_pos e]
  have T3:∀ g,(g=s.1∨g=s.2.1∨g=s.2.2)→newT w2.heap.size a s g=3:=fun g e=>by
   unfold newT
   rw[if_neg (by omega),if_neg (by omega),if_pos e]
  have T1:newT w2.heap.size a s w2.heap.size=1:=by unfold newT;rw[if_pos rfl]
  have T0:∀ g,newT w2.heap.size a s g≠0→w.heap.size≤g∧g<w2.heap.size+1:=fun g e=>by
   unfold newT at e
   have:=hb.size
   by_cases e1:g=w2.heap.size
   ·omega
   ·rw[if_neg e1] at e
    by_cases e2:g=a.1∨g=a.2.1∨g=a.2.2
    ·omega
    ·rw[if_neg e2] at e
     by_cases e3:g=s.1∨g=s.2.1∨g=s.2.2
     ·omega
     ·rw[if_neg e3] at e;exact absurd rfl e
  have hn0:∀ (s:Nat),([]:List (Option Nat)).getD s none=none:=fun s=>by simp
  refine ⟨w2.heap.size,newT w2.heap.size a s,⟨n,0,0,0,0,0,a,s,RefSt.new 64,RefSt.new 64,[],[],.slice none 0 0,.slice none 0 0,[],[],.slice none 0 0,.slice none 0 0,fun _=>(0,0,0),fun _=>RefSt.new 64,fun _=>0⟩,rfl,?_,fun g e=>(T0 g e).1,hb.trans (kb.mono hb.size)⟩
  have hm:∀ s,(newM n).slots.getD s 0=0:=fun s=>by show ([]:List Nat).getD s 0=0;simp
  exact {
   raw:={
    n0:=hcell 0 _ rfl,n1:=hcell 1 _ rfl,n2:=hcell 2 _ rfl,n9:=hcell 9 _ rfl,n10:=hcell 10 _ rfl,n11:=hcell 11 _ rfl,n12:=hcell 12 _ rfl,n13:=hcell 13 _ rfl
    fz:=fun i _=>hfz i,pB:=pB,pH:=pH,hA:=hA',hS:=hS'
    bB:=fun s bp e=>by rw[hn0] at e;cases e
    t1:=T1,tA:=⟨T2 _ (.inl rfl),T2 _ (.inr (.inl rfl)),T2 _ (.inr (.inr rfl))⟩,tS:=⟨T3 _ (.inl rfl),T3 _ (.inr (.inl rfl)),T3 _ (.inr (.inr rfl))⟩
    tH:=⟨fun g e=>absurd e (hz g),fun g e=>absurd e (hz g)⟩,tB:=⟨fun g e=>absurd e (hz g),fun g e=>absurd e (hz g)⟩
    tK:=fun s bp e=>by rw[hn0] at e;cases e
    tN:=fun s bp e=>by rw[hn0] at e;cases e
    un:=fun g e=>by rw[hsz];exact (T0 g e).2 }
   wf:=newM_wf n h1 h2
   nL:=rfl,nG:=rfl,nK:=rfl,nM:=rfl,nC:=rfl,nR:=rfl,A:=rfl,S:=rfl
   cB:=fun s=>by rw[hn0,hm];simp
   bk:=fun s hs=>absurd (hm s) hs,re:=fun s hs=>absurd (hm s) hs
   cH:=fun x=>by show ([]:List (Option Nat)).getD x none=(([]:List (Option Nat)).getD x none).map _;simp
   lB:=⟨Nat.le_refl _,fun q hq=>absurd hq List.not_mem_nil⟩,lH:=⟨Nat.le_refl _,fun q hq=>absurd hq List.not_mem_nil⟩ }
def numOf (M:Hp) (x:Nat):Nat:=if x<topW then (match findJ (shapes M M.small) (x:Nat) with|some j=>M.small.getD j 0|none=>0) else M.slots.getD (x-topW) 0
structure Found (w:World) (ph:Nat) (M:Hp) (H:HC) (x i t q:Nat) (a:Nat × Nat × Nat) (R:RefSt) (j:Nat):Prop where
 i0:i≠0
 is:Is M i
 ho:Holds w ph t q a.1 x (place R.L j:Nat)
 ar:ArR w a R
 hj:j<R.L.length
 gn:R.Gn.getD j none=none
 sh:R.L.getD j (0,0,0)=shp (ob M i)
 fl:R.X.getD j []=mix M [] 0 i
 wh:(x<topW∧a=H.a∧R=midA M []∧j<M.small.length∧M.small.getD j 0=i)∨(∃ s bp,x=topW+s∧M.slots.getD s 0=i∧H.cB.getD s none=some bp∧a=H.at' s∧R=midK M [] (fun _=>0) i∧j=0)
def NoFind (w:World) (ph x:Nat):Prop:=Calls Tryz.prog 84 #[.pointer (some ⟨ph,0,none⟩),.int .u64 (x:Nat)] w fun e w'=>e=.returned (.tuple #[.nilIface,.int .i64 0,.int .i64 32])∧Still w w'
theorem found_any {w:World}{ph:Nat}{tag:Nat→Nat}{M:Hp}{H:HC} (h:HAt w ph tag M H) (x:Nat) (hx:x<18446744073709551616):
  (∃ t q a R j,Found w ph M H x (numOf M x) t q a R j)∨(numOf M x=0∧((Holds w ph 85 H.a.1 H.a.1 x (x:Nat)∧ArR w H.a (midA M [])∧∀ j,j<(midA M []).L.length→((x:Nat):Int)≠(place (midA M []).L j:Nat))∨NoFind w ph x)):=by
 have hA:=h.raw.hA
 rw[h.A] at hA
 by_cases ht:x<topW
 ·have ho:=holds_small h.raw.n1 x ht
  by_cases hf:∃ j,j<(shapes M M.small).length∧((x:Nat):Int)=(place (shapes M M.small) j:Nat)
  ·obtain ⟨j,hj,e⟩:=hf
   have hn:numOf M x=M.small.getD j 0:=by
    unfold numOf
    rw[if_pos ht,findJ_yes hj e]
   have hj':j<M.small.length:=by rw[shapes_length] at hj;exact hj
   have hm:M.small.getD j 0∈M.small:=by rw[List.getD_eq_getElem?_getD,List.getElem?_eq_getElem hj'];exact List.getElem_mem hj'
   refine .inl ⟨85,H.a.1,H.a,midA M [],j,?_⟩
   rw[hn]
   exact {
    i0:=(h.wf.ok.s1 _ hm).1,is:=.inl hm,ho:=by rw[e] at ho;exact ho,ar:=hA,hj:=hj
    gn:=by
     show (M.small.map fun i=>if i∈([]:List Nat) then some (addr M [] i) else none).getD j none=none
     rw[List.getD_eq_getElem?_getD,List.getElem?_map,List.getElem?_eq_getElem hj']
     simp
    sh:=shapes_at M M.small j hj'
    fl:=by
     show (M.small.map fun i=>mix M [] 0 i).getD j []=_
     rw[List.getD_eq_getElem?_getD,List.getElem?_map,List.getElem?_eq_getElem hj',List.getD_eq_getElem?_getD,List.getElem?_eq_getElem hj']
     rfl
    wh:=.inl ⟨ht,rfl,rfl,hj',rfl⟩ }
  ·have hno:∀ j,j<(midA M []).L.length→((x:Nat):Int)≠(place (midA M []).L j:Nat):=fun j hj e=>hf ⟨j,hj,e⟩
   refine .inr ⟨?_,.inl ⟨ho,hA,hno⟩⟩
   unfold numOf
   rw[if_pos ht,show findJ (shapes M M.small) (x:Nat)=none from findJ_no hno]
 ·obtain ⟨s,rfl⟩:∃ s,x=topW+s:=⟨x-topW,by omega⟩
  have hs:s<9223372036854775808:=by unfold topW at hx ht;omega
  have hn:numOf M (topW+s)=M.slots.getD s 0:=by
   unfold numOf
   rw[if_neg ht,Nat.add_sub_cancel_left]
  rw[hn]
  by_cases h0:M.slots.getD s 0=0
  ·refine .inr ⟨h0,.inr ?_⟩
   have hc:H.cB.getD s none=none:=by
    cases hc:H.cB.getD s none with
    | none=>rfl
    | some bp=>exact absurd h0 ((h.cB s).1 (by rw[hc];rfl))
   exact find_none h.raw.pB s hs hc
  ·obtain ⟨bp,hbp⟩:=Option.isSome_iff_exists.1 ((h.cB s).2 h0)
   have hb:=h.raw.bB s bp hbp
   have har:=hb.ar
   rw[h.bk s h0] at har
   refine .inl ⟨187,bp,H.at' s,midK M [] (fun _=>0) (M.slots.getD s 0),0,?_⟩
   exact {
    i0:=h0,is:=.inr ⟨h0,(slot_mem h0).2⟩,ho:=holds_large h.raw.pB s hs bp _ hbp hb.c0,ar:=har,hj:=Nat.zero_lt_one,gn:=rfl,sh:=rfl,fl:=rfl
    wh:=.inr ⟨s,bp,rfl,rfl,hbp,rfl,rfl,rfl⟩ }
def objM (M:Hp) (x:Nat):Nat × Nat × Nat × Nat:=if numOf M x=0 then (0,0,0,32) else ((ob M (numOf M x)).kind,(ob M (numOf M x)).refs.length,(ob M (numOf M x)).raws.length,0)
def fldM (M:Hp) (i:Nat):List Nat:=(ob M i).refs.map (refW M)++(ob M i).raws
def getM (M:Hp) (x:Nat) (i:Int):Nat × Nat:=if numOf M x=0 then (0,32) else if 0≤i∧i<(fldM M (numOf M x)).length then ((fldM M (numOf M x)).getD i.toNat 0,0) else (0,33)
def mayM (M:Hp) (x:Nat):Bool:=decide (x=0∨numOf M x≠0)
theorem Found.obj {w:World}{ph:Nat}{M:Hp}{H:HC}{x i t q:Nat}{a:Nat × Nat × Nat}{R:RefSt}{j:Nat} (f:Found w ph M H x i t q a R j):robj R (place R.L j:Nat)=((ob M i).kind,(ob M i).refs.length,(ob M i).raws.length,0):=by
 rw[robj_none f.hj f.gn,f.sh]
 rfl
theorem Found.get {w:World}{ph:Nat}{M:Hp}{H:HC}{x i t q:Nat}{a:Nat × Nat × Nat}{R:RefSt}{j:Nat} (f:Found w ph M H x i t q a R j) (k:Int):rget R (place R.L j:Nat) k=if 0≤k∧k<(fldM M i).length then ((fldM M i).getD k.toNat 0,0) else (0,24):=by
 have e:fldsOf R.L j=(fldM M i).length:=by
  unfold fldsOf fldM
  rw[f.sh,List.length_append,List.length_map]
  rfl
 rw[rget_none f.hj f.gn,f.fl,e,mix_zero]
 rfl
theorem hobject_any {w:World}{ph:Nat}{tag:Nat→Nat}{M:Hp}{H:HC} (h:HAt w ph tag M H) (x:Nat) (hx:x<18446744073709551616):
  Calls Tryz.prog 44 #[.pointer (some ⟨ph,0,none⟩),.int .u64 (x:Nat)] w fun e w'=>e=.returned (.tuple #[.int .i64 ((objM M x).1:Nat),.int .i64 ((objM M x).2.1:Nat),.int .i64 ((objM M x).2.2.1:Nat),.int .i64 ((objM M x).2.2.2:Nat)])∧Below w.heap.size w w':=by
 rcases found_any h x hx with ⟨t,q,a,R,j,f⟩|⟨h0,⟨ho,hA,hno⟩|hn⟩
 ·obtain ⟨ws,hs,us,hA,r,o⟩:=f.ar
  have:=hobject_core f.ho.find (fun W k=>f.ho.obj W k.below) hA r o
  rw[f.obj] at this
  have e:objM M x=((ob M (numOf M x)).kind,(ob M (numOf M x)).refs.length,(ob M (numOf M x)).raws.length,0):=if_neg f.i0
  rw[e]
  exact this
 ·obtain ⟨ws,hs,us,hA,r,o⟩:=hA
  have:=hobject_core ho.find (fun W k=>ho.obj W k.below) hA r o
  rw[robj_no hno] at this
  have e:objM M x=(0,0,0,32):=if_pos h0
  rw[e]
  exact this
 ·have e:objM M x=(0,0,0,32):=if_pos h0
  rw[e]
  exact hobject_none hn
theorem hget_any {w:World}{ph:Nat}{tag:Nat→Nat}{M:Hp}{H:HC} (h:HAt w ph tag M H) (x:Nat) (hx:x<18446744073709551616) (i:Int):
  Calls Tryz.prog 45 #[.pointer (some ⟨ph,0,none⟩),.int .u64 (x:Nat),.int .i64 i] w fun e w'=>e=.returned (.tuple #[.int .u64 ((getM M x i).1:Nat),.int .i64 ((getM M x i).2:Nat)])∧Below w.heap.size w w':=by
 rcases found_any h x hx with ⟨t,q,a,R,j,f⟩|⟨h0,⟨ho,hA,hno⟩|hn⟩
 ·obtain ⟨ws,hs,us,hA,r,o⟩:=f.ar
  have:=hget_core (i:=i) f.ho.find (fun W k=>f.ho.get W k.below) hA r o
  rw[f.get] at this
  have e:getM M x i=if 0≤i∧i<(fldM M (numOf M x)).length then ((fldM M (numOf M x)).getD i.toNat 0,0) else (0,33):=if_neg f.i0
  rw[e]
  by_cases hi:0≤i∧i<(fldM M (numOf M x)).length
  ·rw[if_pos hi] at this ⊢
   exact this
  ·rw[if_neg hi] at this ⊢
   exact this
 ·obtain ⟨ws,hs,us,hA,r,o⟩:=hA
  have:=hget_core (i:=i) ho.find (fun W k=>ho.get W k.below) hA r o
  rw[rget_no hno] at this
  have e:getM M x i=(0,32):=if_pos h0
  rw[e]
  exact this
 ·have e:getM M x i=(0,32):=if_pos h0
  rw[e]
  exact hget_none hn
theorem may_any {w:World}{ph:Nat}{tag:Nat→Nat}{M:Hp}{H:HC} (h:HAt w ph tag M H) (x:Nat) (hx:x<18446744073709551616):
  Calls Tryz.prog 41 #[.pointer (some ⟨ph,0,none⟩),.int .u64 (x:Nat)] w fun e w'=>e=.returned (.bool (mayM M x))∧Below w.heap.size w w':=by
 by_cases h0:x=0
 ·subst h0
  refine (mayHold_nil w ph).mono ?_
  rintro e w' ⟨rfl,rfl⟩
  exact ⟨by unfold mayM;rw[decide_eq_true (.inl rfl)],Below.refl _ _⟩
 ·refine (mayHold_core h0 (hobject_any h x hx)).mono ?_
  rintro e w' ⟨rfl,hb⟩
  refine ⟨?_,hb⟩
  have:decide ((objM M x).2.2.2=0)=mayM M x:=by
   unfold objM mayM
   by_cases hn:numOf M x=0
   ·rw[if_pos hn,decide_eq_false (by decide),decide_eq_false (by rintro (e|e);exact h0 e;exact e hn)]
   ·rw[if_neg hn,decide_eq_true rfl,decide_eq_true (.inr hn)]
  rw[this]
end Go.Proofs.YtnfbaapbpgbgpaaGreat
