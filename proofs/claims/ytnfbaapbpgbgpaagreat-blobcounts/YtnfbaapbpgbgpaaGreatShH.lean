import Derived.Test.YtnfbaapbpgbgpaaGreatFindM
import Derived.Test.YtnfbaapbpgbgpaaGreatStatW
import Derived.Test.YtnfbaapbpgbgpaaGreatAllocM
namespace Go.Proofs.YtnfbaapbpgbgpaaGreat
open Go.ChangeShapes Go.WideShapes Go.ChangeAt Go.RowKit
set_option linter.unusedVariables false
set_option maxRecDepth 100000
set_option maxHeartbeats 1000000
def putO (M:Hp) (n:Nat) (o:Ob):Hp:={ M with objs:=M.objs.set n o }
structure SameO (o o':Ob):Prop where
 kd:o'.kind=o.kind
 rl:o'.refs.length=o.refs.length
 wl:o'.raws.length=o.raws.length
 bg:o'.big=o.big
 pl:o'.at'=o.at'
theorem ob_put (M:Hp) (n:Nat) (o:Ob) (i:Nat):ob (putO M n o) i=if i=n∧n<M.objs.length then o else ob M i:=by
 show (M.objs.set n o).getD i ob0=_
 unfold ob
 rw[List.getD_eq_getElem?_getD,List.getElem?_set]
 by_cases h:n=i
 ·subst h
  by_cases hl:n<M.objs.length
  ·rw[if_pos rfl,if_pos hl,if_pos ⟨rfl,hl⟩];rfl
  ·rw[if_pos rfl,if_neg hl,if_neg (fun e=>hl e.2),List.getD_eq_getElem?_getD,List.getElem?_eq_none (by omega)]
 ·rw[if_neg h,if_neg (fun e=>h e.1.symm),List.getD_eq_getElem?_getD]
theorem put_same {M:Hp}{n:Nat}{o:Ob} (s:SameO (ob M n) o) (i:Nat):SameO (ob M i) (ob (putO M n o) i):=by
 rw[ob_put]
 by_cases h:i=n∧n<M.objs.length
 ·rw[if_pos h]
  obtain ⟨rfl,_⟩:=h
  exact s
 ·rw[if_neg h]
  exact ⟨rfl,rfl,rfl,rfl,rfl⟩
theorem put_shp {M:Hp}{n:Nat}{o:Ob} (s:SameO (ob M n) o) (i:Nat):shp (ob (putO M n o) i)=shp (ob M i):=by
 have k:=put_same s i
 unfold shp
 rw[k.kd,k.rl,k.wl]
theorem put_osz {M:Hp}{n:Nat}{o:Ob} (s:SameO (ob M n) o) (i:Nat):osz (ob (putO M n o) i)=osz (ob M i):=by
 have k:=put_same s i
 unfold osz
 rw[k.rl,k.wl]
theorem put_shapes {M:Hp}{n:Nat}{o:Ob} (s:SameO (ob M n) o) (l:List Nat):shapes (putO M n o) l=shapes M l:=by
 unfold shapes
 exact List.map_congr_left fun i _=>put_shp s i
theorem put_addr {M:Hp}{n:Nat}{o:Ob} (s:SameO (ob M n) o) (l:List Nat) (i:Nat):addr (putO M n o) l i=addr M l i:=by
 unfold addr
 rw[put_shapes s]
theorem put_refW {M:Hp}{n:Nat}{o:Ob} (s:SameO (ob M n) o) (i:Nat):refW (putO M n o) i=refW M i:=by
 have k:=put_same s i
 unfold refW
 rw[k.bg,k.pl]
theorem put_refW' {M:Hp}{n:Nat}{o:Ob} (s:SameO (ob M n) o):refW (putO M n o)=refW M:=funext (put_refW s)
theorem put_mix {M:Hp}{n:Nat}{o:Ob} (s:SameO (ob M n) o) (i:Nat) (hi:i≠n):mix (putO M n o) [] 0 i=mix M [] 0 i:=by
 rw[mix_zero,mix_zero,ob_put,if_neg (fun e=>hi e.1),put_refW' s]
theorem put_mix_at {M:Hp}{n:Nat}{o:Ob} (s:SameO (ob M n) o) (hn:n<M.objs.length):mix (putO M n o) [] 0 n=o.refs.map (refW M)++o.raws:=by
 rw[mix_zero,ob_put,if_pos ⟨rfl,hn⟩,put_refW' s]
theorem put_lg {M:Hp}{n:Nat}{o:Ob} (s:SameO (ob M n) o) (l:List Nat):lgOf (putO M n o) l=lgOf M l:=by
 unfold lgOf
 congr 1
 exact List.map_congr_left fun i _=>by rw[put_osz s]
theorem put_wf {M:Hp}{n:Nat}{o:Ob} (wf:HpWf M) (s:SameO (ob M n) o) (hr:∀ r∈o.refs,r=0∨Is M r):HpWf (putO M n o):=by
 have ok:=wf.ok
 exact {
  ok:={
   sm:=ok.sm
   s1:=fun i hi=>by
    have k:=put_same s i
    have q:=ok.s1 i hi
    refine ⟨q.1,k.bg.trans q.2.1,?_⟩
    rw[k.pl,put_addr s]
    exact q.2.2
   b1:=fun t ht=>by
    have k:=put_same s (M.slots.getD t 0)
    have q:=ok.b1 t ht
    exact ⟨k.bg.trans q.1,k.pl.trans q.2⟩
   rf:=fun i hi r hr'=>by
    rw[ob_put] at hr'
    by_cases h:i=n∧n<M.objs.length
    ·rw[if_pos h] at hr';exact hr r hr'
    ·rw[if_neg h] at hr';exact ok.rf i hi r hr'
   rt:=ok.rt
   us:=by rw[put_shapes s];exact ok.us
   u2:=ok.u2,h2:=ok.h2,sl:=ok.sl }
  ln:=fun i hi=>by show i<(M.objs.set n o).length;rw[List.length_set];exact wf.ln i hi
  lg:=by rw[put_lg s];exact wf.lg
  kp:=wf.kp,lm:=wf.lm,h1:=wf.h1,l2:=wf.l2
  ss:=fun i hi=>by rw[put_osz s];exact wf.ss i hi
  sb:=fun i h0 hi=>by rw[put_osz s];exact wf.sb i h0 hi }
theorem put_midA_other {M:Hp}{n:Nat}{o:Ob} (s:SameO (ob M n) o) (hn:n ∉ M.small):midA (putO M n o) []=midA M []:=by
 unfold midA
 congr 1
 ·exact put_shapes s _
 ·exact List.map_congr_left fun i hi=>put_mix s i (fun e=>hn (e ▸ hi))
theorem put_midA_at {M:Hp}{n:Nat}{o:Ob} (wf:HpWf M) (s:SameO (ob M n) o) (j:Nat) (hj:j<M.small.length) (e:M.small.getD j 0=n):
  midA (putO M n o) [] = { midA M [] with X:=(midA M []).X.set j (o.refs.map (refW M)++o.raws) }:=by
 have e':M.small[j]=n:=by rw[List.getD_eq_getElem?_getD,List.getElem?_eq_getElem hj] at e;exact e
 have hm:n∈M.small:=e' ▸ List.getElem_mem hj
 have hl:=wf.ln n (.inl hm)
 unfold midA
 congr 1
 ·exact put_shapes s _
 ·refine List.ext_getElem? fun i=>?_
  rw[List.getElem?_map,List.getElem?_set]
  by_cases hi:j=i
  ·subst hi
   rw[if_pos rfl,List.length_map,if_pos hj]
   show Option.map _ M.small[j]?=_
   rw[List.getElem?_eq_getElem hj]
   show some (mix (putO M n o) [] 0 M.small[j])=_
   rw[e',put_mix_at s hl]
  ·rw[if_neg hi,List.getElem?_map]
   show Option.map _ M.small[i]?=_
   by_cases hl':i<M.small.length
   ·rw[List.getElem?_eq_getElem hl']
    show some (mix (putO M n o) [] 0 M.small[i])=some (mix M [] 0 M.small[i])
    rw[put_mix s]
    intro q
    have q1:=List.Nodup.idxOf_getElem wf.ok.sm j hj
    have q2:=List.Nodup.idxOf_getElem wf.ok.sm i hl'
    rw[e'] at q1
    rw[q] at q2
    exact hi (q1.symm.trans q2)
   ·rw[List.getElem?_eq_none (by omega)];rfl
theorem put_midK_other {M:Hp}{n:Nat}{o:Ob} (s:SameO (ob M n) o) (i:Nat) (hi:i≠n):midK (putO M n o) [] (fun _=>0) i=midK M [] (fun _=>0) i:=by
 unfold midK
 rw[put_shp s,put_mix s i hi,put_osz s]
theorem put_midK_at {M:Hp}{n:Nat}{o:Ob} (s:SameO (ob M n) o) (hl:n<M.objs.length):midK (putO M n o) [] (fun _=>0) n = { midK M [] (fun _=>0) n with X:=(midK M [] (fun _=>0) n).X.set 0 (o.refs.map (refW M)++o.raws) }:=by
 unfold midK
 rw[put_shp s,put_mix_at s hl,put_osz s]
 rfl
theorem HAt.putO {w:World}{ph:Nat}{tag:Nat→Nat}{M:Hp}{H:HC} (h:HAt w ph tag M H) {x n t q j:Nat}{a:Nat × Nat × Nat}{R:RefSt} (f:Found w ph M H x n t q a R j) (o:Ob) (s:SameO (ob M n) o) (hr:∀ r∈o.refs,r=0∨Is M r) {w0 w':World} (kb:Below w.heap.size w w0) (kk:But [a.1,a.2.1,a.2.2] w0 w')
  (hA:ArR w' a { R with X:=R.X.set j (o.refs.map (refW M)++o.raws) }):∃ H',HAt w' ph tag (putO M n o) H'∧Fr tag tag w w':=by
 have hsz:w.heap.size≤w'.heap.size:=Nat.le_trans kb.size kk.size
 have hbl:∀ g,g<w.heap.size→g≠a.1→g≠a.2.1→g≠a.2.2→w'.heap[g]?=w.heap[g]?:=fun g hg e1 e2 e3=>(kk.block g (Nat.lt_of_lt_of_le hg kb.size) (by simp [e1,e2,e3])).trans (kb.block g hg)
 have hln:=h.wf.ln n f.is
 have hfr:(tag a.1≠0∧tag a.2.1≠0∧tag a.2.2≠0)→Fr tag tag w w':=fun ht=>⟨kk.os.trans kb.os,kk.tape.trans kb.tape,kk.output.trans kb.output,hsz,fun g hg e=>⟨hbl g hg (by rintro rfl;exact ht.1 e) (by rintro rfl;exact ht.2.1 e) (by rintro rfl;exact ht.2.2 e),e⟩⟩
 rcases f.wh with ⟨hx,rfl,rfl,hj,e⟩|⟨sl,bp,hx,e,hbp,rfl,rfl,rfl⟩
 ·have tA:=h.raw.tA
  have hm:n∈M.small:=by rw[← e,List.getD_eq_getElem?_getD,List.getElem?_eq_getElem hj];exact List.getElem_mem hj
  have hb0:=(h.wf.ok.s1 n hm).2.1
  rw[← put_midA_at h.wf s j hj e] at hA
  have hraw:=h.raw.turn [2] (by decide) (by decide) hsz (fun g h0 h2=>hbl g (h.raw.un g h0) (by rintro rfl;exact h2 (by rw[tA.1];decide)) (by rintro rfl;exact h2 (by rw[tA.2.1];decide)) (by rintro rfl;exact h2 (by rw[tA.2.2];decide)))
   (midA (Go.Proofs.YtnfbaapbpgbgpaaGreat.putO M n o) []) H.S H.cH H.bk H.re (.inr hA) (.inl ⟨by decide,rfl⟩) (.inl ⟨by decide,rfl⟩) (fun s' bp' _=>.inl ⟨by simp;omega,rfl,rfl⟩)
  refine ⟨_,⟨hraw,put_wf h.wf s hr,h.nL,h.nG,h.nK,h.nM,h.nC,h.nR,rfl,h.S,h.cB,?_,h.re,?_,h.lB,h.lH⟩,hfr ⟨by omega,by omega,by omega⟩⟩
  ·intro s' hs'
   rw[put_midK_other s _ (by intro q;have:=(h.wf.ok.b1 s' hs').1;have q':M.slots.getD s' 0=n:=q;rw[q',hb0] at this;cases this)]
   exact h.bk s' hs'
  ·intro y
   rw[put_refW' s]
   exact h.cH y
 ·have tK:=h.raw.tK sl bp hbp
  have tN:=h.raw.tN sl bp hbp
  have hs0:M.slots.getD sl 0≠0:=by rw[e];exact f.i0
  have hb1:=h.wf.ok.b1 sl hs0
  rw[e] at hb1
  rw[← put_midK_at s hln] at hA
  have hbb:=h.raw.bB sl bp hbp
  have hpl:w'.heap[bp]?=w.heap[bp]?:=hbl bp (h.raw.un bp (by omega)) tN.1 tN.2.1 tN.2.2
  have hK:BkAt w' bp (H.at' sl) (midK (Go.Proofs.YtnfbaapbpgbgpaaGreat.putO M n o) [] (fun _=>0) n) (H.re sl):=⟨(cell_like hpl _).trans hbb.c0,(cell_like hpl _).trans hbb.c1,(froz_like hpl _).trans hbb.f1,hA⟩
  have hraw:=h.raw.turn [8+sl] (by simp;omega) (by simp;omega) hsz (fun g h0 h2=>hbl g (h.raw.un g h0) (by rintro rfl;exact h2 (by rw[tK.2.1];simp)) (by rintro rfl;exact h2 (by rw[tK.2.2.1];simp)) (by rintro rfl;exact h2 (by rw[tK.2.2.2];simp)))
   H.A H.S H.cH (fun s'=>if s'=sl then midK (Go.Proofs.YtnfbaapbpgbgpaaGreat.putO M n o) [] (fun _=>0) n else H.bk s') H.re (.inl ⟨by simp;omega,rfl⟩) (.inl ⟨by simp;omega,rfl⟩) (.inl ⟨by simp;omega,rfl⟩) (fun s' bp' hbp'=>by
    by_cases hs':s'=sl
    ·subst hs'
     rw[hbp] at hbp'
     cases hbp'
     right
     rw[if_pos rfl]
     exact hK
    ·left
     exact ⟨by simp;omega,if_neg hs',rfl⟩)
  have hns:n ∉ M.small:=fun hm=>by have:=(h.wf.ok.s1 n hm).2.1;rw[hb1.1] at this;cases this
  refine ⟨_,⟨hraw,put_wf h.wf s hr,h.nL,h.nG,h.nK,h.nM,h.nC,h.nR,(h.A.trans (put_midA_other s hns).symm),h.S,h.cB,?_,h.re,?_,h.lB,h.lH⟩,hfr ⟨by omega,by omega,by omega⟩⟩
  ·intro s' hs'
   show (if s'=sl then _ else _)=_
   by_cases hss:s'=sl
   ·subst hss
    rw[if_pos rfl]
    show _=midK _ [] _ (M.slots.getD s' 0)
    rw[e]
   ·rw[if_neg hss,put_midK_other s _ (by intro q;have:=(h.wf.ok.b1 s' hs').2;have q':M.slots.getD s' 0=n:=q;rw[q',hb1.2] at this;exact hss this.symm)]
    exact h.bk s' hs'
  ·intro y
   rw[put_refW' s]
   exact h.cH y
theorem put_self (M:Hp) (n:Nat) (hn:n<M.objs.length):putO M n (ob M n)=M:=by
 unfold putO ob
 rw[List.getD_eq_getElem?_getD,List.getElem?_eq_getElem hn]
 show { M with objs:=M.objs.set n M.objs[n] } = M
 rw[List.set_getElem_self]
theorem HAt.sameA {w:World}{ph:Nat}{tag:Nat→Nat}{M:Hp}{H:HC} (h:HAt w ph tag M H) {x n t q j:Nat}{a:Nat × Nat × Nat}{R:RefSt} (f:Found w ph M H x n t q a R j) {w0 w':World} (kb:Below w.heap.size w w0) (kk:But [a.1,a.2.1,a.2.2] w0 w') (hA:ArR w' a R):
  ∃ H',HAt w' ph tag M H'∧Fr tag tag w w':=by
 have hn:=h.wf.ln n f.is
 have o:=hA.ok
 have hx:j<R.X.length:=by rw[o.xl];exact f.hj
 have e:{ R with X:=R.X.set j ((ob M n).refs.map (refW M)++(ob M n).raws) } = R:=by
  have:(ob M n).refs.map (refW M)++(ob M n).raws=R.X[j]:=by
   rw[← mix_zero M [] n,← f.fl,List.getD_eq_getElem?_getD,List.getElem?_eq_getElem hx]
   rfl
  rw[this,List.set_getElem_self]
 have:=h.putO f (ob M n) ⟨rfl,rfl,rfl,rfl,rfl⟩ (h.wf.ok.rf n f.is) kb kk (by rw[e];exact hA)
 rw[put_self M n hn] at this
 exact this
theorem num_is {M:Hp}{x:Nat} (h:numOf M x≠0):Is M (numOf M x):=by
 unfold numOf at h ⊢
 by_cases ht:x<topW
 ·rw[if_pos ht] at h ⊢
  by_cases hf:∃ j,j<(shapes M M.small).length∧((x:Nat):Int)=(place (shapes M M.small) j:Nat)
  ·obtain ⟨j,hj,e⟩:=hf
   rw[findJ_yes hj e]
   have hj':j<M.small.length:=by rw[shapes_length] at hj;exact hj
   left
   show M.small.getD j 0∈M.small
   rw[List.getD_eq_getElem?_getD,List.getElem?_eq_getElem hj']
   exact List.getElem_mem hj'
  ·rw[findJ_no (fun j hj e=>hf ⟨j,hj,e⟩)] at h
   exact absurd rfl h
 ·rw[if_neg ht] at h ⊢
  exact .inr ⟨h,(slot_mem h).2⟩
theorem num_ref {M:Hp} (ok:HpOk M) {x:Nat} (h:numOf M x≠0):refW M (numOf M x)=x:=by
 unfold numOf at h ⊢
 by_cases ht:x<topW
 ·rw[if_pos ht] at h ⊢
  by_cases hf:∃ j,j<(shapes M M.small).length∧((x:Nat):Int)=(place (shapes M M.small) j:Nat)
  ·obtain ⟨j,hj,e⟩:=hf
   rw[findJ_yes hj e] at h ⊢
   have hj':j<M.small.length:=by rw[shapes_length] at hj;exact hj
   have hm:M.small.getD j 0∈M.small:=by
    rw[List.getD_eq_getElem?_getD,List.getElem?_eq_getElem hj']
    exact List.getElem_mem hj'
   have q:=ok.s1 _ hm
   show refW M (M.small.getD j 0)=x
   unfold refW
   rw[if_neg q.1,if_neg (by rw[q.2.1];decide),q.2.2,addr_at M _ ok.sm j hj']
   omega
  ·rw[findJ_no (fun j hj e=>hf ⟨j,hj,e⟩)] at h
   exact absurd rfl h
 ·rw[if_neg ht] at h ⊢
  have q:=ok.b1 _ h
  unfold refW
  rw[if_neg h,if_pos q.1,q.2]
  omega
theorem may_num {M:Hp} (ok:HpOk M) {x:Nat} (h:mayM M x=true):refW M (numOf M x)=x∧(numOf M x=0∨Is M (numOf M x)):=by
 by_cases h0:numOf M x=0
 ·have:x=0:=by
   have:=of_decide_eq_true h
   rcases this with e|e
   ·exact e
   ·exact absurd h0 e
  subst this
  rw[h0]
  exact ⟨by unfold refW;rw[if_pos rfl],.inl rfl⟩
 ·exact ⟨num_ref ok h0,.inr (num_is h0)⟩
def setO (M:Hp) (n i v:Nat):Ob:=if i<(ob M n).refs.length then { ob M n with refs:=(ob M n).refs.set i (numOf M v) } else { ob M n with raws:=(ob M n).raws.set (i-(ob M n).refs.length) v }
theorem setO_same (M:Hp) (n i v:Nat):SameO (ob M n) (setO M n i v):=by
 unfold setO
 split
 ·exact ⟨rfl,List.length_set,rfl,rfl,rfl⟩
 ·exact ⟨rfl,rfl,List.length_set,rfl,rfl⟩
theorem setO_refs {M:Hp} (wf:HpWf M) {n:Nat} (hn:Is M n) (i v:Nat) (hv:i<(ob M n).refs.length→mayM M v=true):∀ r∈(setO M n i v).refs,r=0∨Is M r:=by
 intro r hr
 unfold setO at hr
 by_cases h:i<(ob M n).refs.length
 ·rw[if_pos h] at hr
  rcases List.mem_or_eq_of_mem_set hr with e|e
  ·exact wf.ok.rf n hn r e
  ·subst e
   exact (may_num wf.ok (hv h)).2
 ·rw[if_neg h] at hr
  exact wf.ok.rf n hn r hr
theorem setO_fields {M:Hp} (wf:HpWf M) (n i v:Nat) (hv:i<(ob M n).refs.length→mayM M v=true):(mix M [] 0 n).set i v=(setO M n i v).refs.map (refW M)++(setO M n i v).raws:=by
 rw[mix_zero]
 unfold setO
 by_cases h:i<(ob M n).refs.length
 ·rw[if_pos h,List.set_append_left _ _ (by rw[List.length_map];exact h)]
  show _=List.map (refW M) ((ob M n).refs.set i (numOf M v))++(ob M n).raws
  rw[List.map_set,(may_num wf.ok (hv h)).1]
 ·rw[if_neg h,List.set_append_right _ _ (by rw[List.length_map];omega),List.length_map]
def setM (M:Hp) (x:Nat) (i:Int) (v:Nat):Hp × Nat:=
 if numOf M x=0 then (M,32)
 else if 0≤i∧i<((ob M (numOf M x)).refs.length:Nat)∧mayM M v=false then (M,32)
 else if 0≤i∧i<((fldM M (numOf M x)).length:Nat) then (putO M (numOf M x) (setO M (numOf M x) i.toNat v),0) else (M,33)
theorem HAt.still' {w w':World}{ph:Nat}{tag:Nat→Nat}{M:Hp}{H:HC} (h:HAt w ph tag M H) (k:Below w.heap.size w w'):∃ H',HAt w' ph tag M H'∧Fr tag tag w w':=
 ⟨H,h.still k,⟨k.os,k.tape,k.output,k.size,fun g hg e=>⟨k.block g hg,e⟩⟩⟩
theorem hset_any {w:World}{ph:Nat}{tag:Nat→Nat}{M:Hp}{H:HC} (h:HAt w ph tag M H) (x:Nat) (hx:x<18446744073709551616) (i:Int) (v:Nat) (hv:v<18446744073709551616):
  Calls Tryz.prog 61 #[.pointer (some ⟨ph,0,none⟩),.int .u64 (x:Nat),.int .i64 i,.int .u64 (v:Nat)] w fun e w'=>e=.returned (.int .i64 ((setM M x i v).2:Nat))∧∃ H',HAt w' ph tag (setM M x i v).1 H'∧Fr tag tag w w':=by
 rcases found_any h x hx with ⟨t,q,a,R,j,f⟩|⟨h0,⟨ho,hA,hno⟩|hn⟩
 ·obtain ⟨ws,hs,us,hA,r,o⟩:=f.ar
  have e0:(robj R (place R.L j:Nat)).2.2.2=0:=by rw[f.obj]
  have e1:(robj R (place R.L j:Nat)).2.1=(ob M (numOf M x)).refs.length:=by rw[f.obj]
  unfold setM
  rw[if_neg f.i0]
  by_cases hb:0≤i∧i<((ob M (numOf M x)).refs.length:Nat)∧mayM M v=false
  ·rw[if_pos hb]
   refine (hset_noref f.ho hA r o e0 hb.1 (by rw[e1];exact hb.2.1) (fun W k=>?_)).mono ?_
   ·have:=may_any (h.still k) v hv
    rw[hb.2.2] at this
    exact this
   ·rintro e w' ⟨rfl,kb⟩
    exact ⟨rfl,h.still' kb⟩
  ·rw[if_neg hb]
   have hor:¬ (0≤i∧i<((robj R (place R.L j:Nat)).2.1:Nat))∨∀ W,Below w.heap.size w W→Calls Tryz.prog 41 #[.pointer (some ⟨ph,0,none⟩),.int .u64 (v:Nat)] W fun e w'=>e=.returned (.bool true)∧Below W.heap.size W w':=by
    rw[e1]
    by_cases hi:0≤i∧i<((ob M (numOf M x)).refs.length:Nat)
    ·right
     intro W k
     have hm:mayM M v=true:=by
      cases hm:mayM M v with
      | true=>rfl
      | false=>exact absurd ⟨hi.1,hi.2,hm⟩ hb
     have:=may_any (h.still k) v hv
     rw[hm] at this
     exact this
    ·exact .inl hi
   have he:rsetErr R (place R.L j:Nat) i=if 0≤i∧i<((fldM M (numOf M x)).length:Nat) then 0 else 24:=by
    unfold rsetErr
    rw[f.get]
    split <;> rfl
   refine (hset_yes f.ho hA r o hv e0 hor).mono ?_
   rintro e w' ⟨rfl,w0,kb,kk,ws',hA',k1,k2⟩
   by_cases hi:0≤i∧i<((fldM M (numOf M x)).length:Nat)
   ·rw[if_pos hi] at he ⊢
    rw[he]
    refine ⟨rfl,?_⟩
    obtain ⟨m,rfl⟩:=Int.eq_ofNat_of_zero_le hi.1
    have hmf:m<fldsOf R.L j:=by
     have:fldsOf R.L j=(fldM M (numOf M x)).length:=by
      unfold fldsOf fldM
      rw[f.sh,List.length_append,List.length_map]
      rfl
     have:=hi.2
     omega
    have hR:=k2 he j m f.hj rfl rfl hmf
    have hmay:m<(ob M (numOf M x)).refs.length→mayM M v=true:=fun hm=>by
     cases hm':mayM M v with
     | true=>rfl
     | false=>exact absurd ⟨hi.1,by omega,hm'⟩ hb
    have hAR:ArR w' a (R.put j m v):=⟨ws',hs,us,hA',hR,o.put j m v hv⟩
    unfold RefSt.put at hAR
    rw[f.fl,setO_fields h.wf _ _ _ hmay] at hAR
    exact h.putO f (setO M (numOf M x) m v) (setO_same M _ _ _) (setO_refs h.wf f.is _ _ hmay) kb kk hAR
   ·rw[if_neg hi] at he ⊢
    rw[he]
    refine ⟨rfl,?_⟩
    have:=k1 (by rw[he];decide)
    subst this
    exact h.sameA f kb kk ⟨_,hs,us,hA',r,o⟩
 ·obtain ⟨ws,hs,us,hA,r,o⟩:=hA
  have e:setM M x i v=(M,32):=if_pos h0
  rw[e]
  refine (hset_noobj (v:=v) (i:=i) ho hA r o (by rw[robj_no hno];decide)).mono ?_
  rintro e w' ⟨rfl,kb⟩
  rw[robj_no hno]
  exact ⟨rfl,h.still' kb⟩
 ·have e:setM M x i v=(M,32):=if_pos h0
  rw[e]
  refine (hset_none hn).mono ?_
  rintro e w' ⟨rfl,kb⟩
  exact ⟨rfl,h.still' kb.below⟩
def tagRt (tag:Nat→Nat) (vc vf:Value):Nat→Nat:=tagAt (tagAt tag vc 4) vf 4
theorem HRaw.poolH {w w':World}{ph:Nat}{tag:Nat→Nat}{H:HC} (h:HRaw w ph tag H) {c':List (Option Nat)}{fr':List Nat}{vc' vf':Value} (p:PoolAt w' ph 6 148 encU (.int .u64 0) c' fr' vc' vf') (hvc:Own2 w H.vcH vc') (hvf:Own2 w H.vfH vf') (hs:w.heap.size≤w'.heap.size)
  (hb:∀ g,g<w.heap.size→tag g≠1→tag g≠4→w'.heap[g]?=w.heap[g]?) (hcc:∀ q,q≠6→q≠7→q≠8→w'.cell? ⟨ph,q,none⟩=w.cell? ⟨ph,q,none⟩) (hff:∀ q,w'.frozen? ⟨ph,q,none⟩=w.frozen? ⟨ph,q,none⟩):
  HRaw w' ph (tagRt tag vc' vf') { H with cH:=c',frH:=fr',vcH:=vc',vfH:=vf' }∧∀ g,g<w.heap.size→tagRt tag vc' vf' g=tag g:=by
 have t1:=tagAt_same (by decide) h.tH.1 hvc
 have ht:∀ g,g<w.heap.size→tagRt tag vc' vf' g=tag g:=fun g hg=>by
  unfold tagRt
  rw[tagAt_same (tag:=tagAt tag vc' 4) (v:=H.vfH) (by decide) (fun g' e=>by rw[t1 g' (h.pH.frl.lt g' e)];exact h.tH.2 g' e) hvf g hg]
  exact t1 g hg
 have hk:∀ g n,n≠0→tag g=n→tagRt tag vc' vf' g=n:=fun g n hn e=>(ht g (h.un g (by omega))).trans e
 have hg:∀ n g,n≠0→n≠1→n≠4→tag g=n→w'.heap[g]?=w.heap[g]?:=fun n g h0 h1 h4 e=>hb g (h.un g (by omega)) (by omega) (by omega)
 refine ⟨{
  n0:=(hcc 0 (by omega) (by omega) (by omega)).trans h.n0,n1:=(hcc 1 (by omega) (by omega) (by omega)).trans h.n1,n2:=(hcc 2 (by omega) (by omega) (by omega)).trans h.n2
  n9:=(hcc 9 (by omega) (by omega) (by omega)).trans h.n9,n10:=(hcc 10 (by omega) (by omega) (by omega)).trans h.n10,n11:=(hcc 11 (by omega) (by omega) (by omega)).trans h.n11,n12:=(hcc 12 (by omega) (by omega) (by omega)).trans h.n12,n13:=(hcc 13 (by omega) (by omega) (by omega)).trans h.n13
  fz:=fun i hi=>(hff i).trans (h.fz i hi)
  pB:=h.pB.conf (fun q q1 q2=>hcc q (by omega) (by omega) (by omega)) hff (fun g e=>hg 5 g (by omega) (by omega) (by omega) (h.tB.1 g e)) (fun g e=>hg 5 g (by omega) (by omega) (by omega) (h.tB.2 g e))
  pH:=p
  hA:=h.hA.conf hs (hg 2 _ (by omega) (by omega) (by omega) h.tA.1) (hg 2 _ (by omega) (by omega) (by omega) h.tA.2.1) (hg 2 _ (by omega) (by omega) (by omega) h.tA.2.2)
  hS:=h.hS.conf hs (hg 3 _ (by omega) (by omega) (by omega) h.tS.1) (hg 3 _ (by omega) (by omega) (by omega) h.tS.2.1) (hg 3 _ (by omega) (by omega) (by omega) h.tS.2.2)
  bB:=fun s b2 e2=>by
   have t:=h.tK s b2 e2
   exact (h.bB s b2 e2).conf hs (hg (8+s) _ (by omega) (by omega) (by omega) t.1) (hg (8+s) _ (by omega) (by omega) (by omega) t.2.1) (hg (8+s) _ (by omega) (by omega) (by omega) t.2.2.1) (hg (8+s) _ (by omega) (by omega) (by omega) t.2.2.2)
  t1:=hk _ _ (by decide) h.t1
  tA:=⟨hk _ _ (by decide) h.tA.1,hk _ _ (by decide) h.tA.2.1,hk _ _ (by decide) h.tA.2.2⟩
  tS:=⟨hk _ _ (by decide) h.tS.1,hk _ _ (by decide) h.tS.2.1,hk _ _ (by decide) h.tS.2.2⟩
  tB:=⟨fun g e=>hk _ _ (by decide) (h.tB.1 g e),fun g e=>hk _ _ (by decide) (h.tB.2 g e)⟩
  tH:=by
   refine ⟨fun g e=>?_,fun g e=>?_⟩
   ·have e':vc'.ownBlock=some g:=e
    unfold tagRt tagAt
    by_cases q:vf'.ownBlock=some g
    ·rw[if_pos q]
    ·rw[if_neg q,if_pos e']
   ·unfold tagRt
    unfold tagAt
    exact if_pos e
  tK:=fun s b2 e2=>by
   have t:=h.tK s b2 e2
   exact ⟨hk _ _ (by omega) t.1,hk _ _ (by omega) t.2.1,hk _ _ (by omega) t.2.2.1,hk _ _ (by omega) t.2.2.2⟩
  tN:=h.tN
  un:=fun g e=>by
   unfold tagRt tagAt at e
   split at e
   ·rename_i q;exact p.frl.lt g q
   ·split at e
    ·rename_i q;exact p.row.lt g q
    ·exact Nat.lt_of_lt_of_le (h.un g e) hs },ht⟩
theorem roots_wf {M:Hp} (wf:HpWf M) (r':List (Option Nat)) (hr:∀ i,some i∈r'→i=0∨Is M i):HpWf { M with roots:=r' }:=by
 have ok:=wf.ok
 exact { ok:={ sm:=ok.sm,s1:=ok.s1,b1:=ok.b1,rf:=ok.rf,rt:=hr,us:=ok.us,u2:=ok.u2,h2:=ok.h2,sl:=ok.sl },ln:=wf.ln,lg:=wf.lg,kp:=wf.kp,lm:=wf.lm,h1:=wf.h1,l2:=wf.l2,ss:=wf.ss,sb:=wf.sb }
theorem HAt.poolH {w w':World}{ph:Nat}{tag:Nat→Nat}{M:Hp}{H:HC} (h:HAt w ph tag M H) (r':List (Option Nat)) (hr:∀ i,some i∈r'→i=0∨Is M i) {c':List (Option Nat)}{fr':List Nat}{vc' vf':Value} (p:PoolAt w' ph 6 148 encU (.int .u64 0) c' fr' vc' vf') (hvc:Own2 w H.vcH vc') (hvf:Own2 w H.vfH vf')
  (hk:w'.os=w.os∧w'.tape=w.tape∧w'.output=w.output∧w.heap.size≤w'.heap.size) (hb:∀ g,g<w.heap.size→tag g≠1→tag g≠4→w'.heap[g]?=w.heap[g]?) (hcc:∀ q,q≠6→q≠7→q≠8→w'.cell? ⟨ph,q,none⟩=w.cell? ⟨ph,q,none⟩) (hff:∀ q,w'.frozen? ⟨ph,q,none⟩=w.frozen? ⟨ph,q,none⟩)
  (hc:∀ x,c'.getD x none=(r'.getD x none).map (refW M)) (hl:c'.length≤r'.length∧∀ q∈fr',q<r'.length):∃ tag' H',HAt w' ph tag' { M with roots:=r' } H'∧Fr tag tag' w w':=by
 obtain ⟨hraw,ht⟩:=h.raw.poolH p hvc hvf hk.2.2.2 hb hcc hff
 exact ⟨_,_,{ raw:=hraw,wf:=roots_wf h.wf r' hr,nL:=h.nL,nG:=h.nG,nK:=h.nK,nM:=h.nM,nC:=h.nC,nR:=h.nR,A:=h.A,S:=h.S,cB:=h.cB,bk:=h.bk,re:=h.re,cH:=hc,lB:=h.lB,lH:=hl },⟨hk.1,hk.2.1,hk.2.2.1,hk.2.2.2,fun g hg e=>⟨hb g hg (by omega) (by omega),(ht g hg).trans e⟩⟩⟩
theorem PChg.blk {ph:Nat}{vc vf:Value}{w w':World}{tag:Nat→Nat} (c:PChg ph 6 vc vf w w') (h1:tag ph=1) (n:Nat) (hc:∀ g,g<n→vc.ownBlock=some g→tag g=4) (hf:∀ g,g<n→vf.ownBlock=some g→tag g=4) (hn:n≤w.heap.size):∀ g,g<n→tag g≠1→tag g≠4→w'.heap[g]?=w.heap[g]?:=fun g hg t1 t4=>
 c.but.block g (by omega) (fun hm=>by
  rcases List.mem_cons.1 hm with q|q
  ·exact t1 (by rw[q];exact h1)
  ·rcases List.mem_append.1 q with q|q
   ·exact t4 (hc g hg (mem_gB.1 q))
   ·exact t4 (hf g hg (mem_gB.1 q)))
def handR (M:Hp) (n:Int):Option Nat:=poolGet M.roots (n-1)
theorem HAt.hand {w:World}{ph:Nat}{tag:Nat→Nat}{M:Hp}{H:HC} (h:HAt w ph tag M H) (n:Int):handGet H.cH n=(handR M n).map (refW M):=by
 unfold handGet handR poolGet
 split
 ·exact h.cH _
 ·rfl
theorem hatM_any {w:World}{ph:Nat}{tag:Nat→Nat}{M:Hp}{H:HC} (h:HAt w ph tag M H) (n:Int) (h1:-9223372036854775808≤n) (h2:n≤9223372036854775807):
  Calls Tryz.prog 37 #[.pointer (some ⟨ph,0,none⟩),.int .i64 n] w fun e w'=>e=.returned (.tuple #[.int .u64 ((((handR M n).map (refW M)).getD 0:Nat):Int),.int .i64 (if (handR M n).isSome then (0:Int) else 35)])∧Below w.heap.size w w':=by
 refine (hat_any h.raw.pH n h1 h2).mono ?_
 rintro e w' ⟨rfl,k⟩
 rw[h.hand]
 refine ⟨?_,k.below⟩
 cases handR M n <;> rfl
def LowR (M:Hp) (n:Nat):Prop:=M.roots.getD n none=none∧n≤M.roots.length∧∀ q,q<n→M.roots.getD q none≠none
def rootM (M:Hp) (n x:Nat):Hp:={ M with roots:=poolPut M.roots n (numOf M x) }
theorem poolPut_length (c:List (Option Nat)) (n x:Nat):(poolPut c n x).length=if n<c.length then c.length else c.length+1:=by
 unfold poolPut
 split
 ·rw[List.length_set]
 ·rw[List.length_append];rfl
theorem poolPut_mem {c:List (Option Nat)}{n x i:Nat} (h:some i∈poolPut c n x):i=x∨some i∈c:=by
 unfold poolPut at h
 split at h
 ·rcases List.mem_or_eq_of_mem_set h with e|e
  ·exact .inr e
  ·cases e;exact .inl rfl
 ·rcases List.mem_append.1 h with e|e
  ·exact .inr e
  ·have:=List.mem_singleton.1 e
   cases this
   exact .inl rfl
theorem hrootM_yes {w:World}{ph:Nat}{tag:Nat→Nat}{M:Hp}{H:HC} (h:HAt w ph tag M H) (hl:M.roots.length<1000000) (x:Nat) (hx:x<18446744073709551616) (hm:mayM M x=true):
  Calls Tryz.prog 15 #[.pointer (some ⟨ph,0,none⟩),.int .u64 (x:Nat)] w fun e w'=>∃ (n:Nat),∃ tag' H',e=.returned (.tuple #[.int .i64 (1+(n:Int)),.int .i64 0])∧LowR M n∧HAt w' ph tag' (rootM M n x) H'∧Fr tag tag' w w':=by
 have hmay:=may_any h x hx
 rw[hm] at hmay
 have hlH:=h.lH
 refine (hroot_yes h.raw.pH (by omega) (fun q hq=>by have:=hlH.2 q hq;omega) hmay).mono ?_
 rintro e w' ⟨n,rfl,c0,cq,cl,fr',vc',vf',w0,kb,p,pf,pl,ov,of',w1,c1,c2⟩
 have hnone:∀ q,H.cH.getD q none=none↔M.roots.getD q none=none:=fun q=>by
  rw[h.cH q]
  cases M.roots.getD q none <;> simp
 have hnum:=may_num h.wf.ok hm
 have ov':Own2 w H.vcH vc':=fun g e=>(ov g e).imp id (fun q=>Nat.le_trans kb.size q)
 have hnl:n≤M.roots.length:=by omega
 have b1:=c1.blk h.raw.t1 w.heap.size (fun g _=>h.raw.tH.1 g) (fun g _=>h.raw.tH.2 g) kb.size
 have b2:=c2.blk h.raw.t1 w.heap.size (fun g hg e=>by
  rcases ov' g e with q|q
  ·exact h.raw.tH.1 g q
  ·omega) (fun g _ e=>h.raw.tH.2 g (of' g e)) (Nat.le_trans kb.size c1.but.size)
 have hphl:ph<w.heap.size:=h.raw.un ph (by rw[h.raw.t1];decide)
 have hp0:=kb.block ph hphl
 obtain ⟨tag',H',hh,hfr⟩:=h.poolH (w':=w') (poolPut M.roots n (numOf M x)) (fun i hi=>by
   rcases poolPut_mem hi with e|e
   ·subst e;exact hnum.2
   ·exact h.wf.ok.rt i e) p ov' (fun g e=>.inl (of' g e))
  ⟨c2.but.os.trans (c1.but.os.trans kb.os),c2.but.tape.trans (c1.but.tape.trans kb.tape),c2.but.output.trans (c1.but.output.trans kb.output),Nat.le_trans kb.size (Nat.le_trans c1.but.size c2.but.size)⟩
  (fun g hg t1 t4=>(b2 g hg t1 t4).trans ((b1 g hg t1 t4).trans (kb.block g hg)))
  (fun q q1 q2 q3=>(c2.cell q q1 q2 q3).trans ((c1.cell q q1 q2 q3).trans (cell_like hp0 q)))
  (fun q=>(c2.froz q).trans ((c1.froz q).trans (froz_like hp0 q)))
  (fun y=>by
   rw[poolPut_at _ _ _ _ cl,poolPut_at _ _ _ _ hnl]
   by_cases hy:y=n
   ·rw[if_pos hy,if_pos hy]
    show _=some (refW M (numOf M x))
    rw[hnum.1]
   ·rw[if_neg hy,if_neg hy]
    exact h.cH y)
  (by
   rw[poolPut_length,poolPut_length]
   refine ⟨?_,fun q hq=>?_⟩
   ·split <;> split <;> omega
   ·have:=hlH.2 q (pf q hq)
    split <;> omega)
 exact ⟨n,tag',H',rfl,⟨(hnone n).1 c0,hnl,fun q hq e=>cq q hq ((hnone q).2 e)⟩,hh,hfr⟩
theorem elem_getD {α:Type} (l:List α) (d:α) (k:Nat) (h:k<l.length):l[k]=l.getD k d:=by
 rw[List.getD_eq_getElem?_getD,List.getElem?_eq_getElem h]
 rfl
def bytM (M:Hp) (i:Nat):List Nat:=Larder.unpackL (ob M i).raws (8*(ob M i).raws.length)
def spanM (M:Hp) (x:Nat) (from' n:Int):Nat:=if numOf M x=0 then 32 else if 0≤from'∧0≤n∧from'+n≤8*((ob M (numOf M x)).raws.length:Nat) then 0 else 33
theorem Found.raws {w:World}{ph:Nat}{M:Hp}{H:HC}{x i t q:Nat}{a:Nat × Nat × Nat}{R:RefSt}{j:Nat} (f:Found w ph M H x i t q a R j):rawsOf R j=(ob M i).raws:=by
 unfold rawsOf
 rw[f.fl,f.sh,mix_zero]
 show (((ob M i).refs.map (refW M))++(ob M i).raws).drop (ob M i).refs.length=_
 have:(ob M i).refs.length=((ob M i).refs.map (refW M)).length:=by rw[List.length_map]
 rw[this,List.drop_left]
theorem Found.byt {w:World}{ph:Nat}{M:Hp}{H:HC}{x i t q:Nat}{a:Nat × Nat × Nat}{R:RefSt}{j:Nat} (f:Found w ph M H x i t q a R j):rbyN R j=bytM M i:=by
 unfold rbyN bytM
 rw[f.raws,f.sh]
 rfl
theorem Found.span {w:World}{ph:Nat}{M:Hp}{H:HC}{x i t q:Nat}{a:Nat × Nat × Nat}{R:RefSt}{j:Nat} (f:Found w ph M H x i t q a R j) (from' n:Int):rspan R (place R.L j:Nat) from' n=if 0≤from'∧0≤n∧from'+n≤8*((ob M i).raws.length:Nat) then 0 else 25:=by
 unfold rspan
 rw[f.obj,if_neg (by simp)]
theorem hbytesM_yes {w:World}{ph:Nat}{tag:Nat→Nat}{M:Hp}{H:HC} (h:HAt w ph tag M H) (x:Nat) (hx:x<18446744073709551616) (from' n:Nat) (he:spanM M x (from':Nat) (n:Nat)=0):
  Calls Tryz.prog 77 #[.pointer (some ⟨ph,0,none⟩),.int .u64 (x:Nat),.int .i64 (from':Nat),.int .i64 (n:Nat)] w fun e w'=>∃ a cap,e=.returned (.tuple #[.slice a n cap,.int .i64 0])∧Span w' 5 (.slice a n cap) n (fun i=>.int .u8 ((bytM M (numOf M x)).getD (from'+i) 0:Nat))∧(∀ g,Value.ownBlock (.slice a n cap)=some g→w.heap.size≤g)∧Below w.heap.size w w':=by
 unfold spanM at he
 rcases found_any h x hx with ⟨t,q,a,R,j,f⟩|⟨h0,_⟩
 ·rw[if_neg f.i0] at he
  have hc:0≤(from':Int)∧0≤(n:Int)∧(from':Int)+(n:Nat)≤8*((ob M (numOf M x)).raws.length:Nat):=by
   by_cases q:0≤(from':Int)∧0≤(n:Int)∧(from':Int)+(n:Nat)≤8*((ob M (numOf M x)).raws.length:Nat)
   ·exact q
   ·rw[if_neg q] at he;cases he
  obtain ⟨ws,hs,us,hA,r,o⟩:=f.ar
  have eo:=r.obj o (place R.L j:Nat)
  rw[f.obj] at eo
  have hb:=hbytes_yes (m:=n) (from':=(from':Nat)) (n:=(n:Nat)) (G:=fun w' v=>Span w' 5 v n (fun i=>.int .u8 ((bytM M (numOf M x)).getD (from'+i) 0:Nat))∧(∀ g,v.ownBlock=some g→w.heap.size≤g)∧Below w.heap.size w w') f.ho (fun W k=>(bytes_span (place R.L j) from' n W (hA.below k.below) (r.sound o).heads (by rw[eo]) (by rw[eo];show from'+n≤8*(ob M (numOf M x)).raws.length;omega)).mono (fun e w' hh=>by
   obtain ⟨a',cap,e1,e2,e3,e4⟩:=hh
   rw[k.heap] at e3 e4
   refine ⟨a',cap,e1,e2.congr (fun i hi=>?_),e3,k.below.trans e4⟩
   rw[eo,← f.byt,← raw_both r j (from'+i) f.hj (by rw[f.sh];show from'+i<8*(ob M (numOf M x)).raws.length;omega),f.sh]
   rfl))
  exact hb
 ·rw[if_pos h0] at he;cases he
def layO (M:Hp) (i f:Nat) (l:List Nat):Ob:={ ob M i with raws:=Larder.packL (patch (bytM M i) f l) }
def setbM (M:Hp) (x:Nat) (from':Int) (l:List Nat):Hp:=if spanM M x from' l.length=0 then putO M (numOf M x) (layO M (numOf M x) from'.toNat l) else M
theorem fill_ok {R:RefSt} (o:RefOk R) (j:Nat) (hj:j<R.L.length) (l:List Nat) (hl:∀ k,l.getD k 0<18446744073709551616):∀ m,RefOk (R.fill j l m)
 | 0=>o
 | m+1=>(fill_ok o j hj l hl m).put j _ _ (hl m)
theorem fill_eq {R:RefSt} (o:RefOk R) (j:Nat) (hj:j<R.L.length) (l:List Nat) (hl:l.length=(R.L.getD j (0,0,0)).2.2):R.fill j l (R.L.getD j (0,0,0)).2.2 = { R with X:=R.X.set j ((R.X.getD j []).take (R.L.getD j (0,0,0)).2.1++l) }:=by
 obtain ⟨s1,s2,s3,s4,s5⟩:=fill_same R j l (R.L.getD j (0,0,0)).2.2
 obtain ⟨i1,i2,i3,i4⟩:=fill_x o j hj l _ (Nat.le_refl _)
 have hxl:(R.X.getD j []).length=fldsOf R.L j:=o.xs j hj
 have hjx:j<R.X.length:=by rw[o.xl];exact hj
 have hf:fldsOf R.L j=(R.L.getD j (0,0,0)).2.1+(R.L.getD j (0,0,0)).2.2:=rfl
 generalize hG:R.fill j l (R.L.getD j (0,0,0)).2.2=G at s1 s2 s3 s4 s5 i1 i2 i3 i4
 have hX:G.X=R.X.set j ((R.X.getD j []).take (R.L.getD j (0,0,0)).2.1++l):=by
  refine List.ext_getElem (by rw[List.length_set];exact i1) fun i h1 h2=>?_
  rw[List.length_set] at h2
  have g1:G.X[i]=G.X.getD i []:=by rw[List.getD_eq_getElem?_getD,List.getElem?_eq_getElem h1];rfl
  rw[g1,List.getElem_set]
  by_cases e:j=i
  ·subst e
   rw[if_pos rfl]
   refine List.ext_getElem (by rw[i2,List.length_append,List.length_take,hl];omega) fun k k1 k2=>?_
   have g2:(G.X.getD j [])[k]=(G.X.getD j []).getD k 0:=elem_getD _ _ _ k1
   rw[g2,i4 k]
   by_cases hk:k<(R.L.getD j (0,0,0)).2.1
   ·rw[if_neg (by omega),List.getElem_append_left (by rw[List.length_take];omega),List.getElem_take]
    exact (elem_getD _ _ _ _).symm
   ·rw[if_pos ⟨by omega,by omega⟩,List.getElem_append_right (by rw[List.length_take];omega)]
    have:min (R.L.getD j (0,0,0)).2.1 (R.X.getD j []).length=(R.L.getD j (0,0,0)).2.1:=by omega
    simp only[List.length_take,this]
    exact (elem_getD _ _ _ _).symm
  ·rw[if_neg e,i3 i (fun q=>e q.symm),List.getD_eq_getElem?_getD,List.getElem?_eq_getElem h2]
   rfl
 cases G
 cases R
 dsimp only at *
 subst s1;subst s2;subst s3;subst s4;subst s5
 rw[hX]
theorem lay_len (M:Hp) (i f:Nat) (l:List Nat):(Larder.packL (patch (bytM M i) f l)).length=(ob M i).raws.length:=by
 rw[Larder.packL_length,patch_length]
 unfold bytM
 rw[Larder.unpackL_length]
 unfold Larder.wn
 omega
theorem hsetbytesM_any {w:World}{ph:Nat}{tag:Nat→Nat}{M:Hp}{H:HC} (h:HAt w ph tag M H) (x:Nat) (hx:x<18446744073709551616) (from':Int) (hf1:from'≤9223372036854775807) (hf2:-9223372036854775808≤from') (l:List Nat) (a:Option Addr) (cap:Nat) (hB:Bytes w a l) (hsl:Small l):
  Calls Tryz.prog 62 #[.pointer (some ⟨ph,0,none⟩),.int .u64 (x:Nat),.int .i64 from',.slice a l.length cap] w fun e w'=>e=.returned (.int .i64 (spanM M x from' l.length:Nat))∧∃ H',HAt w' ph tag (setbM M x from' l) H'∧Fr tag tag w w':=by
 rcases found_any h x hx with ⟨t,q,a',R,j,f⟩|⟨h0,⟨ho,hA,hno⟩|hn⟩
 ·obtain ⟨ws,hs,us,hA,r,o⟩:=f.ar
  refine (hsetbytes_any f.ho hA r o l a cap hf1 hf2 hB hsl).mono ?_
  rintro e w' ⟨rfl,w0,k0,kk,ws',hA',k1,k2⟩
  have hkk:But [a'.1,a'.2.1,a'.2.2] w0 w':=kk
  by_cases hc:0≤from'∧0≤(l.length:Int)∧from'+(l.length:Nat)≤8*((ob M (numOf M x)).raws.length:Nat)
  ·have es:spanM M x from' l.length=0:=by unfold spanM;rw[if_neg f.i0,if_pos hc]
   have er:rspan R (place R.L j:Nat) from' l.length=0:=by rw[f.span,if_pos hc]
   have em:setbM M x from' l=putO M (numOf M x) (layO M (numOf M x) from'.toNat l):=if_pos es
   rw[es,er,em]
   refine ⟨rfl,?_⟩
   obtain ⟨m,rfl⟩:=Int.eq_ofNat_of_zero_le hc.1
   have hW:=k2 er j m f.hj rfl rfl
   have hn:m+l.length≤8*(R.L.getD j (0,0,0)).2.2:=by rw[f.sh];show m+l.length≤8*(ob M (numOf M x)).raws.length;omega
   have hR:=r.fill o j m l f.hj hsl hn (fun i hi=>hA'.small i hi) hW
   have hps:Larder.SmallL (patch (rbyN R j) m l):=patch_below 256 _ _ _ (Larder.unpackL_small _ _) hsl
   have hpl:∀ k,(Larder.packL (patch (rbyN R j) m l)).getD k 0<18446744073709551616:=fun k=>by rw[← Larder.packK_all];exact Larder.packK_lt hps _ _
   have hAR:ArR w' a' _:=⟨ws',hs,us,hA',hR,fill_ok o j f.hj _ hpl _⟩
   have hll:(Larder.packL (patch (rbyN R j) m l)).length=(R.L.getD j (0,0,0)).2.2:=by rw[f.byt,lay_len,f.sh];rfl
   rw[fill_eq o j f.hj _ hll,f.byt,f.fl,f.sh,mix_zero] at hAR
   have ht:((ob M (numOf M x)).refs.map (refW M)++(ob M (numOf M x)).raws).take (shp (ob M (numOf M x))).2.1=(ob M (numOf M x)).refs.map (refW M):=by
    show List.take (ob M (numOf M x)).refs.length _=_
    have:(ob M (numOf M x)).refs.length=((ob M (numOf M x)).refs.map (refW M)).length:=by rw[List.length_map]
    rw[this,List.take_left]
   rw[ht] at hAR
   exact h.putO f (layO M (numOf M x) m l) ⟨rfl,rfl,lay_len M _ m l,rfl,rfl⟩ (h.wf.ok.rf _ f.is) k0.below hkk hAR
  ·have es:spanM M x from' l.length=33:=by unfold spanM;rw[if_neg f.i0,if_neg hc]
   have er:rspan R (place R.L j:Nat) from' l.length=25:=by rw[f.span,if_neg hc]
   have em:setbM M x from' l=M:=if_neg (by rw[es];decide)
   rw[es,er,em]
   refine ⟨rfl,?_⟩
   have:=k1 (by rw[er];decide)
   subst this
   exact h.sameA f k0.below hkk ⟨_,hs,us,hA',r,o⟩
 ·obtain ⟨ws,hs,us,hA,r,o⟩:=hA
  have es:spanM M x from' l.length=32:=if_pos h0
  have er:rspan (midA M []) (x:Nat) from' l.length=23:=by unfold rspan;rw[robj_no hno,if_pos (by simp)]
  have em:setbM M x from' l=M:=if_neg (by rw[es];decide)
  refine (hsetbytes_any ho hA r o l a cap hf1 hf2 hB hsl).mono ?_
  rintro e w' ⟨rfl,w0,k0,kk,ws',hA',k1,k2⟩
  rw[es,er,em]
  refine ⟨rfl,?_⟩
  have:=k1 (by rw[er];decide)
  subst this
  have hA2:ArR w' H.a (midA M []):=⟨_,hs,us,hA',r,o⟩
  have hkk:But [H.a.1,H.a.2.1,H.a.2.2] w0 w':=kk
  have tA:=h.raw.tA
  have hbl:∀ g,g<w.heap.size→g≠H.a.1→g≠H.a.2.1→g≠H.a.2.2→w'.heap[g]?=w.heap[g]?:=fun g hg e1 e2 e3=>(hkk.block g (Nat.lt_of_lt_of_le hg k0.below.size) (by simp [e1,e2,e3])).trans (k0.below.block g hg)
  have hraw:=h.raw.turn [2] (by decide) (by decide) (Nat.le_trans k0.below.size hkk.size) (fun g h0 h2=>hbl g (h.raw.un g h0) (by rintro rfl;exact h2 (by rw[tA.1];decide)) (by rintro rfl;exact h2 (by rw[tA.2.1];decide)) (by rintro rfl;exact h2 (by rw[tA.2.2];decide)))
   (midA M []) H.S H.cH H.bk H.re (.inr hA2) (.inl ⟨by decide,rfl⟩) (.inl ⟨by decide,rfl⟩) (fun s' bp' _=>.inl ⟨by simp;omega,rfl,rfl⟩)
  exact ⟨_,{ raw:=hraw,wf:=h.wf,nL:=h.nL,nG:=h.nG,nK:=h.nK,nM:=h.nM,nC:=h.nC,nR:=h.nR,A:=rfl,S:=h.S,cB:=h.cB,bk:=h.bk,re:=h.re,cH:=h.cH,lB:=h.lB,lH:=h.lH },⟨hkk.os.trans k0.below.os,hkk.tape.trans k0.below.tape,hkk.output.trans k0.below.output,Nat.le_trans k0.below.size hkk.size,fun g hg e=>⟨hbl g hg (by rintro rfl;omega) (by rintro rfl;omega) (by rintro rfl;omega),e⟩⟩⟩
 ·have es:spanM M x from' l.length=32:=if_pos h0
  have em:setbM M x from' l=M:=if_neg (by rw[es];decide)
  rw[es,em]
  refine (hsetbytes_none hn).mono ?_
  rintro e w' ⟨rfl,k⟩
  exact ⟨rfl,h.still' k.below⟩
theorem num_back {M:Hp} (ok:HpOk M) {i:Nat} (h:Is M i):numOf M (refW M i)=i∧refW M i<18446744073709551616∧refW M i≠0:=by
 rcases h with h|⟨h0,h⟩
 ·obtain ⟨j,hj,e⟩:=List.getElem_of_mem h
  have q:=ok.s1 i h
  have hg:M.small.getD j 0=i:=by rw[List.getD_eq_getElem?_getD,List.getElem?_eq_getElem hj,e];rfl
  have ha:addr M M.small i=place (shapes M M.small) j:=by rw[← hg,addr_at M _ ok.sm j hj]
  have hr:refW M i=place (shapes M M.small) j:=by
   unfold refW
   rw[if_neg q.1,if_neg (by rw[q.2.1];decide),q.2.2,ha]
  have hp:place (shapes M M.small) j≤1048576:=by
   have h1:=place_le (shapes M M.small) (i:=j) (j:=M.small.length) (by omega)
   have h2:=ok.us
   have h3:=ok.u2
   have h4:=ok.h2
   omega
  have h1:=place_pos (shapes M M.small) j
  rw[hr]
  refine ⟨?_,by omega,by omega⟩
  unfold numOf
  rw[if_pos (by unfold topW;omega),findJ_yes (j:=j) (by rw[shapes_length];exact hj) rfl]
  exact hg
 ·obtain ⟨s,hs,e⟩:=mem_slot h
  have hs0:M.slots.getD s 0≠0:=by rw[e];exact h0
  have q:=ok.b1 s hs0
  rw[e] at q
  have hr:refW M i=topW+s:=by
   unfold refW
   rw[if_neg h0,if_pos q.1,q.2]
  have hl:=ok.sl
  rw[hr]
  refine ⟨?_,by unfold topW;omega,by unfold topW;omega⟩
  unfold numOf
  rw[if_neg (by omega),Nat.add_sub_cancel_left]
  exact e
def dat (o:Ob):Nat × List Nat × List Nat:=(o.kind,o.refs,o.raws)
structure Gr (M:Hp) (ns:List (Nat × List Nat × List Nat)):Prop where
 ln:ns.length=M.objs.length
 dt:∀ i,Is M i→ns.getD i (0,[],[])=dat (ob M i)
theorem Gr.same {M N:Hp}{ns:List (Nat × List Nat × List Nat)} (g:Gr M ns) (e1:N.objs=M.objs) (e2:N.small=M.small) (e3:N.slots=M.slots):Gr N ns:=by
 refine ⟨by rw[e1];exact g.ln,fun i hi=>?_⟩
 have hi':Is M i:=by unfold Is at hi ⊢;rw[e2,e3] at hi;exact hi
 rw[g.dt i hi']
 unfold ob
 rw[e1]
theorem coll_is {M:Hp}{k:Wk} (f:Fin' M k) {i:Nat} (h:Is (collM M k) i):i∈k.cop∨i∈k.lin:=by
 rcases h with h|⟨h0,h⟩
 ·exact .inl h
 ·obtain ⟨j,hj,e⟩:=List.mem_map.1 h
  by_cases q:j∈k.lin
  ·rw[if_pos q] at e;exact .inr (e ▸ q)
  ·rw[if_neg q] at e;exact absurd e.symm h0
theorem Gr.coll {M M':Hp}{ns:List (Nat × List Nat × List Nat)} (wf:HpWf M) (g:Gr M ns) (h:IsColl M M'):Gr M' ns:=by
 refine ⟨by rw[h.nums.2.2.2.2.2];exact g.ln,fun i hi=>?_⟩
 obtain ⟨t,a1,a2,f,rfl⟩:=h
 have q:=coll_is f hi
 rw[g.dt i (f.is q)]
 obtain ⟨p1,p2,p3,_⟩:=f.parts wf q
 unfold dat
 rw[p1,p2,p3]
theorem fitM_small (M:Hp) (s:Nat):(fitM M s).small=M.small:=by
 unfold fitM becM
 split
 ·split
  ·split <;> rfl
  ·rfl
 ·split
  ·split <;> rfl
  ·rfl
theorem Gr.fit {M:Hp}{ns:List (Nat × List Nat × List Nat)} (g:Gr M ns) (s:Nat):Gr (fitM M s) ns:=by
 obtain ⟨e1,_,_,_,e5⟩:=fitM_objs M s
 exact g.same e1 (fitM_small M s) e5
theorem Gr.bec {M:Hp}{ns:List (Nat × List Nat × List Nat)} (g:Gr M ns) (n:Nat):Gr (becM M n) ns:=by
 obtain ⟨e1,_,_,_,e5,_,_,e8,_⟩:=becM_parts M n
 exact g.same e1 e8 e5
theorem addS_is {M:Hp}{k r s i:Nat} (h:Is (addS M k r s) i):i=M.objs.length∨Is M i:=by
 rcases h with h|h
 ·rcases List.mem_append.1 h with q|q
  ·exact .inr (.inl q)
  ·exact .inl (List.mem_singleton.1 q)
 ·exact .inr (.inr h)
theorem addL_is {M:Hp}{k r s n i:Nat} (h:Is (addL M k r s n) i):i=M.objs.length∨Is M i:=by
 rcases h with h|⟨h0,h⟩
 ·exact .inr (.inl h)
 ·have h':i∈(if n<M.slots.length then M.slots.set n M.objs.length else M.slots ++ [M.objs.length]):=h
  split at h'
  ·rcases List.mem_or_eq_of_mem_set h' with q|q
   ·exact .inr (.inr ⟨h0,q⟩)
   ·exact .inl q
  ·rcases List.mem_append.1 h' with q|q
   ·exact .inr (.inr ⟨h0,q⟩)
   ·exact .inl (List.mem_singleton.1 q)
theorem Gr.more {M N:Hp}{ns:List (Nat × List Nat × List Nat)} (hl:∀ i,Is M i→i<M.objs.length) (g:Gr M ns) (x:Ob) (e1:N.objs=M.objs ++ [x]) (hi:∀ i,Is N i→i=M.objs.length∨Is M i):Gr N (ns ++ [dat x]):=by
 refine ⟨by rw[e1,List.length_append,List.length_append,g.ln];rfl,fun i h=>?_⟩
 rw[getD_snoc,g.ln]
 rcases hi i h with rfl|q
 ·rw[if_neg (Nat.lt_irrefl _),if_pos rfl,ob_new e1]
 ·have:=hl i q
  rw[if_pos this,g.dt i q,ob_old e1 this]
structure Kept2 (M M1:Hp):Prop where
 ln:∀ i,Is M1 i→i<M1.objs.length
 len:M1.objs.length=M.objs.length
 rt:M1.roots=M.roots
 gr:∀ ns,Gr M ns→Gr M1 ns
theorem Kept2.refl {M:Hp} (wf:HpWf M):Kept2 M M:=⟨wf.ln,rfl,rfl,fun _ g=>g⟩
theorem Kept2.fit {M M0:Hp} (wf:HpWf M) (h:IsColl M M0) (s:Nat):Kept2 M (fitM M0 s):=by
 obtain ⟨e1,e2,_,_,e5⟩:=fitM_objs M0 s
 have e8:=fitM_small M0 s
 have hwf:HpWf M0:=by
  obtain ⟨t,_,_,f,rfl⟩:=h
  exact f.wf wf
 refine ⟨fun i hi=>?_,by rw[e1,h.nums.2.2.2.2.2],by rw[e2,h.nums.2.2.2.2.1],fun ns g=>(g.coll wf h).fit s⟩
 rw[e1]
 exact hwf.ln i (by unfold Is at hi ⊢;rw[e8,e5] at hi;exact hi)
theorem Kept2.bec {M M1:Hp} (k:Kept2 M M1) (n:Nat):Kept2 M (becM M1 n):=by
 obtain ⟨e1,e2,_,_,e5,_,_,e8,_⟩:=becM_parts M1 n
 refine ⟨fun i hi=>?_,by rw[e1];exact k.len,by rw[e2];exact k.rt,fun ns g=>(k.gr ns g).bec n⟩
 rw[e1]
 exact k.ln i (by unfold Is at hi ⊢;rw[e8,e5] at hi;exact hi)
theorem AllocR.gr {M M':Hp}{k r s v x:Nat} (wf:HpWf M) (h1:1≤M.objs.length) (h:AllocR M k r s M' v x):M'.roots=M.roots∧
  ((x=0∧M'.objs.length=M.objs.length+1∧refW M' M.objs.length=v∧Is M' M.objs.length∧∀ ns,Gr M ns→Gr M' (ns ++ [(k,List.replicate r 0,List.replicate s 0)]))∨(x=31∧v=0∧M'.objs.length=M.objs.length∧∀ ns,Gr M ns→Gr M' ns)):=by
 rcases h with ⟨hs,M1,hp,h⟩|⟨hs,M1,hp,h⟩
 ·have kk:Kept2 M M1:=by
   rcases hp with ⟨_,rfl⟩|⟨_,M0,hc,rfl⟩
   ·exact .refl wf
   ·exact .fit wf hc _
  rcases h with ⟨a,rfl,rfl,rfl⟩|⟨a,rfl,rfl,rfl⟩
  ·refine ⟨kk.rt,.inl ⟨rfl,?_,?_,?_,fun ns g=>(kk.gr ns g).more kk.ln (newOb k r s false M1.used) rfl fun i hi=>addS_is hi⟩⟩
   ·show (M1.objs ++ [_]).length=_
    rw[List.length_append,kk.len];rfl
   ·unfold refW
    rw[← kk.len,if_neg (by rw[kk.len];omega),ob_new (M:=M1) (M':=addS M1 k r s) rfl]
    rfl
   ·left
    show _∈M1.small ++ [M1.objs.length]
    rw[kk.len]
    exact List.mem_append_right _ List.mem_cons_self
  ·exact ⟨kk.rt,.inr ⟨rfl,rfl,kk.len,kk.gr⟩⟩
 ·have kk:Kept2 M M1:=by
   rcases hp with ⟨_,_,rfl⟩|⟨_,M0,hc,rfl⟩
   ·exact .refl wf
   ·exact .fit wf hc _
  rcases h with ⟨M2,n,a,al,rfl,rfl,rfl⟩|⟨a,rfl,rfl,rfl⟩
  ·have k2:Kept2 M M2:=by
    rcases a with ⟨_,rfl⟩|⟨_,_,_,_,rfl⟩
    ·exact kk
    ·exact kk.bec _
   refine ⟨k2.rt,.inl ⟨rfl,?_,?_,?_,fun ns g=>(k2.gr ns g).more k2.ln (newOb k r s true n) rfl fun i hi=>addL_is hi⟩⟩
   ·show (M2.objs ++ [_]).length=_
    rw[List.length_append,k2.len];rfl
   ·unfold refW
    rw[← k2.len,if_neg (by rw[k2.len];omega),ob_new (M:=M2) (M':=addL M2 k r s n) rfl]
    rfl
   ·right
    refine ⟨by omega,?_⟩
    have e:=addL_slot M2 k r s n n al.2.1
    rw[if_pos rfl,k2.len] at e
    have:=slot_mem (M:=addL M2 k r s n) (s:=n) (by rw[e];omega)
    rw[e] at this
    exact this.2
  ·exact ⟨kk.rt,.inr ⟨rfl,rfl,kk.len,kk.gr⟩⟩
structure Own0 (w0 w:World) (tag:Nat→Nat):Prop where
 be:Below w0.heap.size w0 w
 tg:∀ g,g<w0.heap.size→tag g=0
def hval:Option Nat→Int
 | none=>-1
 | some i=>(i:Nat)
structure ShC where
 vN:Value
 vH:Value
 rf:Nat→Value
 rw:Nat→Value
structure Kp where
 w:World
 v:World
 K:Nat→Prop
structure OwnK (k:Kp) (w:World) (tag:Nat→Nat):Prop where
 be:Below k.w.heap.size k.w w
 tg:∀ g,g<k.w.heap.size∨k.K g→tag g=0
 kp:∀ g,k.K g→g<w.heap.size∧w.heap[g]?=k.v.heap[g]?
def tag3 (st:Nat→Nat) (n:Nat) (v r s:Value):Nat→Nat:=tagAt (tagAt (tagAt st v 2) r (4+2*n)) s (5+2*n)
end Go.Proofs.YtnfbaapbpgbgpaaGreat
