import Derived.Test.YtidfllgaeiopjabGreatDdH
import Derived.Test.YtidfllgaeiopjabGreatDcL
import Derived.Test.YtidfllgaeiopjabGreatDcD
namespace Go.Proofs.YtidfllgaeiopjabGreat
open Go.ChangeShapes Go.WideShapes Go.ChangeAt Go.RowKit
set_option linter.unusedVariables false
set_option linter.unusedSimpArgs false
set_option maxRecDepth 100000
set_option maxHeartbeats 1000000
structure NotedR (ps:Nat) (l:List Nat) (v:Value) (w W:World) (v':Value):Prop where
 os:W.os=w.os
 tape:W.tape=w.tape
 output:W.output=w.output
 size:w.heap.size≤W.heap.size
 c2:W.cell? ⟨ps,2,none⟩=some v'
 ce:∀ o,o≠2→W.cell? ⟨ps,o,none⟩=w.cell? ⟨ps,o,none⟩
 fz:∀ o,W.frozen? ⟨ps,o,none⟩=w.frozen? ⟨ps,o,none⟩
 ln:Line W 41 v' l.length (wordV l)
 ap:v'.ownBlock≠some ps
 ow:∀ g,v'.ownBlock=some g→v.ownBlock=some g∨w.heap.size≤g
 blk:∀ g,g<w.heap.size→g≠ps→v.ownBlock≠some g→W.heap[g]?=w.heap[g]?
theorem note_any {w:World}{ps:Nat}{v:Value}{l:List Nat} (x:Nat) (c2:w.cell? ⟨ps,2,none⟩=some v) (f2:w.frozen? ⟨ps,2,none⟩=false) (hL:Line w 41 v l.length (wordV l)) (hap:v.ownBlock≠some ps) (hl:l.length≤1000000):
  Calls Tryz.prog 45 #[.pointer (some ⟨ps,0,none⟩),.int .u64 (x:Nat)] w fun e w'=>e=.returned (.tuple #[])∧∃ v',NotedR ps (l ++ [x]) v w w' v':=by
 obtain ⟨t0,hti,hy0,hy1,hy2⟩:=info_parts Tryz.info41
 obtain ⟨a,cap,rfl⟩:=hL.shape
 have hps:ps<w.heap.size:=block_lt_of_cell c2
 have hA:Below w.heap.size w (w.alloc (.cells #[.int .u64 (x:Nat)] 41)):=(Below.refl _ _).alloc (Nat.le_refl _) _
 have HL1:Hid (Line (w.alloc (.cells #[.int .u64 (x:Nat)] 41)) 41 (.slice a l.length cap) l.length (wordV l)):=hide (hL.same fun g hg=>hA.block g (hL.lt g hg))
 have HC1:Hid ((w.alloc (.cells #[.int .u64 (x:Nat)] 41)).cell? ⟨w.heap.size,0,none⟩=some (.int .u64 (x:Nat))):=hide (cell_made rfl _ _)
 have HFIN:Hid (∀ v' w',Line w' 41 v' (l.length+1) (fun j=>if j<l.length then wordV l j else .int .u64 (x:Nat))→Grew 41 l.length (.int .u64 (x:Nat)) (w.alloc (.cells #[.int .u64 (x:Nat)] 41)) w' (.slice a l.length cap) v'→w'.cell? ⟨ps,2,none⟩=some (.slice a l.length cap)∧w'.frozen? ⟨ps,2,none⟩=false∧Hid (NotedR ps (l ++ [x]) (.slice a l.length cap) w (w'.setCell ⟨ps,2,none⟩ v') v')):=hide (fun v' w' h1 h2=>by
  have hsz:(w.alloc (.cells #[.int .u64 (x:Nat)] 41)).heap.size=w.heap.size+1:=by simp
  have hb:w'.heap[ps]?=w.heap[ps]?:=by rw[h2.other ps (by rw[hsz];omega) hap];exact hA.block ps hps
  have hc:w'.cell? ⟨ps,2,none⟩=some (.slice a l.length cap):=by rw[← c2];simp only[World.cell?,hb]
  have hap':v'.ownBlock≠some ps:=fun q=>by
   rcases h2.own ps q with z|z
   ·exact hap z
   ·rw[hsz] at z;omega
  have h3:Line w' 41 v' (l ++ [x]).length (wordV (l ++ [x])):=by
   rw[List.length_append]
   refine h1.congr fun j hj=>?_
   by_cases q:j<l.length
   ·rw[if_pos q]
    unfold wordV
    rw[List.getD_eq_getElem?_getD,List.getD_eq_getElem?_getD,List.getElem?_append_left q]
   ·rw[if_neg q]
    have:j=l.length:=by omega
    subst this
    unfold wordV
    rw[List.getD_eq_getElem?_getD,List.getElem?_append_right (Nat.le_refl _)]
    simp
  refine ⟨hc,by rw[← f2];simp only[World.frozen?,hb],hide ⟨h2.os,h2.tape,h2.output,by rw[World.size_setCell];have:=h2.size;omega,World.cell?_setCell_same' w' ⟨ps,2,none⟩ v' (by rw[hc];rfl),fun o ho=>?_,fun o=>?_,h3.same fun g hg=>setCell_else _ _ _ _ _ (by rintro rfl;exact hap' hg),hap',fun g hg=>?_,fun g h4 h5 h6=>?_⟩⟩
  ·rw[World.cell?_setCell_other _ _ _ _ (by intro q;cases q;exact ho rfl)]
   simp only[World.cell?,hb]
  ·rw[setCell_froz]
   simp only[World.frozen?,hb]
  ·rcases h2.own g hg with z|z
   ·exact .inl z
   ·exact .inr (by rw[hsz] at z;omega)
  ·rw[setCell_else _ _ _ _ _ h5,h2.other g (by rw[hsz];omega) h6]
   exact hA.block g h4)
 clear hL hap f2 hA
 go_enter Tryz.func45,Tryz.ntmps45
 go_wp2_with (refine append_line rfl (.tmp 8) (.tmp 10) 36 rfl 41 t0 (.int .u64 0) 8 Tryz.underlying36 hti hy0 hy1 hy2 rfl (.slice a l.length cap) l.length _ (by simp [Act.eval]) (unhide HL1) w.heap.size (by simp [Act.eval]) (.int .u64 (x:Nat)) (unhide HC1) rfl (by omega) (by omega) ?_)
 intro v9 w9 hl9 hg9
 obtain ⟨k1,k2,k3⟩:=unhide HFIN _ _ hl9 hg9
 obtain ⟨a9,c9,rfl⟩:=hl9.shape
 clear hl9 hg9 HFIN HL1 HC1
 go_wp2_with fail
 (try simp only[Exit.inBlock,Exit.then])
 refine bodyPost_end (results_none rfl _ _ _) rfl ?_
 exact ⟨rfl,_,unhide k3⟩
set_option maxHeartbeats 400000
def pickM (M:Hp) (l:List Nat) (n:Int) (raw:Nat):Nat:=
 if raw≠0 then raw else if n<0 then ((handR M (IntKind.i64.wrap (-n))).map (refW M)).getD 0 else if n=0∨l.length=0 then 0 else l.getD (l.length-1-(n.toNat-1)%l.length) 0
theorem pick_any {w:World}{ps pd sn:Nat}{dt:Nat→Nat}{M:Hp}{C:DC} (h:DAt w pd dt M sn C) (wf:HpWf M) (hn:M.objs.length≤1000000) (h1:1≤M.objs.length) (hl:M.roots.length≤1000000) {v:Value}{l:List Nat} (c1:w.cell? ⟨ps,1,none⟩=some (.pointer (some ⟨pd,0,none⟩))) (c2:w.cell? ⟨ps,2,none⟩=some v) (hL:Line w 41 v l.length (wordV l)) (hll:l.length≤1000000) (n:Int) (hn1:-9223372036854775808≤n) (hn2:n≤9223372036854775807) (raw:Nat):
  Calls Tryz.prog 102 #[.pointer (some ⟨ps,0,none⟩),.int .i64 n,.int .u64 (raw:Nat)] w fun e w'=>e=.returned (.int .u64 (pickM M l n raw:Nat))∧Still w w':=by
 obtain ⟨a,cap,eV,hE⟩:=line_list hL
 subst eV
 by_cases hr:raw=0
 ·subst hr
  by_cases hneg:n<0
  ·have e:pickM M l n 0=((handR M (IntKind.i64.wrap (-n))).map (refW M)).getD 0:=by unfold pickM;rw[if_neg (by simp),if_pos hneg]
   rw[e]
   have H118:=hide (dat_any h wf hn h1 hl (IntKind.i64.wrap (-n)))
   have d1:decide (n<0)=true:=decide_eq_true hneg
   obtain ⟨m,hm⟩:∃ m,IntKind.i64.wrap (-n)=m:=⟨_,rfl⟩
   rw[hm] at H118 ⊢
   generalize ((handR M m).map (refW M)).getD 0=V at *
   generalize (if (handR M m).isSome then (0:Int) else 35)=E at *
   clear h wf e hL hE
   go_enter Tryz.func102,Tryz.ntmps102
   go_wp2_with fail
   refine (unhide H118).mono ?_
   rintro e w2 ⟨rfl,hS⟩
   have HS:=hide hS
   clear hS H118
   go_wp2_with fail
   all_goals go_ret
   all_goals exact ⟨rfl,unhide HS⟩
  ·have d1:decide (n<0)=false:=decide_eq_false hneg
   by_cases h0:n=0
   ·subst h0
    have e:pickM M l 0 0=0:=by unfold pickM;rw[if_neg (by simp),if_neg (by decide),if_pos (.inl rfl)]
    rw[e]
    clear h wf e hL hE
    go_enter Tryz.func102,Tryz.ntmps102
    go_wp2_with fail
    all_goals go_ret
    all_goals exact ⟨rfl,Still.refl _⟩
   ·have d0:(n == 0)=false:=by simp [h0]
    by_cases hz:l.length=0
    ·have e:pickM M l n 0=0:=by unfold pickM;rw[if_neg (by simp),if_neg hneg,if_pos (.inr hz)]
     rw[e]
     rw[hz] at c2
     clear h wf e hL hE
     go_enter Tryz.func102,Tryz.ntmps102
     go_wp2_with fail
     all_goals go_ret
     all_goals exact ⟨rfl,Still.refl _⟩
    ·obtain ⟨m,rfl⟩:∃ m:Nat,n=(m:Int)+1:=⟨(n-1).toNat,by omega⟩
     obtain ⟨N,hN⟩:∃ N,l.length=N:=⟨_,rfl⟩
     have e:pickM M l ((m:Int)+1) 0=l.getD (N-1-m%N) 0:=by
      unfold pickM
      rw[if_neg (by simp),if_neg hneg,if_neg (by omega),hN,show (((m:Int)+1).toNat-1)=m by omega]
     rw[e]
     have hQ:N-1-m%N<N:=by omega
     have hmod:m%N<N:=Nat.mod_lt _ (by omega)
     obtain ⟨g,rfl,e0,_⟩:=hE (N-1-m%N) (by omega)
     have e0:w.cell? ⟨g,N-1-m%N,none⟩=some (.int .u64 (l.getD (N-1-m%N) 0:Nat)):=e0
     obtain ⟨V,hV⟩:∃ V,l.getD (N-1-m%N) 0=V:=⟨_,rfl⟩
     rw[hV] at e0 ⊢
     rw[hN] at c2 hll hz
     obtain ⟨k,hk⟩:∃ k,m%N=k:=⟨_,rfl⟩
     rw[hk] at hQ hmod e0
     have r1:IntKind.i64.wrap ((m:Int)+1-1)=(m:Int):=by rw[show (m:Int)+1-1=(m:Int) by omega];exact wrap_nat m (by omega)
     have r1':IntKind.i64.wrap (m:Int)=(m:Int):=wrap_nat m (by omega)
     have r2:((m:Int)%(N:Nat))=(k:Int):=by rw[← hk];simp
     have r2':((m:Int).tmod (N:Nat))=(k:Int):=by rw[← hk,Int.tmod_eq_emod_of_nonneg (by omega)];simp
     have r3:IntKind.i64.wrap (k:Int)=(k:Int):=wrap_small _ (by omega) (by omega)
     have r4:IntKind.i64.wrap ((N:Int)-1)=(N:Int)-1:=wrap_small _ (by omega) (by omega)
     obtain ⟨Q,hq⟩:∃ Q,N-1-k=Q:=⟨_,rfl⟩
     rw[hq] at e0 hQ
     have r5:IntKind.i64.wrap ((N:Int)-1-(k:Int))=(Q:Int):=by rw[wrap_small _ (by omega) (by omega)];omega
     have q1:(0:Int)≤(Q:Nat):=by omega
     have q2:(Q:Int)<(N:Nat):=by omega
     have z0:((N:Int) == 0)=false:=by simp;omega
     have z0':((N:Int)=0)=False:=by simp;omega
     have z1:(N:Int)≠0:=by omega
     have d3:(((m:Int)+1) == 0)=false:=by simp;omega
     have d3':(((m:Int)+1)=0)=False:=by simp;omega
     clear h wf e hL hE hV hk hq hN hneg h0
     go_enter Tryz.func102,Tryz.ntmps102
     go_wp2_with fail
     go_region_held3 (fun W=>W.cell? ⟨ps,2,none⟩=some (.slice (some ⟨g,0,none⟩) N cap)∧W.cell? ⟨g,Q,none⟩=some (.int .u64 (V:Nat))) (go_keep) (fail)
     all_goals go_wp2_with fail
     all_goals go_ret
     all_goals exact ⟨rfl,(Still.refl _).drew _⟩
 ·have e:pickM M l n raw=raw:=if_pos hr
  rw[e]
  have d0:((raw:Int) == 0)=false:=by simp [hr]
  have d0':((raw:Int)=0)=False:=by simp [hr]
  clear h wf e hL hE
  go_enter Tryz.func102,Tryz.ntmps102
  go_wp2_with fail
  all_goals go_ret
  all_goals exact ⟨rfl,Still.refl _⟩
set_option maxHeartbeats 1000000
def ownS (ps:Nat) (tag dt:Nat→Nat) (v:Value) (g:Nat):Nat:=if g=ps then 1 else if tag g≠0 then 2 else if dt g≠0 then 3 else if v.ownBlock=some g then 4 else 0
theorem ownS_zero {ps:Nat}{tag dt:Nat→Nat}{v:Value}{g:Nat} (h:ownS ps tag dt v g=0):g≠ps∧tag g=0∧dt g=0∧v.ownBlock≠some g:=by
 unfold ownS at h
 by_cases h1:g=ps
 ·rw[if_pos h1] at h;cases h
 ·rw[if_neg h1] at h
  by_cases h2:tag g≠0
  ·rw[if_pos h2] at h;cases h
  ·rw[if_neg h2] at h
   by_cases h3:dt g≠0
   ·rw[if_pos h3] at h;cases h
   ·rw[if_neg h3] at h
    by_cases h4:v.ownBlock=some g
    ·rw[if_pos h4] at h;cases h
    ·exact ⟨h1,Decidable.not_not.1 h2,Decidable.not_not.1 h3,h4⟩
theorem zero_ownS {ps:Nat}{tag dt:Nat→Nat}{v:Value}{g:Nat} (h1:g≠ps) (h2:tag g=0) (h3:dt g=0) (h4:v.ownBlock≠some g):ownS ps tag dt v g=0:=by
 unfold ownS
 rw[if_neg h1,if_neg (by rw[h2];simp),if_neg (by rw[h3];simp),if_neg h4]
structure SideAt (w:World) (ps ph pd:Nat) (tag dt:Nat→Nat) (M D:Hp) (H:HC) (C:DC) (v:Value) (l:List Nat):Prop where
 c0:w.cell? ⟨ps,0,none⟩=some (.pointer (some ⟨ph,0,none⟩))
 c1:w.cell? ⟨ps,1,none⟩=some (.pointer (some ⟨pd,0,none⟩))
 c2:w.cell? ⟨ps,2,none⟩=some v
 fz:∀ o,o<3→w.frozen? ⟨ps,o,none⟩=false
 he:HAt w ph tag M H
 dc:DAt w pd dt D (D.large-D.kept) C
 rg:Line w 41 v l.length (wordV l)
 wl:W64 l
 p1:tag ps=0∧dt ps=0∧v.ownBlock≠some ps
 p2:∀ g,tag g≠0→dt g=0
 p3:∀ g,v.ownBlock=some g→tag g=0∧dt g=0
theorem HAt.samew {w w':World}{ph:Nat}{tag:Nat→Nat}{M:Hp}{H:HC} (h:HAt w ph tag M H) (hs:w.heap.size≤w'.heap.size) (hb:∀ g,tag g≠0→w'.heap[g]?=w.heap[g]?):HAt w' ph tag M H:={ h with raw:=h.raw.same hs hb }
theorem SideAt.lt {w:World}{ps ph pd:Nat}{tag dt:Nat→Nat}{M D:Hp}{H:HC}{C:DC}{v:Value}{l:List Nat} (h:SideAt w ps ph pd tag dt M D H C v l):∀ g,ownS ps tag dt v g≠0→g<w.heap.size:=fun g hg=>by
 by_cases q1:g=ps
 ·rw[q1];exact block_lt_of_cell h.c0
 by_cases q2:tag g=0
 ·by_cases q3:dt g=0
  ·by_cases q4:v.ownBlock=some g
   ·exact h.rg.lt g q4
   ·exact absurd (zero_ownS q1 q2 q3 q4) hg
  ·exact h.dc.un g q3
 ·exact h.he.raw.un g q2
theorem SideAt.same {w w':World}{ps ph pd:Nat}{tag dt:Nat→Nat}{M D:Hp}{H:HC}{C:DC}{v:Value}{l:List Nat} (h:SideAt w ps ph pd tag dt M D H C v l) (hs:w.heap.size≤w'.heap.size) (hb:∀ g,ownS ps tag dt v g≠0→w'.heap[g]?=w.heap[g]?):SideAt w' ps ph pd tag dt M D H C v l:=by
 have hp:=hb ps (fun q=>(ownS_zero q).1 rfl)
 exact {
  c0:=(cell_like hp _).trans h.c0,c1:=(cell_like hp _).trans h.c1,c2:=(cell_like hp _).trans h.c2
  fz:=fun o ho=>(froz_like hp _).trans (h.fz o ho)
  he:=h.he.samew hs fun g e=>hb g (fun q=>e (ownS_zero q).2.1)
  dc:=DRaw.same h.dc hs fun g e=>hb g (fun q=>e (ownS_zero q).2.2.1)
  rg:=h.rg.same fun g e=>hb g (fun q=>(ownS_zero q).2.2.2 e)
  wl:=h.wl,p1:=h.p1,p2:=h.p2,p3:=h.p3 }
theorem SideAt.below {w w':World}{ps ph pd:Nat}{tag dt:Nat→Nat}{M D:Hp}{H:HC}{C:DC}{v:Value}{l:List Nat} (h:SideAt w ps ph pd tag dt M D H C v l) (k:Below w.heap.size w w'):SideAt w' ps ph pd tag dt M D H C v l:=h.same k.size fun g e=>k.block g (h.lt g e)
theorem SideAt.heap {w w':World}{ps ph pd:Nat}{tag tag' dt:Nat→Nat}{M M' D:Hp}{H H':HC}{C:DC}{v:Value}{l:List Nat} (h:SideAt w ps ph pd tag dt M D H C v l) (f:Fr tag tag' w w') (he:HAt w' ph tag' M' H'):SideAt w' ps ph pd tag' dt M' D H' C v l∧Fr (ownS ps tag dt v) (ownS ps tag' dt v) w w':=by
 have hpl:ps<w.heap.size:=block_lt_of_cell h.c0
 have hp:=(f.blk ps hpl h.p1.1)
 have hv:∀ g,v.ownBlock=some g→w'.heap[g]?=w.heap[g]?∧tag' g=0:=fun g e=>f.blk g (h.rg.lt g e) (h.p3 g e).1
 have hd:∀ g,dt g≠0→w'.heap[g]?=w.heap[g]?∧tag' g=0:=fun g e=>f.blk g (h.dc.un g e) (by
  by_cases q:tag g=0
  ·exact q
  ·exact absurd (h.p2 g q) e)
 refine ⟨{
  c0:=(cell_like hp.1 _).trans h.c0,c1:=(cell_like hp.1 _).trans h.c1,c2:=(cell_like hp.1 _).trans h.c2
  fz:=fun o ho=>(froz_like hp.1 _).trans (h.fz o ho)
  he:=he
  dc:=DRaw.same h.dc f.size fun g e=>(hd g e).1
  rg:=h.rg.same fun g e=>(hv g e).1
  wl:=h.wl,p1:=⟨hp.2,h.p1.2.1,h.p1.2.2⟩
  p2:=fun g e=>by
   by_cases q:dt g=0
   ·exact q
   ·exact absurd (hd g q).2 e
  p3:=fun g e=>⟨(hv g e).2,(h.p3 g e).2⟩ },⟨f.os,f.tape,f.output,f.size,fun g hg e=>?_⟩⟩
 obtain ⟨e1,e2,e3,e4⟩:=ownS_zero e
 obtain ⟨q1,q2⟩:=f.blk g hg e2
 exact ⟨q1,zero_ownS e1 q2 e3 e4⟩
theorem SideAt.doc {w w':World}{ps ph pd:Nat}{tag dt dt':Nat→Nat}{M D D':Hp}{H:HC}{C C':DC}{v:Value}{l:List Nat} (h:SideAt w ps ph pd tag dt M D H C v l) (f:Fr dt dt' w w') (dc:DAt w' pd dt' D' (D'.large-D'.kept) C'):SideAt w' ps ph pd tag dt' M D' H C' v l∧Fr (ownS ps tag dt v) (ownS ps tag dt' v) w w':=by
 have hpl:ps<w.heap.size:=block_lt_of_cell h.c0
 have hp:=(f.blk ps hpl h.p1.2.1)
 have hv:∀ g,v.ownBlock=some g→w'.heap[g]?=w.heap[g]?∧dt' g=0:=fun g e=>f.blk g (h.rg.lt g e) (h.p3 g e).2
 have hd:∀ g,tag g≠0→w'.heap[g]?=w.heap[g]?∧dt' g=0:=fun g e=>f.blk g (h.he.raw.un g e) (h.p2 g e)
 refine ⟨{
  c0:=(cell_like hp.1 _).trans h.c0,c1:=(cell_like hp.1 _).trans h.c1,c2:=(cell_like hp.1 _).trans h.c2
  fz:=fun o ho=>(froz_like hp.1 _).trans (h.fz o ho)
  he:=h.he.samew f.size fun g e=>(hd g e).1
  dc:=dc
  rg:=h.rg.same fun g e=>(hv g e).1
  wl:=h.wl,p1:=⟨h.p1.1,hp.2,h.p1.2.2⟩
  p2:=fun g e=>(hd g e).2
  p3:=fun g e=>⟨(h.p3 g e).1,(hv g e).2⟩ },⟨f.os,f.tape,f.output,f.size,fun g hg e=>?_⟩⟩
 obtain ⟨e1,e2,e3,e4⟩:=ownS_zero e
 obtain ⟨q1,q2⟩:=f.blk g hg e3
 exact ⟨q1,zero_ownS e1 e2 q2 e4⟩
theorem SideAt.note {w w':World}{ps ph pd:Nat}{tag dt:Nat→Nat}{M D:Hp}{H:HC}{C:DC}{v v':Value}{l:List Nat}{x:Nat} (h:SideAt w ps ph pd tag dt M D H C v l) (hx:x<18446744073709551616) (n:NotedR ps (l ++ [x]) v w w' v'):SideAt w' ps ph pd tag dt M D H C v' (l ++ [x])∧Fr (ownS ps tag dt v) (ownS ps tag dt v') w w':=by
 have ht:∀ g,tag g≠0→w'.heap[g]?=w.heap[g]?:=fun g e=>n.blk g (h.he.raw.un g e) (by rintro rfl;exact e h.p1.1) (fun q=>e (h.p3 g q).1)
 have hd:∀ g,dt g≠0→w'.heap[g]?=w.heap[g]?:=fun g e=>n.blk g (h.dc.un g e) (by rintro rfl;exact e h.p1.2.1) (fun q=>e (h.p3 g q).2)
 refine ⟨{
  c0:=(n.ce 0 (by decide)).trans h.c0,c1:=(n.ce 1 (by decide)).trans h.c1,c2:=n.c2
  fz:=fun o ho=>(n.fz o).trans (h.fz o ho)
  he:=h.he.samew n.size ht
  dc:=DRaw.same h.dc n.size hd
  rg:=n.ln
  wl:=fun i=>?_
  p1:=⟨h.p1.1,h.p1.2.1,n.ap⟩
  p2:=h.p2
  p3:=fun g e=>?_ },⟨n.os,n.tape,n.output,n.size,fun g hg e=>?_⟩⟩
 ·rw[List.getD_eq_getElem?_getD]
  by_cases q:i<l.length
  ·rw[List.getElem?_append_left q,← List.getD_eq_getElem?_getD];exact h.wl i
  ·rw[List.getElem?_append_right (by omega)]
   by_cases q2:i-l.length=0
   ·rw[q2];exact hx
   ·rw[List.getElem?_eq_none (by simp;omega)];decide
 ·rcases n.ow g e with z|z
  ·exact h.p3 g z
  ·refine ⟨?_,?_⟩
   ·by_cases q:tag g=0
    ·exact q
    ·have:=h.he.raw.un g q;omega
   ·by_cases q:dt g=0
    ·exact q
    ·have:=h.dc.un g q;omega
 ·obtain ⟨e1,e2,e3,e4⟩:=ownS_zero e
  refine ⟨n.blk g hg e1 e4,zero_ownS e1 e2 e3 fun q=>?_⟩
  rcases n.ow g q with z|z
  ·exact e4 z
  ·omega
set_option maxHeartbeats 2000000
def WkS (w0:World) (pw:Nat) (M:Hp) (k:Wk) (w:World):Prop:=∃ V,Below w0.heap.size w0 w∧WkAt w w0.heap.size pw M.objs.length k V∧Pu M k
theorem WkS.below {w0 w w':World}{pw:Nat}{M:Hp}{k:Wk} (h:WkS w0 pw M k w) (q:Below w.heap.size w w'):WkS w0 pw M k w':=by
 obtain ⟨V,h1,h2,h3⟩:=h
 exact ⟨V,h1.trans (q.mono h1.size),h2.below q,h3⟩
theorem walk_new (w0:World) (M:Hp) (hN:M.objs.length≤1048576):WkS w0 (w0.heap.size+1) M ⟨[],[]⟩ ((w0.alloc (.cells (madeCells #[.bool false] M.objs.length) 4 (0,0))).alloc (.cells #[.slice (some ⟨w0.heap.size,0,none⟩) M.objs.length M.objs.length,.slice none 0 0,.slice none 0 0] 224)):=by
 generalize hA:(Obj.cells (madeCells #[.bool false] M.objs.length) 4 (0,0))=A
 generalize hB:(Obj.cells #[.slice (some ⟨w0.heap.size,0,none⟩) M.objs.length M.objs.length,.slice none 0 0,.slice none 0 0] 224)=B
 have k1:Below w0.heap.size w0 ((w0.alloc A).alloc B):=((Below.refl _ _).alloc (Nat.le_refl _) _).alloc (by simp) _
 have g1:((w0.alloc A).alloc B).heap[w0.heap.size]?=some A:=by
  have:Below (w0.alloc A).heap.size (w0.alloc A) ((w0.alloc A).alloc B):=(Below.refl _ _).alloc (Nat.le_refl _) _
  rw[this.block w0.heap.size (by simp)]
  exact heap_alloc_new _ _
 have g2:((w0.alloc A).alloc B).heap[w0.heap.size+1]?=some B:=heap_alloc2_new _ _ _
 have hnn:∀ g,(Value.slice none 0 0).ownBlock≠some g:=fun g=>by simp [Value.ownBlock]
 refine ⟨⟨.slice (some ⟨w0.heap.size,0,none⟩) M.objs.length M.objs.length,.slice none 0 0,.slice none 0 0⟩,k1,?_,⟨⟨List.nodup_nil,List.nodup_nil⟩,fun i hi=>absurd hi List.not_mem_nil,fun i hi=>absurd hi List.not_mem_nil⟩⟩
 have hL:Line ((w0.alloc A).alloc B) 4 (.slice (some ⟨w0.heap.size,0,none⟩) M.objs.length M.objs.length) M.objs.length (fun _=>.bool false):=made_line (by rw[g1,← hA]) hN
 refine ⟨?_,?_,?_,fun i hi=>?_,?_,.inl ⟨rfl,rfl⟩,.inl ⟨rfl,rfl⟩,⟨Nat.le_succ _,fun g hg=>?_⟩,fun g e=>hnn g,fun g e=>hnn g,fun g e=>absurd e (hnn g)⟩
 ·simp only[World.cell?,g2];rw[← hB];rfl
 ·simp only[World.cell?,g2];rw[← hB];rfl
 ·simp only[World.cell?,g2];rw[← hB];rfl
 ·simp only[World.frozen?,g2];rw[← hB];simp
 ·have e:doneV ⟨[],[]⟩=fun _=>.bool false:=by
   funext j
   unfold doneV
   rw[decide_eq_false (by rintro (h|h) <;> exact absurd h List.not_mem_nil)]
  rw[e]
  exact hL
 ·rcases hg with e|e|e
  ·simp [Value.ownBlock] at e
   omega
  ·exact absurd e (hnn g)
  ·exact absurd e (hnn g)
theorem WkS.reach {w0 w:World}{pd sn pw:Nat}{dt:Nat→Nat}{M:Hp}{C:DC}{k:Wk} (h:DAt w0 pd dt M sn C) (wf:HpWf M) (hn:M.objs.length≤1000000) (h1:1≤M.objs.length) (s:WkS w0 pw M k w) {i:Nat} (hi:i=0∨Is M i):
  Calls Tryz.prog 182 #[.pointer (some ⟨pw,0,none⟩),.pointer (some ⟨pd,0,none⟩),.int .i64 (i:Nat)] w fun e w'=>e=.returned (.tuple #[])∧WkS w0 pw M (reachW M k i) w':=by
 obtain ⟨V,q,hw,p⟩:=s
 have hl:=p.lens
 have hs:=small_len wf
 have hsl:=wf.ok.sl
 have hil:i<M.objs.length:=by
  rcases hi with rfl|hi
  ·omega
  ·exact wf.ln i hi
 exact (wreach_any h q hw hn (by omega) hil).mono fun e w' ⟨e1,e2,V',e3⟩=>⟨e1,V',e2,e3,p.reach wf.ok hi⟩
theorem reached_any {w0:World}{pd sn:Nat}{dt:Nat→Nat}{M:Hp}{C:DC} (h:DAt w0 pd dt M sn C) (wf:HpWf M) (hn:M.objs.length≤1000000) (h1:1≤M.objs.length) (hrl:M.roots.length≤1000000):
  Calls Tryz.prog 155 #[.pointer (some ⟨pd,0,none⟩)] w0 fun e w'=>∃ pw t,e=.returned (.pointer (some ⟨pw,0,none⟩))∧WkS w0 pw M t.k w'∧Star M (stR M M.roots.length) t∧stepW M t=none:=by
 have ok:=wf.ok
 have hsml:=small_len wf
 have hsl:=ok.sl
 obtain ⟨aR,cR,eR,hR⟩:=line_list h.rt
 have c9:=h.c9
 rw[eR] at c9
 obtain ⟨gO,cO,evO,_,_⟩:=h.ob.at (by omega)
 have c6:=h.c6
 rw[evO] at c6
 have mk1:=fun w'=>run_make_row' (P:=Tryz.prog) 210 4 (.bool false) 1 Tryz.underlying210 Tryz.info4 rfl .i64 .i64 M.objs.length (by omega) (by omega) w'
 have HB:Hid (WkS w0 (w0.heap.size+1) M (rootsW M 0) ((w0.alloc (.cells (madeCells #[.bool false] M.objs.length) 4 (0,0))).alloc (.cells #[.slice (some ⟨w0.heap.size,0,none⟩) M.objs.length M.objs.length,.slice none 0 0,.slice none 0 0] 224))):=hide (walk_new w0 M (by omega))
 have HC:Hid (∀ pw k W,Hid (WkS w0 pw M k W)→W.cell? ⟨pd,6,none⟩=some (.slice (some ⟨gO,0,none⟩) M.objs.length cO)∧W.cell? ⟨pd,9,none⟩=some (.slice aR M.roots.length cR)):=hide (fun pw k W s=>by
  obtain ⟨V,q,_⟩:=unhide s
  exact ⟨(q.cell (p:=⟨pd,6,none⟩) (block_lt_of_cell c6)).trans c6,(q.cell (p:=⟨pd,9,none⟩) (block_lt_of_cell c9)).trans c9⟩)
 have HH:Hid (∀ pw k W j,j<M.roots.length→Hid (WkS w0 pw M k W)→∃ g,aR=some ⟨g,0,none⟩∧W.cell? ⟨g,j,none⟩=some (.int .i64 (hval (M.roots.getD j none)))):=hide (fun pw k W j hj s=>by
  obtain ⟨V,q,_⟩:=unhide s
  obtain ⟨g,e,c,_⟩:=hR j hj
  exact ⟨g,e,(q.cell (p:=⟨g,j,none⟩) (block_lt_of_cell c)).trans c⟩)
 have HNEG:Hid (∀ pw k W,Hid (WkS w0 pw M k W)→Calls Tryz.prog 182 #[.pointer (some ⟨pw,0,none⟩),.pointer (some ⟨pd,0,none⟩),.int .i64 (-1)] W fun e w'=>e=.returned (.tuple #[])∧Hid (WkS w0 pw M k w')):=hide (fun pw k W s=>(wreach_out (by decide)).mono fun e w' ⟨q1,q2⟩=>⟨q1,hide ((unhide s).below q2.below)⟩)
 have HRT:Hid (∀ pw k W j i,j<M.roots.length→M.roots.getD j none=some i→Hid (WkS w0 pw M k W)→Calls Tryz.prog 182 #[.pointer (some ⟨pw,0,none⟩),.pointer (some ⟨pd,0,none⟩),.int .i64 (i:Nat)] W fun e w'=>e=.returned (.tuple #[])∧Hid (WkS w0 pw M (reachW M k i) w')):=hide (fun pw k W j i hj hi s=>(WkS.reach h wf hn h1 (unhide s) (root_is ok hj hi)).mono fun e w' ⟨q1,q2⟩=>⟨q1,hide q2⟩)
 have HRF:Hid (∀ pw k W i j,Is M i→j<(ob M i).refs.length→Hid (WkS w0 pw M k W)→Calls Tryz.prog 182 #[.pointer (some ⟨pw,0,none⟩),.pointer (some ⟨pd,0,none⟩),.int .i64 ((ob M i).refs.getD j 0:Nat)] W fun e w'=>e=.returned (.tuple #[])∧Hid (WkS w0 pw M (reachW M k ((ob M i).refs.getD j 0)) w')):=hide (fun pw k W i j hi hj s=>(WkS.reach h wf hn h1 (unhide s) (ok.rf i hi _ (getD_mem0 hj))).mono fun e w' ⟨q1,q2⟩=>⟨q1,hide q2⟩)
 have HOB:Hid (∀ i,Is M i→i<M.objs.length∧∃ ar cr,∀ pw k W,Hid (WkS w0 pw M k W)→W.cell? ⟨gO,i*6+1,none⟩=some (.slice ar (ob M i).refs.length cr)∧∀ j,j<(ob M i).refs.length→∃ g,ar=some ⟨g,0,none⟩∧W.cell? ⟨g,j,none⟩=some (.int .i64 ((ob M i).refs.getD j 0:Nat))):=hide (fun i hi=>by
  have hl:=wf.ln i hi
  obtain ⟨gO',cO',ar,aw,cr,cw,oa,ev,_⟩:=h.obj hl
  rw[evO] at ev
  cases ev
  refine ⟨hl,ar,cr,fun pw k W s=>?_⟩
  obtain ⟨V,q,_⟩:=unhide s
  refine ⟨(q.cell (p:=⟨gO,i*6+1,none⟩) (block_lt_of_cell oa.y1)).trans oa.y1,fun j hj=>?_⟩
  obtain ⟨g,e,c,_⟩:=oa.rf j hj
  exact ⟨g,e,(q.cell (p:=⟨g,j,none⟩) (block_lt_of_cell c)).trans c⟩)
 have HX:Hid (∀ pw k W,Hid (WkS w0 pw M k W)→(k.cop.length≤M.small.length∧k.lin.length≤M.slots.length)∧∃ aS cS aB cB,W.cell? ⟨pw,1,none⟩=some (.slice aS k.cop.length cS)∧W.cell? ⟨pw,2,none⟩=some (.slice aB k.lin.length cB)∧(∀ j,j<k.cop.length→Is M (k.cop.getD j 0)∧∃ g,aS=some ⟨g,0,none⟩∧W.cell? ⟨g,j,none⟩=some (.int .i64 (k.cop.getD j 0:Nat)))∧∀ j,j<k.lin.length→Is M (k.lin.getD j 0)∧∃ g,aB=some ⟨g,0,none⟩∧W.cell? ⟨g,j,none⟩=some (.int .i64 (k.lin.getD j 0:Nat))):=hide (fun pw k W s=>by
  obtain ⟨V,q,hw,p⟩:=unhide s
  obtain ⟨aS,cS,eS,hS⟩:=line_list hw.c
  obtain ⟨aB,cB,eB,hB⟩:=line_list hw.l
  refine ⟨p.lens,aS,cS,aB,cB,by rw[hw.c1,eS],by rw[hw.c2,eB],fun j hj=>⟨p.all _ (.inl (getD_mem0 hj)),?_⟩,fun j hj=>⟨p.all _ (.inr (getD_mem0 hj)),?_⟩⟩
  ·obtain ⟨g,e,c,_⟩:=hS j hj
   exact ⟨g,e,c⟩
  ·obtain ⟨g,e,c,_⟩:=hB j hj
   exact ⟨g,e,c⟩)
 have HR:Hid (∀ j,rootsW M (j+1)=match M.roots.getD j none with|none=>rootsW M j|some i=>reachW M (rootsW M j) i):=hide (fun j=>rootsW_succ M j)
 have HFM:Hid (∀ (k:Wk) (l:List Nat) j,j<l.length→(l.take (j+1)).foldl (reachW M) k=reachW M ((l.take j).foldl (reachW M) k) (l.getD j 0)):=hide (fun k l j hj=>foldl_more M k l j hj)
 have HLE:Hid (∀ i,Is M i→(ob M i).refs.length≤10000000):=hide (fun i hi=>(raws_le wf hi).1)
 generalize hnr:M.roots.length=nR at *
 generalize hno:M.objs.length=nO at *
 clear h wf ok hR eR c9 evO hnr hno
 go_enter Tryz.func155,Tryz.ntmps155
 go_wp2_with fail
 clear c6 mk1
 generalize hpx:w0.heap.size+1=pw at *
 generalize hW1:World.alloc (World.alloc w0 _) _=W1 at *
 clear hpx hW1
 go_loopw [4] (fun iv wr=>∃ i:Nat,iv=.int .i64 (i:Nat)∧i≤nR∧Hid (WkS w0 pw M (rootsW M i) wr)) (fun iv _=>nR-(intOf iv).toNat)
 case atStart=>exact ⟨0,rfl,Nat.zero_le _,HB⟩
 case round=>
  clear HB
  obtain ⟨j,rfl,hj,hL⟩:=hrel
  obtain ⟨c6,c9⟩:=unhide HC _ _ _ hL
  have w1:IntKind.i64.wrap ((j:Int)+1)=(j:Int)+1:=wrap_small _ (by omega) (by omega)
  by_cases hjn:j<nR
  ·have dl:decide ((j:Int)<(nR:Nat))=true:=decide_eq_true (by omega)
   have i1:(0:Int)≤(j:Nat):=by omega
   have i2:(j:Int)<(nR:Nat):=by omega
   obtain ⟨g,rfl,e0⟩:=unhide HH _ _ _ j hjn hL
   have hrj:=unhide HR j
   cases ho:M.roots.getD j none with
   | none=>
    rw[ho] at e0 hrj
    have e0':wr.cell? ⟨g,j,none⟩=some (.int .i64 (-1)):=e0
    have h147:=hide (unhide HNEG pw _ wr hL)
    have HJ:=hide hrj
    clear e0 hrj ho hL
    go_wp2_with fail
    refine (unhide h147).mono ?_
    rintro e w3 ⟨rfl,hL3⟩
    have hL3:Hid (WkS w0 pw M (rootsW M (j+1)) w3):=by rw[unhide HJ];exact hL3
    clear h147
    go_wp2_with fail
    all_goals go_roundw
    all_goals first|exact ⟨j+1,by simp,by omega,hL3⟩|(simp [intOf];omega)
   | some r=>
    rw[ho] at e0 hrj
    have e0':wr.cell? ⟨g,j,none⟩=some (.int .i64 (r:Nat)):=e0
    have h147:=hide (unhide HRT pw _ wr j r hjn ho hL)
    have HJ:=hide hrj
    clear e0 hrj ho hL
    go_wp2_with fail
    refine (unhide h147).mono ?_
    rintro e w3 ⟨rfl,hL3⟩
    have hL3:Hid (WkS w0 pw M (rootsW M (j+1)) w3):=by rw[unhide HJ];exact hL3
    clear h147
    go_wp2_with fail
    all_goals go_roundw
    all_goals first|exact ⟨j+1,by simp,by omega,hL3⟩|(simp [intOf];omega)
  ·have hje:j=nR:=by omega
   subst hje
   have dl:decide ((j:Int)<(j:Nat))=false:=decide_eq_false (by omega)
   go_wp2_with fail
   clear dl c6 c9 HH HRT HNEG HR w1
   rename World=>wo
   go_loopw [5,6] (fun av bv wr=>∃ t:St,av=.int .i64 (t.a:Nat)∧bv=.int .i64 (t.b:Nat)∧Hid (Star M (stR M j) t∧Cl M t)∧Hid (WkS w0 pw M t.k wr)) (fun av bv _=>M.small.length+M.slots.length-((intOf av).toNat+(intOf bv).toNat))
   case atStart=>exact ⟨stR M j,rfl,rfl,hide ⟨Star.refl _,cl_start M j⟩,hL⟩
   case round=>
    clear hL
    obtain ⟨⟨k,a,b⟩,rfl,rfl,hS,hL⟩:=hrel
    dsimp only at hL
    obtain ⟨⟨l1,l2⟩,aS,cS,aB,cB,c1,c2,hs,hb⟩:=unhide HX _ _ _ hL
    obtain ⟨hst,hcl⟩:=unhide hS
    have hca:=hcl.1
    have hcb:=hcl.2.1
    dsimp only at hca hcb
    by_cases hA:a<k.cop.length
    ·obtain ⟨hIr,g,rfl,e0⟩:=hs a hA
     have dA:decide ((a:Int)<(k.cop.length:Nat))=true:=decide_eq_true (by omega)
     have i1:(0:Int)≤(a:Nat):=by omega
     have i2:(a:Int)<(k.cop.length:Nat):=by omega
     have w1:IntKind.i64.wrap ((a:Int)+1)=(a:Int)+1:=wrap_small _ (by omega) (by omega)
     obtain ⟨r,hr⟩:∃ r,k.cop.getD a 0=r:=⟨_,rfl⟩
     rw[hr] at e0 hIr
     obtain ⟨hrl,ar,cr,hob⟩:=unhide HOB r hIr
     have HO:=hide hob
     obtain ⟨y1,_⟩:=hob _ _ _ hL
     obtain ⟨c6,_⟩:=unhide HC _ _ _ hL
     have hle:=unhide HLE r hIr
     have i3:(0:Int)≤(r:Nat):=by omega
     have i4:(r:Int)<(nO:Nat):=by omega
     have hstep:stepW M ⟨k,a,b⟩=some ⟨lookW M k r,a+1,b⟩:=by unfold stepW;rw[if_pos hA,hr]
     have HN:Hid (Star M (stR M j) ⟨lookW M k r,a+1,b⟩∧Cl M ⟨lookW M k r,a+1,b⟩):=hide ⟨hst.more hstep,(hcl.step hstep).1⟩
     have HM:Hid (a<k.cop.length∧k.cop.length≤M.small.length∧k.lin.length≤M.slots.length∧a≤k.cop.length∧b≤k.lin.length):=hide ⟨hA,l1,l2,hca,hcb⟩
     have HLK:Hid (((ob M r).refs.take (ob M r).refs.length).foldl (reachW M) k=lookW M k r):=hide (by rw[List.take_length];rfl)
     have HFR:=hide (fun jj hjj=>unhide HFM k (ob M r).refs jj hjj)
     have HRR:=hide (fun pw' k' W' jj hjj s=>unhide HRF pw' k' W' r jj hIr hjj s)
     obtain ⟨rl,hrl'⟩:∃ rl,(ob M r).refs=rl:=⟨_,rfl⟩
     rw[hrl'] at HO y1 hle HLK HFR HRR
     clear hr hstep hst hcl hs hb hS l1 l2 hob hrl' hIr
     go_wp2_with fail
     clear c1 c2 e0 dA i1 i2
     rename World=>wp
     go_loopw [8] (fun jv wr=>∃ q:Nat,jv=.int .i64 (q:Nat)∧q≤rl.length∧Hid (WkS w0 pw M ((rl.take q).foldl (reachW M) k) wr)) (fun jv _=>rl.length-(intOf jv).toNat)
     case atStart=>exact ⟨0,rfl,Nat.zero_le _,hL⟩
     case round=>
      clear hL y1 c6
      obtain ⟨q,rfl,hq,hL⟩:=hrel
      obtain ⟨c6,_⟩:=unhide HC _ _ _ hL
      obtain ⟨y1,yr⟩:=unhide HO _ _ _ hL
      have w2:IntKind.i64.wrap ((q:Int)+1)=(q:Int)+1:=wrap_small _ (by omega) (by omega)
      by_cases hqn:q<rl.length
      ·have dl:decide ((q:Int)<(rl.length:Nat))=true:=decide_eq_true (by omega)
       have q1:(0:Int)≤(q:Nat):=by omega
       have q2:(q:Int)<(rl.length:Nat):=by omega
       obtain ⟨g2,rfl,e2⟩:=yr q hqn
       have h147:=hide (unhide HRR pw _ wr q hqn hL)
       have hX:=hide (unhide HFR q hqn)
       obtain ⟨z,hz⟩:∃ z,rl.getD q 0=z:=⟨_,rfl⟩
       rw[hz] at e2 h147 hX
       clear yr hz hL
       go_wp2_with fail
       refine (unhide h147).mono ?_
       rintro e w4 ⟨rfl,hL4⟩
       rw[← unhide hX] at hL4
       clear h147 hX
       go_wp2_with fail
       all_goals go_roundw
       all_goals first|exact ⟨q+1,by simp,by omega,hL4⟩|(simp [intOf];omega)
      ·have hqe:q=rl.length:=by omega
       have dl:decide ((q:Int)<(rl.length:Nat))=false:=decide_eq_false (by omega)
       have dl':decide (q<rl.length)=false:=decide_eq_false (by omega)
       have hL5:Hid (WkS w0 pw M (lookW M k r) wr):=by
        rw[hqe,unhide HLK] at hL
        exact hL
       clear yr hL hqe
       go_wp2_with fail
       all_goals go_roundw
       all_goals first|exact ⟨⟨lookW M k r,a+1,b⟩,by simp,by simp,HN,hL5⟩|(have:=unhide HM;simp [intOf];omega)
    ·by_cases hB:b<k.lin.length
     ·obtain ⟨hIr,g,rfl,e0⟩:=hb b hB
      have dA:decide ((a:Int)<(k.cop.length:Nat))=false:=decide_eq_false (by omega)
      have dB:decide ((b:Int)<(k.lin.length:Nat))=true:=decide_eq_true (by omega)
      have i1:(0:Int)≤(b:Nat):=by omega
      have i2:(b:Int)<(k.lin.length:Nat):=by omega
      have w1:IntKind.i64.wrap ((b:Int)+1)=(b:Int)+1:=wrap_small _ (by omega) (by omega)
      obtain ⟨r,hr⟩:∃ r,k.lin.getD b 0=r:=⟨_,rfl⟩
      rw[hr] at e0 hIr
      obtain ⟨hrl,ar,cr,hob⟩:=unhide HOB r hIr
      have HO:=hide hob
      obtain ⟨y1,_⟩:=hob _ _ _ hL
      obtain ⟨c6,_⟩:=unhide HC _ _ _ hL
      have hle:=unhide HLE r hIr
      have i3:(0:Int)≤(r:Nat):=by omega
      have i4:(r:Int)<(nO:Nat):=by omega
      have hstep:stepW M ⟨k,a,b⟩=some ⟨lookW M k r,a,b+1⟩:=by unfold stepW;rw[if_neg hA,if_pos hB,hr]
      have HN:Hid (Star M (stR M j) ⟨lookW M k r,a,b+1⟩∧Cl M ⟨lookW M k r,a,b+1⟩):=hide ⟨hst.more hstep,(hcl.step hstep).1⟩
      have HM:Hid (b<k.lin.length∧k.cop.length≤M.small.length∧k.lin.length≤M.slots.length∧a≤k.cop.length∧b≤k.lin.length):=hide ⟨hB,l1,l2,hca,hcb⟩
      have HLK:Hid (((ob M r).refs.take (ob M r).refs.length).foldl (reachW M) k=lookW M k r):=hide (by rw[List.take_length];rfl)
      have HFR:=hide (fun jj hjj=>unhide HFM k (ob M r).refs jj hjj)
      have HRR:=hide (fun pw' k' W' jj hjj s=>unhide HRF pw' k' W' r jj hIr hjj s)
      obtain ⟨rl,hrl'⟩:∃ rl,(ob M r).refs=rl:=⟨_,rfl⟩
      rw[hrl'] at HO y1 hle HLK HFR HRR
      clear hr hstep hst hcl hs hb hS l1 l2 hob hrl' hIr
      go_wp2_with fail
      clear c1 c2 e0 dA i1 i2
      rename World=>wp
      go_loopw [8] (fun jv wr=>∃ q:Nat,jv=.int .i64 (q:Nat)∧q≤rl.length∧Hid (WkS w0 pw M ((rl.take q).foldl (reachW M) k) wr)) (fun jv _=>rl.length-(intOf jv).toNat)
      case atStart=>exact ⟨0,rfl,Nat.zero_le _,hL⟩
      case round=>
       clear hL y1 c6
       obtain ⟨q,rfl,hq,hL⟩:=hrel
       obtain ⟨c6,_⟩:=unhide HC _ _ _ hL
       obtain ⟨y1,yr⟩:=unhide HO _ _ _ hL
       have w2:IntKind.i64.wrap ((q:Int)+1)=(q:Int)+1:=wrap_small _ (by omega) (by omega)
       by_cases hqn:q<rl.length
       ·have dl:decide ((q:Int)<(rl.length:Nat))=true:=decide_eq_true (by omega)
        have q1:(0:Int)≤(q:Nat):=by omega
        have q2:(q:Int)<(rl.length:Nat):=by omega
        obtain ⟨g2,rfl,e2⟩:=yr q hqn
        have h147:=hide (unhide HRR pw _ wr q hqn hL)
        have hX:=hide (unhide HFR q hqn)
        obtain ⟨z,hz⟩:∃ z,rl.getD q 0=z:=⟨_,rfl⟩
        rw[hz] at e2 h147 hX
        clear yr hz hL
        go_wp2_with fail
        refine (unhide h147).mono ?_
        rintro e w4 ⟨rfl,hL4⟩
        rw[← unhide hX] at hL4
        clear h147 hX
        go_wp2_with fail
        all_goals go_roundw
        all_goals first|exact ⟨q+1,by simp,by omega,hL4⟩|(simp [intOf];omega)
       ·have hqe:q=rl.length:=by omega
        have dl:decide ((q:Int)<(rl.length:Nat))=false:=decide_eq_false (by omega)
        have dl':decide (q<rl.length)=false:=decide_eq_false (by omega)
        have hL5:Hid (WkS w0 pw M (lookW M k r) wr):=by
         rw[hqe,unhide HLK] at hL
         exact hL
        clear yr hL hqe
        go_wp2_with fail
        all_goals go_roundw
        all_goals first|exact ⟨⟨lookW M k r,a,b+1⟩,by simp,by simp,HN,hL5⟩|(have:=unhide HM;simp [intOf];omega)
     ·have dA:decide ((a:Int)<(k.cop.length:Nat))=false:=decide_eq_false (by omega)
      have dB:decide ((b:Int)<(k.lin.length:Nat))=false:=decide_eq_false (by omega)
      have hno:stepW M ⟨k,a,b⟩=none:=by unfold stepW;rw[if_neg hA,if_neg hB]
      have HF:=hide (⟨unhide hL,hst,hno⟩:_∧_∧_)
      clear hs hb hst hcl hS hno hL
      go_wp2_with fail
      all_goals go_ret
      all_goals exact ⟨pw,⟨k,a,b⟩,rfl,(unhide HF).1,(unhide HF).2.1,(unhide HF).2.2⟩
end Go.Proofs.YtidfllgaeiopjabGreat
