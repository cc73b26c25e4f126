import Derived.Test.YtidfllgaeiopjabGreatDcD
import Derived.Test.YtidfllgaeiopjabGreatBecome
import Derived.Test.YtidfllgaeiopjabGreatTwin
import Derived.Test.YtidfllgaeiopjabGreatByteM
import Derived.Test.YtidfllgaeiopjabGreatHGet
import Derived.Deep.RegionHeld3
import Derived.Test.YtidfllgaeiopjabGreatLargeM
import Derived.Test.YtidfllgaeiopjabGreatRootM
namespace Go.Proofs.YtidfllgaeiopjabGreat
open Go.ChangeShapes Go.WideShapes Go.ChangeAt Go.RowKit
set_option linter.unusedVariables false
set_option linter.unusedSimpArgs false
set_option maxRecDepth 100000
set_option maxHeartbeats 1000000
theorem results_tmp4 {fn:Func}{t u v x:Tmp} (h:fn.results=#[.tmp t,.tmp u,.tmp v,.tmp x]) (tmps:Array Value) (P:Program) (w:World):
  (results fn tmps).run P w=.ok (.tuple #[tmps.getD t undef,tmps.getD u undef,tmps.getD v undef,tmps.getD x undef]) w:=by
 simp [results,h]
theorem raws_le {M:Hp} (wf:HpWf M) {i:Nat} (hi:Is M i):(ob M i).refs.length≤10000000∧(ob M i).raws.length≤10000000:=by
 rcases hi with z|⟨z0,z⟩
 ·have:=wf.ss i z
  unfold osz at this
  omega
 ·have:=sum_sub (fun i=>if i=0 then 0 else 1+osz (ob M i)) [i] M.slots (by simp) (fun x hx=>by rw[List.mem_singleton.1 hx];exact z)
  have hg:=wf.lg
  have h1:=wf.lm
  have h2:=wf.l2
  unfold lgOf at hg
  simp [z0] at this
  unfold osz at this hg
  omega
theorem dobj_any {w:World}{pd sn:Nat}{dt:Nat→Nat}{M:Hp}{C:DC} (h:DAt w pd dt M sn C) (wf:HpWf M) (hn:M.objs.length≤1000000) (h1:1≤M.objs.length) {x:Nat} (hx:x<18446744073709551616):
  Calls Tryz.prog 103 #[.pointer (some ⟨pd,0,none⟩),.int .u64 (x:Nat)] w fun e w'=>e=.returned (.tuple #[.int .i64 ((objM M x).1:Nat),.int .i64 ((objM M x).2.1:Nat),.int .i64 ((objM M x).2.2.1:Nat),.int .i64 ((objM M x).2.2.2:Nat)])∧Still w w':=by
 have H141:=hide (did_any h wf hn h1 hx)
 by_cases h0:numOf M x=0
 ·have e:objM M x=(0,0,0,32):=by unfold objM;rw[if_pos h0]
  rw[e]
  rw[h0] at H141
  clear h wf h0 e
  go_enter Tryz.func103,Tryz.ntmps103
  go_wp2_with fail
  refine (unhide H141).mono ?_
  rintro e w2 ⟨rfl,hS⟩
  have HS:=hide hS
  clear hS H141
  go_wp2_with fail
  all_goals ((try simp only[Exit.inBlock,Exit.then]);refine bodyPost_ret (results_tmp4 rfl _ _ _) rfl ?_)
  all_goals exact ⟨rfl,unhide HS⟩
 ·have e:objM M x=((ob M (numOf M x)).kind,(ob M (numOf M x)).refs.length,(ob M (numOf M x)).raws.length,0):=by unfold objM;rw[if_neg h0]
  rw[e]
  have hI:=num_is h0
  have hl:=wf.ln _ hI
  obtain ⟨gO,cO,ar,aw,cr,cw,⟨s0,y0,y1,y2,y3,y4,y5,_,_,_⟩,_⟩:=h.obj hl
  have f:M.objs.getD (numOf M x) ob0=ob M (numOf M x):=rfl
  rw[f] at y0 y1 y2
  obtain ⟨i,hi⟩:∃ i,numOf M x=i:=⟨_,rfl⟩
  rw[hi] at H141 y0 y1 y2 hl h0 ⊢
  generalize (ob M i).refs.length=rl at *
  generalize (ob M i).raws.length=wl at *
  generalize (ob M i).kind=kd at *
  generalize M.objs.length=n at *
  have i1:(0:Int)≤(i:Nat):=by omega
  have i2:(i:Int)<(n:Nat):=by omega
  have d0:((i:Int) == 0)=false:=by simp;omega
  have d0':((i:Int)=0)=False:=by simp;omega
  clear h wf e hI y3 y4 y5 f hi
  go_enter Tryz.func103,Tryz.ntmps103
  go_wp2_with fail
  refine (unhide H141).mono ?_
  rintro e w2 ⟨rfl,hS⟩
  have s0:=(hS.cell _).trans s0
  have y0:=(hS.cell _).trans y0
  have y1:=(hS.cell _).trans y1
  have y2:=(hS.cell _).trans y2
  have HS:=hide hS
  clear hS H141
  go_wp2_with fail
  go_region_held3 (fun W=>W.cell? ⟨pd,6,none⟩=some (.slice (some ⟨gO,0,none⟩) n cO)∧W.cell? ⟨gO,i*6,none⟩=some (.int .i64 (kd:Nat))∧W.cell? ⟨gO,i*6+1,none⟩=some (.slice ar rl cr)∧W.cell? ⟨gO,i*6+2,none⟩=some (.slice aw wl cw)) (go_keep) (fail)
  all_goals go_wp2_with fail
  all_goals ((try simp only[Exit.inBlock,Exit.then]);refine bodyPost_ret (results_tmp4 rfl _ _ _) rfl ?_)
  all_goals exact ⟨rfl,(unhide HS).drew _⟩
theorem fld_len (M:Hp) (i:Nat):(fldM M i).length=(ob M i).refs.length+(ob M i).raws.length:=by unfold fldM;simp
theorem dget_any {w:World}{pd sn:Nat}{dt:Nat→Nat}{M:Hp}{C:DC} (h:DAt w pd dt M sn C) (wf:HpWf M) (hn:M.objs.length≤1000000) (h1:1≤M.objs.length) {x:Nat} (hx:x<18446744073709551616) (i:Int):
  Calls Tryz.prog 104 #[.pointer (some ⟨pd,0,none⟩),.int .u64 (x:Nat),.int .i64 i] w fun e w'=>e=.returned (.tuple #[.int .u64 ((getM M x i).1:Nat),.int .i64 ((getM M x i).2:Nat)])∧Still w w':=by
 have H141:=hide (did_any h wf hn h1 hx)
 by_cases h0:numOf M x=0
 ·have e:getM M x i=(0,32):=by unfold getM;rw[if_pos h0]
  rw[e]
  rw[h0] at H141
  clear h wf h0 e
  go_enter Tryz.func104,Tryz.ntmps104
  go_wp2_with fail
  refine (unhide H141).mono ?_
  rintro e w2 ⟨rfl,hS⟩
  have HS:=hide hS
  clear hS H141
  go_wp2_with fail
  all_goals go_ret2
  all_goals exact ⟨rfl,unhide HS⟩
 ·have hI:=num_is h0
  have hl:=wf.ln _ hI
  obtain ⟨gO,cO,ar,aw,cr,cw,⟨s0,y0,y1,y2,y3,y4,y5,_,hrf,hrw⟩,_⟩:=h.obj hl
  have f:M.objs.getD (numOf M x) ob0=ob M (numOf M x):=rfl
  rw[f] at y0 y1 y2 hrf hrw
  obtain ⟨b1,b2⟩:=raws_le wf hI
  have hE:getM M x i=if 0≤i∧i<((ob M (numOf M x)).refs.length+(ob M (numOf M x)).raws.length:Nat) then ((fldM M (numOf M x)).getD i.toNat 0,0) else (0,33):=by unfold getM;rw[if_neg h0,fld_len]
  have hRI:∀ j,j<(ob M (numOf M x)).refs.length→(ob M (numOf M x)).refs.getD j 0=0∨Is M ((ob M (numOf M x)).refs.getD j 0):=fun j hj=>wf.ok.rf _ hI _ (by rw[List.getD_eq_getElem?_getD,List.getElem?_eq_getElem hj];exact List.getElem_mem hj)
  have H123:Hid (∀ W j,Still w W→j<(ob M (numOf M x)).refs.length→Calls Tryz.prog 116 #[.pointer (some ⟨pd,0,none⟩),.int .i64 ((ob M (numOf M x)).refs.getD j 0:Nat)] W fun e w'=>e=.returned (.int .u64 ((fldM M (numOf M x)).getD j 0:Nat))∧Still w w'):=hide (fun W j s hj=>by
   have e:(fldM M (numOf M x)).getD j 0=refW M ((ob M (numOf M x)).refs.getD j 0):=by
    unfold fldM
    rw[List.getD_eq_getElem?_getD,List.getElem?_append_left (by rw[List.length_map];exact hj),List.getElem?_map,List.getElem?_eq_getElem hj,List.getD_eq_getElem?_getD,List.getElem?_eq_getElem hj]
    rfl
   rw[e]
   exact (drefM (DRaw.still h s.below) wf hn h1 (hRI j hj)).mono fun e w' ⟨q1,q2⟩=>⟨q1,s.trans q2⟩)
  have HRW:Hid (∀ j,j<(ob M (numOf M x)).raws.length→(fldM M (numOf M x)).getD ((ob M (numOf M x)).refs.length+j) 0=(ob M (numOf M x)).raws.getD j 0):=hide (fun j hj=>by
   unfold fldM
   rw[List.getD_eq_getElem?_getD,List.getElem?_append_right (by rw[List.length_map];omega),List.length_map,show (ob M (numOf M x)).refs.length+j-(ob M (numOf M x)).refs.length=j by omega,List.getD_eq_getElem?_getD])
  have HRF:=hide hrf
  have HRL:=hide hrw
  obtain ⟨id,hi⟩:∃ id,numOf M x=id:=⟨_,rfl⟩
  rw[hi] at H141 y1 y2 hl h0 hE H123 HRW HRF HRL b1 b2
  have i1:(0:Int)≤(id:Nat):=by omega
  have i2:(id:Int)<(M.objs.length:Nat):=by omega
  have d0:((id:Int) == 0)=false:=by simp;omega
  have d0':((id:Int)=0)=False:=by simp;omega
  obtain ⟨V,hV⟩:∃ V,getM M x i=V:=⟨_,rfl⟩
  rw[hV] at hE ⊢
  obtain ⟨fl,hfl⟩:∃ fl,fldM M id=fl:=⟨_,rfl⟩
  rw[hfl] at hE HRW H123
  generalize hrl:(ob M id).refs=rl at *
  generalize hwl:(ob M id).raws=wl at *
  have w1:IntKind.i64.wrap ((rl.length:Int)+(wl.length:Int))=(rl.length:Int)+(wl.length:Int):=wrap_small _ (by omega) (by omega)
  generalize M.objs.length=n at *
  have HS0:=hide (Still.refl w)
  clear h wf hI y3 y4 y5 f hi hV hfl hrl hwl hRI hrf hrw y0
  by_cases hbad:i<0∨(rl.length+wl.length:Nat)≤i
  ·rw[if_neg (by omega)] at hE
   subst hE
   by_cases hneg:i<0
   ·have d1:decide (i<0)=true:=decide_eq_true hneg
    clear H123 HRW HRF HRL
    go_enter Tryz.func104,Tryz.ntmps104
    go_wp2_with fail
    refine (unhide H141).mono ?_
    rintro e w2 ⟨rfl,hS⟩
    have s0:=(hS.cell _).trans s0
    have y1:=(hS.cell _).trans y1
    have y2:=(hS.cell _).trans y2
    have HS:=hide hS
    clear hS H141
    go_wp2_with fail
    all_goals go_ret2
    all_goals exact ⟨rfl,unhide HS⟩
   ·have d1:decide (i<0)=false:=decide_eq_false hneg
    have d2:decide ((rl.length:Int)+(wl.length:Int)≤i)=true:=decide_eq_true (by omega)
    clear H123 HRW HRF HRL
    go_enter Tryz.func104,Tryz.ntmps104
    go_wp2_with fail
    refine (unhide H141).mono ?_
    rintro e w2 ⟨rfl,hS⟩
    have s0:=(hS.cell _).trans s0
    have y1:=(hS.cell _).trans y1
    have y2:=(hS.cell _).trans y2
    have HS:=hide hS
    clear hS H141
    go_wp2_with fail
    all_goals go_ret2
    all_goals exact ⟨rfl,unhide HS⟩
  ·rw[if_pos (by omega)] at hE
   subst hE
   obtain ⟨j,rfl⟩:∃ j:Nat,i=(j:Nat):=⟨i.toNat,by omega⟩
   have d1:decide ((j:Int)<0)=false:=decide_eq_false (by omega)
   have d2:decide ((rl.length:Int)+(wl.length:Int)≤(j:Nat))=false:=decide_eq_false (by omega)
   have HJ:Hid ((j:Int).toNat=j):=hide (by omega)
   by_cases hjr:j<rl.length
   ·have d3:decide ((j:Int)<(rl.length:Nat))=true:=decide_eq_true (by omega)
    have d3':decide (j<rl.length)=true:=decide_eq_true hjr
    obtain ⟨g,rfl,e0,_⟩:=unhide HRF j hjr
    have j1:(0:Int)≤(j:Nat):=by omega
    have j2:(j:Int)<(rl.length:Nat):=by omega
    have h123:=hide (fun W s=>unhide H123 W j s hjr)
    obtain ⟨r,hr⟩:∃ r,rl.getD j 0=r:=⟨_,rfl⟩
    rw[hr] at e0
    simp only[hr] at h123
    rw[unhide HJ]
    clear hr H123 HRF HRL HRW
    go_enter Tryz.func104,Tryz.ntmps104
    go_wp2_with fail
    refine (unhide H141).mono ?_
    rintro e w2 ⟨rfl,hS⟩
    have s0:=(hS.cell _).trans s0
    have y1:=(hS.cell _).trans y1
    have y2:=(hS.cell _).trans y2
    have e0:=(hS.cell _).trans e0
    have HS:=hide hS
    clear hS H141
    go_wp2_with fail
    refine (unhide h123 _ (unhide HS)).mono ?_
    rintro e w3 ⟨rfl,hS3⟩
    have HS3:=hide hS3
    clear hS3 h123
    go_wp2_with fail
    all_goals go_ret2
    all_goals exact ⟨rfl,unhide HS3⟩
   ·have d3:decide ((j:Int)<(rl.length:Nat))=false:=decide_eq_false (by omega)
    have d3':decide (j<rl.length)=false:=decide_eq_false hjr
    obtain ⟨t,rfl⟩:∃ t:Nat,j=rl.length+t:=⟨j-rl.length,by omega⟩
    obtain ⟨g,rfl,e0,_⟩:=unhide HRL t (by omega)
    have j1:(0:Int)≤(t:Nat):=by omega
    have j2:(t:Int)<(wl.length:Nat):=by omega
    have j3:IntKind.i64.wrap (((rl.length+t:Nat):Int)-(rl.length:Int))=(t:Int):=by rw[show ((rl.length+t:Nat):Int)-(rl.length:Int)=(t:Int) by omega];exact wrap_small _ (by omega) (by omega)
    have j4:IntKind.i64.wrap ((rl.length:Int)+(t:Int)-(rl.length:Int))=(t:Int):=by rw[show (rl.length:Int)+(t:Int)-(rl.length:Int)=(t:Int) by omega];exact wrap_small _ (by omega) (by omega)
    have hv:=unhide HRW t (by omega)
    rw[unhide HJ,hv]
    obtain ⟨r,hr⟩:∃ r,wl.getD t 0=r:=⟨_,rfl⟩
    rw[hr] at e0 ⊢
    clear hr H123 HRF HRL HRW hv HJ
    obtain ⟨z,hz⟩:∃ z:Nat,rl.length+t=z:=⟨_,rfl⟩
    rw[hz] at d1 d2 d3 d3' j3 ⊢
    clear hz
    go_enter Tryz.func104,Tryz.ntmps104
    go_wp2_with fail
    refine (unhide H141).mono ?_
    rintro e w2 ⟨rfl,hS⟩
    have s0:=(hS.cell _).trans s0
    have y1:=(hS.cell _).trans y1
    have y2:=(hS.cell _).trans y2
    have e0:=(hS.cell _).trans e0
    have HS:=hide hS
    clear hS H141
    go_wp2_with fail
    all_goals go_ret2
    all_goals exact ⟨rfl,unhide HS⟩
theorem dspan_any {w:World} (f n:Int) (r:Nat) (hr:r≤10000000) (hf1:f≤9223372036854775807) (hf2:-9223372036854775808≤f):
  Calls Tryz.prog 159 #[.int .i64 f,.int .i64 n,.int .i64 (r:Nat)] w fun e w'=>e=.returned (.bool (decide (0≤f∧0≤n∧f+n≤8*(r:Nat))))∧Still w w':=by
 have mu:IntKind.i64.wrap (8*(r:Int))=8*(r:Int):=wrap_small _ (by omega) (by omega)
 by_cases h1:0≤f
 ·have d1:decide (0≤f)=true:=decide_eq_true h1
  by_cases h2:0≤n
  ·have d2:decide (0≤n)=true:=decide_eq_true h2
   by_cases h3:f≤8*(r:Int)
   ·have d3:decide (f≤8*(r:Int))=true:=decide_eq_true h3
    have su:IntKind.i64.wrap (8*(r:Int)-f)=8*(r:Int)-f:=wrap_small _ (by omega) (by omega)
    have e:decide (0≤f∧0≤n∧f+n≤8*(r:Nat))=decide (n≤8*(r:Int)-f):=by
     by_cases h4:n≤8*(r:Int)-f
     ·rw[decide_eq_true h4,decide_eq_true (by omega)]
     ·rw[decide_eq_false h4,decide_eq_false (by omega)]
    rw[e]
    generalize hd:decide (n≤8*(r:Int)-f)=D
    go_enter Tryz.func159,Tryz.ntmps159
    go_wp2_with fail
    go_ret
    exact ⟨by simp [hd],Still.refl _⟩
   ·have d3:decide (f≤8*(r:Int))=false:=decide_eq_false h3
    rw[decide_eq_false (by omega)]
    go_enter Tryz.func159,Tryz.ntmps159
    go_wp2_with fail
    go_ret
    exact ⟨rfl,Still.refl _⟩
  ·have d2:decide (0≤n)=false:=decide_eq_false h2
   rw[decide_eq_false (by omega)]
   go_enter Tryz.func159,Tryz.ntmps159
   go_wp2_with fail
   go_ret
   exact ⟨rfl,Still.refl _⟩
 ·have d1:decide (0≤f)=false:=decide_eq_false h1
  rw[decide_eq_false (by omega)]
  go_enter Tryz.func159,Tryz.ntmps159
  go_wp2_with fail
  go_ret
  exact ⟨rfl,Still.refl _⟩
theorem DRaw.lists {w w':World}{pd:Nat}{dt dt':Nat→Nat}{N N':Nat→Nat}{ol:List Ob}{sm sl sm' sl':List Nat}{rt rt':List (Option Nat)}{C:DC}{vS' vL' vR':Value} (h:DRaw w pd dt N ol sm sl rt C) (hs:w.heap.size≤w'.heap.size)
  (hdt:∀ g,g<w.heap.size→dt g=1∨dt g=2∨6≤dt g→dt' g=dt g) (hb:∀ g,dt g=2∨6≤dt g→w'.heap[g]?=w.heap[g]?)
  (hn:∀ i,i<6∨(10≤i∧i<13)→w'.cell? ⟨pd,i,none⟩=some (.int .i64 (N' i:Nat))) (h6:w'.cell? ⟨pd,6,none⟩=some C.vO) (h7:w'.cell? ⟨pd,7,none⟩=some vS') (h8:w'.cell? ⟨pd,8,none⟩=some vL') (h9:w'.cell? ⟨pd,9,none⟩=some vR') (hf:∀ i,i<13→w'.frozen? ⟨pd,i,none⟩=false)
  (lS:Line w' 3 vS' sm'.length (numsV sm')) (lL:Line w' 3 vL' sl'.length (numsV sl')) (lR:Line w' 3 vR' rt'.length (hvalV rt')) (tS:∀ g,vS'.ownBlock=some g→dt' g=3) (tL:∀ g,vL'.ownBlock=some g→dt' g=4) (tR:∀ g,vR'.ownBlock=some g→dt' g=5) (un:∀ g,dt' g≠0→g<w'.heap.size):
  DRaw w' pd dt' N' ol sm' sl' rt' { C with vS:=vS',vL:=vL',vR:=vR' }:=by
 have hk:∀ g n,n=1∨n=2∨6≤n→dt g=n→dt' g=n:=fun g n hn e=>(hdt g (h.un g (by omega)) (by omega)).trans e
 exact {
  num:=hn,c6:=h6,c7:=h7,c8:=h8,c9:=h9,fz:=hf
  ob:=h.ob.same fun g e=>hb g (.inl (h.t2 g e))
  sm:=lS,sl:=lL,rt:=lR
  rf:=fun j hj=>(h.rf j hj).same fun g e=>hb g (.inr (by rw[h.t6 j g hj e];omega))
  rw:=fun j hj=>(h.rw j hj).same fun g e=>hb g (.inr (by rw[h.t7 j g hj e];omega))
  t1:=hk _ _ (.inl rfl) h.t1
  t2:=fun g e=>hk _ _ (.inr (.inl rfl)) (h.t2 g e)
  t3:=tS,t4:=tL,t5:=tR
  t6:=fun j g hj e=>hk _ _ (by omega) (h.t6 j g hj e)
  t7:=fun j g hj e=>hk _ _ (by omega) (h.t7 j g hj e)
  un:=un }
theorem setCell_froz (w:World) (p q:Addr) (v:Value):(w.setCell p v).frozen? q=w.frozen? q:=World.frozen?_setCell _ _ _ _
theorem DRaw.setN {w:World}{pd:Nat}{dt:Nat→Nat}{N:Nat→Nat}{ol:List Ob}{sm sl:List Nat}{rt:List (Option Nat)}{C:DC} (h:DRaw w pd dt N ol sm sl rt C) {i:Nat} (hi:i<6∨(10≤i∧i<13)) (x:Nat):
  DRaw (w.setCell ⟨pd,i,none⟩ (.int .i64 (x:Nat))) pd dt (fun j=>if j=i then x else N j) ol sm sl rt C:=by
 have hz:(w.setCell ⟨pd,i,none⟩ (.int .i64 (x:Nat))).heap.size=w.heap.size:=World.size_setCell _ _ _
 have hb:∀ g,dt g≠1→(w.setCell ⟨pd,i,none⟩ (.int .i64 (x:Nat))).heap[g]?=w.heap[g]?:=fun g hg=>setCell_else _ _ _ _ _ (by rintro rfl;exact hg h.t1)
 have ho:∀ j,j≠i→(w.setCell ⟨pd,i,none⟩ (.int .i64 (x:Nat))).cell? ⟨pd,j,none⟩=w.cell? ⟨pd,j,none⟩:=fun j hj=>World.cell?_setCell_other _ _ _ _ (by simp)
 refine h.lists (by omega) (fun g _ _=>rfl) (fun g e=>hb g (by omega)) (fun j hj=>?_) ((ho 6 (by omega)).trans h.c6) ((ho 7 (by omega)).trans h.c7) ((ho 8 (by omega)).trans h.c8) ((ho 9 (by omega)).trans h.c9) (fun j hj=>(setCell_froz _ _ _ _).trans (h.fz j hj))
  (h.sm.same fun g e=>hb g (by rw[h.t3 g e];decide)) (h.sl.same fun g e=>hb g (by rw[h.t4 g e];decide)) (h.rt.same fun g e=>hb g (by rw[h.t5 g e];decide)) h.t3 h.t4 h.t5 (fun g e=>by rw[hz];exact h.un g e)
 by_cases e:j=i
 ·subst e
  rw[if_pos rfl]
  exact World.cell?_setCell_same' _ _ _ (by rw[h.num j hj];rfl)
 ·rw[if_neg e,ho j e]
  exact h.num j hj
theorem Fr.set {w:World}{dt:Nat→Nat}{g:Nat} (hg:dt g≠0) (o:Nat) (v:Value):Fr dt dt w (w.setCell ⟨g,o,none⟩ v):=Fr.cset hg o v
theorem Fr.still {dt:Nat→Nat}{w w':World} (s:Still w w'):Fr dt dt w w':=Fr.of_below s.below
theorem DRaw.congr {w:World}{pd:Nat}{dt:Nat→Nat}{N N':Nat→Nat}{ol:List Ob}{sm sl:List Nat}{rt:List (Option Nat)}{C:DC} (h:DRaw w pd dt N ol sm sl rt C) (e:∀ i,i<6∨(10≤i∧i<13)→N i=N' i):DRaw w pd dt N' ol sm sl rt C:={ h with num:=fun i hi=>by rw[← e i hi];exact h.num i hi }
theorem getD_setN (l:List Nat) (k j x:Nat) (h:k<l.length):(l.set k x).getD j 0=if j=k then x else l.getD j 0:=getD_set _ _ _ _ h
theorem DRaw.setL {w:World}{pd:Nat}{dt:Nat→Nat}{N:Nat→Nat}{ol:List Ob}{sm sl:List Nat}{rt:List (Option Nat)}{C:DC} (h:DRaw w pd dt N ol sm sl rt C) {g k:Nat} (hg:C.vL.ownBlock=some g) (hk:k<sl.length) (x:Nat):
  DRaw (w.setCell ⟨g,k,none⟩ (.int .i64 (x:Nat))) pd dt N ol sm (sl.set k x) rt C:=by
 have hz:(w.setCell ⟨g,k,none⟩ (.int .i64 (x:Nat))).heap.size=w.heap.size:=World.size_setCell _ _ _
 have hgt:=h.t4 g hg
 have hb:∀ q,dt q≠4→(w.setCell ⟨g,k,none⟩ (.int .i64 (x:Nat))).heap[q]?=w.heap[q]?:=fun q hq=>setCell_else _ _ _ _ _ (by rintro rfl;exact hq hgt)
 have hp:=hb pd (by rw[h.t1];decide)
 refine h.lists (by omega) (fun g _ _=>rfl) (fun g e=>hb g (by omega)) (fun j hj=>(cell_like hp _).trans (h.num j hj)) ((cell_like hp _).trans h.c6) ((cell_like hp _).trans h.c7) ((cell_like hp _).trans h.c8) ((cell_like hp _).trans h.c9) (fun j hj=>(froz_like hp _).trans (h.fz j hj))
  (h.sm.same fun g e=>hb g (by rw[h.t3 g e];decide)) ?_ (h.rt.same fun g e=>hb g (by rw[h.t5 g e];decide)) h.t3 h.t4 h.t5 (fun g e=>by rw[hz];exact h.un g e)
 rw[List.length_set]
 refine (h.sl.put hg k _ hk).congr fun j hj=>?_
 unfold numsV
 rw[getD_setN _ _ _ _ hk]
 by_cases e:j=k
 ·rw[if_pos e,if_pos e]
 ·rw[if_neg e,if_neg e]
theorem DRaw.setR {w:World}{pd:Nat}{dt:Nat→Nat}{N:Nat→Nat}{ol:List Ob}{sm sl:List Nat}{rt:List (Option Nat)}{C:DC} (h:DRaw w pd dt N ol sm sl rt C) {g k:Nat} (hg:C.vR.ownBlock=some g) (hk:k<rt.length) (o:Option Nat):
  DRaw (w.setCell ⟨g,k,none⟩ (.int .i64 (hval o))) pd dt N ol sm sl (rt.set k o) C:=by
 have hz:(w.setCell ⟨g,k,none⟩ (.int .i64 (hval o))).heap.size=w.heap.size:=World.size_setCell _ _ _
 have hgt:=h.t5 g hg
 have hb:∀ q,dt q≠5→(w.setCell ⟨g,k,none⟩ (.int .i64 (hval o))).heap[q]?=w.heap[q]?:=fun q hq=>setCell_else _ _ _ _ _ (by rintro rfl;exact hq hgt)
 have hp:=hb pd (by rw[h.t1];decide)
 refine h.lists (by omega) (fun g _ _=>rfl) (fun g e=>hb g (by omega)) (fun j hj=>(cell_like hp _).trans (h.num j hj)) ((cell_like hp _).trans h.c6) ((cell_like hp _).trans h.c7) ((cell_like hp _).trans h.c8) ((cell_like hp _).trans h.c9) (fun j hj=>(froz_like hp _).trans (h.fz j hj))
  (h.sm.same fun g e=>hb g (by rw[h.t3 g e];decide)) (h.sl.same fun g e=>hb g (by rw[h.t4 g e];decide)) ?_ h.t3 h.t4 h.t5 (fun g e=>by rw[hz];exact h.un g e)
 rw[List.length_set]
 refine (h.rt.put hg k _ hk).congr fun j hj=>?_
 unfold hvalV
 rw[getD_set_opt _ _ _ _ hk]
 by_cases e:j=k
 ·rw[if_pos e,if_pos e]
 ·rw[if_neg e,if_neg e]
theorem ob_set (l:List Ob) (i j:Nat) (o:Ob) (h:i<l.length):(l.set i o).getD j ob0=if j=i then o else l.getD j ob0:=by
 rw[List.getD_eq_getElem?_getD,List.getElem?_set,List.getD_eq_getElem?_getD]
 by_cases e:i=j
 ·subst e;rw[if_pos rfl,if_pos h,if_pos rfl];rfl
 ·rw[if_neg e,if_neg (fun q=>e q.symm)]
theorem DRaw.rewrite {w w':World}{pd:Nat}{dt:Nat→Nat}{N:Nat→Nat}{ol:List Ob}{sm sl:List Nat}{rt:List (Option Nat)}{C:DC} (h:DRaw w pd dt N ol sm sl rt C) {i:Nat} (hi:i<ol.length) (o:Ob) (r s:Value) (hs:w.heap.size≤w'.heap.size)
  (hb:∀ g,dt g≠0→dt g≠2→dt g≠6+2*i→dt g≠7+2*i→w'.heap[g]?=w.heap[g]?) (hO:Wide w' 168 6 C.vO ol.length (fun q=>if q / 6=i then obField { C with rf:=fun _=>r,rw:=fun _=>s } [o] 0 (q%6) else obCell C ol q)) (hR:Line w' 3 r o.refs.length (numsV o.refs)) (hS:Line w' 41 s o.raws.length (wordV o.raws)) (tr:∀ g,r.ownBlock=some g→dt g=6+2*i) (ts:∀ g,s.ownBlock=some g→dt g=7+2*i):
  DRaw w' pd dt N (ol.set i o) sm sl rt { C with rf:=fun j=>if j=i then r else C.rf j,rw:=fun j=>if j=i then s else C.rw j }:=by
 have hp:=hb pd (by rw[h.t1];decide) (by rw[h.t1];decide) (by rw[h.t1];omega) (by rw[h.t1];omega)
 have hg:∀ n g,n≠0→n≠2→n≠6+2*i→n≠7+2*i→dt g=n→w'.heap[g]?=w.heap[g]?:=fun n g h0 h1 h2 h3 e=>hb g (by omega) (by omega) (by omega) (by omega)
 have hl:(ol.set i o).length=ol.length:=List.length_set
 exact {
  num:=fun j hj=>(cell_like hp _).trans (h.num j hj),c6:=(cell_like hp _).trans h.c6,c7:=(cell_like hp _).trans h.c7,c8:=(cell_like hp _).trans h.c8,c9:=(cell_like hp _).trans h.c9
  fz:=fun j hj=>(froz_like hp _).trans (h.fz j hj)
  ob:=by
   rw[hl]
   refine hO.congr fun q hq=>?_
   unfold obCell obField
   dsimp only
   rw[ob_set _ _ _ _ hi]
   by_cases e:q / 6=i
   ·rw[if_pos e,if_pos e,if_pos e,if_pos e];rfl
   ·rw[if_neg e,if_neg e,if_neg e,if_neg e]
  sm:=h.sm.same fun g e=>hg 3 g (by decide) (by decide) (by omega) (by omega) (h.t3 g e)
  sl:=h.sl.same fun g e=>hg 4 g (by decide) (by decide) (by omega) (by omega) (h.t4 g e)
  rt:=h.rt.same fun g e=>hg 5 g (by decide) (by decide) (by omega) (by omega) (h.t5 g e)
  rf:=fun j hj=>by
   rw[hl] at hj
   rw[ob_set _ _ _ _ hi]
   by_cases e:j=i
   ·subst e;rw[if_pos rfl];dsimp only;rw[if_pos rfl];exact hR
   ·rw[if_neg e];dsimp only;rw[if_neg e];exact (h.rf j hj).same fun g e'=>hg (6+2*j) g (by omega) (by omega) (by omega) (by omega) (h.t6 j g hj e')
  rw:=fun j hj=>by
   rw[hl] at hj
   rw[ob_set _ _ _ _ hi]
   by_cases e:j=i
   ·subst e;rw[if_pos rfl];dsimp only;rw[if_pos rfl];exact hS
   ·rw[if_neg e];dsimp only;rw[if_neg e];exact (h.rw j hj).same fun g e'=>hg (7+2*j) g (by omega) (by omega) (by omega) (by omega) (h.t7 j g hj e')
  t1:=h.t1,t2:=h.t2,t3:=h.t3,t4:=h.t4,t5:=h.t5
  t6:=fun j g hj e=>by
   rw[hl] at hj
   dsimp only at e
   by_cases q:j=i
   ·subst q;rw[if_pos rfl] at e;exact tr g e
   ·rw[if_neg q] at e;exact h.t6 j g hj e
  t7:=fun j g hj e=>by
   rw[hl] at hj
   dsimp only at e
   by_cases q:j=i
   ·subst q;rw[if_pos rfl] at e;exact ts g e
   ·rw[if_neg q] at e;exact h.t7 j g hj e
  un:=fun g e=>Nat.lt_of_lt_of_le (h.un g e) hs }
theorem DRaw.fields {w w':World}{pd:Nat}{dt:Nat→Nat}{N:Nat→Nat}{ol:List Ob}{sm sl:List Nat}{rt:List (Option Nat)}{C:DC} (h:DRaw w pd dt N ol sm sl rt C) {i:Nat} (hi:i<ol.length) (o:Ob) (so:SameO (ol.getD i ob0) o) (th:o.there=(ol.getD i ob0).there) (hs:w.heap.size≤w'.heap.size)
  (hb:∀ g,dt g≠0→dt g≠6+2*i→dt g≠7+2*i→w'.heap[g]?=w.heap[g]?) (hR:Line w' 3 (C.rf i) o.refs.length (numsV o.refs)) (hS:Line w' 41 (C.rw i) o.raws.length (wordV o.raws)):
  ∃ C',DRaw w' pd dt N (ol.set i o) sm sl rt C':=by
 refine ⟨_,h.rewrite hi o (C.rf i) (C.rw i) hs (fun g h1 h2 h3 h4=>hb g h1 h3 h4) ?_ hR hS (fun g e=>h.t6 i g hi e) (fun g e=>h.t7 i g hi e)⟩
 refine (h.ob.same fun g e=>hb g (by rw[h.t2 g e];decide) (by rw[h.t2 g e];omega) (by rw[h.t2 g e];omega)).congr fun q hq=>?_
 by_cases e:q / 6=i
 ·rw[if_pos e]
  unfold obCell obField
  rw[e]
  have h1:=so.kd
  have h2:=so.bg
  have h3:=so.pl
  dsimp only
  show _=if q%6=0 then Value.int .i64 (o.kind:Nat) else if q%6=1 then C.rf i else if q%6=2 then C.rw i else if q%6=3 then .bool o.there else if q%6=4 then .bool o.big else .int .i64 (o.at':Nat)
  rw[h1,h2,h3,th]
 ·rw[if_neg e]
theorem DAt.still {w w':World}{pd sn:Nat}{dt:Nat→Nat}{M:Hp}{C:DC} (h:DAt w pd dt M sn C) (k:Below w.heap.size w w'):DAt w' pd dt M sn C:=DRaw.still h k
theorem DAt.setRaw {w:World}{pd sn:Nat}{dt:Nat→Nat}{M:Hp}{C:DC} (h:DAt w pd dt M sn C) {i:Nat} (hi:i<M.objs.length) {g:Nat} (hg:(C.rw i).ownBlock=some g) {t:Nat} (ht:t<(ob M i).raws.length) (v:Nat):
  (∃ C',DAt (w.setCell ⟨g,t,none⟩ (.int .u64 (v:Nat))) pd dt (putO M i { ob M i with raws:=(ob M i).raws.set t v }) sn C')∧Fr dt dt w (w.setCell ⟨g,t,none⟩ (.int .u64 (v:Nat))):=by
 have hgt:=h.t7 i g hi hg
 have hb:∀ q,dt q≠7+2*i→(w.setCell ⟨g,t,none⟩ (.int .u64 (v:Nat))).heap[q]?=w.heap[q]?:=fun q hq=>setCell_else _ _ _ _ _ (by rintro rfl;exact hq hgt)
 refine ⟨DRaw.fields h hi { ob M i with raws:=(ob M i).raws.set t v } ⟨rfl,rfl,List.length_set,rfl,rfl⟩ rfl (by rw[World.size_setCell];exact Nat.le_refl _) (fun q h1 h2 h3=>hb q h3) ((h.rf i hi).same fun q e=>hb q (by rw[h.t6 i q hi e];omega)) ?_,Fr.set (by rw[hgt];omega) _ _⟩
 dsimp only
 rw[List.length_set]
 refine ((h.rw i hi).put hg t _ ht).congr fun j hj=>?_
 unfold wordV
 show _=Value.int .u64 (((ob M i).raws.set t v).getD j 0:Nat)
 rw[getD_setN _ _ _ _ ht]
 by_cases e:j=t
 ·rw[if_pos e,if_pos e]
 ·rw[if_neg e,if_neg e];rfl
theorem DAt.setRef {w:World}{pd sn:Nat}{dt:Nat→Nat}{M:Hp}{C:DC} (h:DAt w pd dt M sn C) {i:Nat} (hi:i<M.objs.length) {g:Nat} (hg:(C.rf i).ownBlock=some g) {t:Nat} (ht:t<(ob M i).refs.length) (v:Nat):
  (∃ C',DAt (w.setCell ⟨g,t,none⟩ (.int .i64 (v:Nat))) pd dt (putO M i { ob M i with refs:=(ob M i).refs.set t v }) sn C')∧Fr dt dt w (w.setCell ⟨g,t,none⟩ (.int .i64 (v:Nat))):=by
 have hgt:=h.t6 i g hi hg
 have hb:∀ q,dt q≠6+2*i→(w.setCell ⟨g,t,none⟩ (.int .i64 (v:Nat))).heap[q]?=w.heap[q]?:=fun q hq=>setCell_else _ _ _ _ _ (by rintro rfl;exact hq hgt)
 refine ⟨DRaw.fields h hi { ob M i with refs:=(ob M i).refs.set t v } ⟨rfl,List.length_set,rfl,rfl,rfl⟩ rfl (by rw[World.size_setCell];exact Nat.le_refl _) (fun q h1 h2 h3=>hb q h2) ?_ ((h.rw i hi).same fun q e=>hb q (by rw[h.t7 i q hi e];omega)),Fr.set (by rw[hgt];omega) _ _⟩
 dsimp only
 rw[List.length_set]
 refine ((h.rf i hi).put hg t _ ht).congr fun j hj=>?_
 unfold numsV
 show _=Value.int .i64 (((ob M i).refs.set t v).getD j 0:Nat)
 rw[getD_setN _ _ _ _ ht]
 by_cases e:j=t
 ·rw[if_pos e,if_pos e]
 ·rw[if_neg e,if_neg e];rfl
theorem dset_any {w:World}{pd sn:Nat}{dt:Nat→Nat}{M:Hp}{C:DC} (h:DAt w pd dt M sn C) (wf:HpWf M) (hn:M.objs.length≤1000000) (h1:1≤M.objs.length) {x:Nat} (hx:x<18446744073709551616) (i:Int) {v:Nat} (hv:v<18446744073709551616):
  Calls Tryz.prog 105 #[.pointer (some ⟨pd,0,none⟩),.int .u64 (x:Nat),.int .i64 i,.int .u64 (v:Nat)] w fun e w'=>e=.returned (.int .i64 ((setM M x i v).2:Nat))∧(∃ C',DAt w' pd dt (setM M x i v).1 sn C')∧Fr dt dt w w':=by
 have H141:=hide (did_any h wf hn h1 hx)
 have HST:Hid (∀ W,Still w W→(∃ C',DAt W pd dt M sn C')∧Fr dt dt w W):=hide (fun W s=>⟨⟨C,h.still s.below⟩,Fr.still s⟩)
 by_cases h0:numOf M x=0
 ·have e:setM M x i v=(M,32):=by unfold setM;rw[if_pos h0]
  rw[e]
  rw[h0] at H141
  clear h wf h0 e
  go_enter Tryz.func105,Tryz.ntmps105
  go_wp2_with fail
  refine (unhide H141).mono ?_
  rintro e w2 ⟨rfl,hS⟩
  have HS:=hide hS
  clear hS H141
  go_wp2_with fail
  all_goals go_ret
  all_goals exact ⟨rfl,unhide HST _ (unhide HS)⟩
 ·have hI:=num_is h0
  have hl:=wf.ln _ hI
  obtain ⟨gO,cO,ar,aw,cr,cw,⟨s0,y0,y1,y2,y3,y4,y5,_,hrf,hrw⟩,_,_,er,ew⟩:=h.obj hl
  have f:M.objs.getD (numOf M x) ob0=ob M (numOf M x):=rfl
  rw[f] at y0 y1 y2 hrf hrw er ew
  obtain ⟨b1,b2⟩:=raws_le wf hI
  have hE:setM M x i v=if 0≤i∧i<((ob M (numOf M x)).refs.length:Nat)∧mayM M v=false then (M,32) else if 0≤i∧i<((ob M (numOf M x)).refs.length+(ob M (numOf M x)).raws.length:Nat) then (putO M (numOf M x) (setO M (numOf M x) i.toNat v),0) else (M,33):=by unfold setM;rw[if_neg h0,fld_len]
  have H141v:Hid (∀ W,Still w W→Calls Tryz.prog 158 #[.pointer (some ⟨pd,0,none⟩),.int .u64 (v:Nat)] W fun e w'=>e=.returned (.int .i64 (numOf M v:Nat))∧Still w w'):=hide (fun W s=>(did_any (h.still s.below) wf hn h1 hv).mono fun e w' ⟨q1,q2⟩=>⟨q1,s.trans q2⟩)
  have HFW:Hid (∀ g t w2 W,aw=some ⟨g,0,none⟩→t<(ob M (numOf M x)).raws.length→Still w w2→Still (w2.setCell ⟨g,t,none⟩ (.int .u64 (v:Nat))) W→(∃ C',DAt W pd dt (putO M (numOf M x) { ob M (numOf M x) with raws:=(ob M (numOf M x)).raws.set t v }) sn C')∧Fr dt dt w W):=hide (fun g t w2 W e ht s s2=>by
   obtain ⟨⟨C',q1⟩,q2⟩:=(h.still s.below).setRaw hl (g:=g) (by rw[ew,e];rfl) ht v
   exact ⟨⟨C',q1.still s2.below⟩,(Fr.still s).trans (q2.trans (Fr.still s2))⟩)
  have HFR:Hid (∀ g t w2 W,ar=some ⟨g,0,none⟩→t<(ob M (numOf M x)).refs.length→Still w w2→Still (w2.setCell ⟨g,t,none⟩ (.int .i64 (numOf M v:Nat))) W→(∃ C',DAt W pd dt (putO M (numOf M x) { ob M (numOf M x) with refs:=(ob M (numOf M x)).refs.set t (numOf M v) }) sn C')∧Fr dt dt w W):=hide (fun g t w2 W e ht s s2=>by
   obtain ⟨⟨C',q1⟩,q2⟩:=(h.still s.below).setRef hl (g:=g) (by rw[er,e];rfl) ht (numOf M v)
   exact ⟨⟨C',q1.still s2.below⟩,(Fr.still s).trans (q2.trans (Fr.still s2))⟩)
  have HSO:Hid (∀ t,t<(ob M (numOf M x)).refs.length→setO M (numOf M x) t v = { ob M (numOf M x) with refs:=(ob M (numOf M x)).refs.set t (numOf M v) }):=hide (fun t ht=>by unfold setO;rw[if_pos ht])
  have HSW:Hid (∀ t,setO M (numOf M x) ((ob M (numOf M x)).refs.length+t) v = { ob M (numOf M x) with raws:=(ob M (numOf M x)).raws.set t v }):=hide (fun t=>by unfold setO;rw[if_neg (by omega),show (ob M (numOf M x)).refs.length+t-(ob M (numOf M x)).refs.length=t by omega])
  have hmay:mayM M v=decide (v=0∨numOf M v≠0):=rfl
  have HRF:=hide hrf
  have HRL:=hide hrw
  obtain ⟨id,hi⟩:∃ id,numOf M x=id:=⟨_,rfl⟩
  rw[hi] at H141 y1 y2 hl h0 hE HRF HRL b1 b2 HFW HFR HSO HSW
  obtain ⟨tn,hto⟩:∃ tn,numOf M v=tn:=⟨_,rfl⟩
  rw[hto] at H141v HFR HSO hmay
  have i1:(0:Int)≤(id:Nat):=by omega
  have i2:(id:Int)<(M.objs.length:Nat):=by omega
  have d0:((id:Int) == 0)=false:=by simp;omega
  have d0':((id:Int)=0)=False:=by simp;omega
  obtain ⟨V,hV⟩:∃ V,setM M x i v=V:=⟨_,rfl⟩
  rw[hV] at hE ⊢
  have w1:IntKind.i64.wrap (((ob M id).refs.length:Int)+((ob M id).raws.length:Int))=((ob M id).refs.length:Int)+((ob M id).raws.length:Int):=wrap_small _ (by omega) (by omega)
  clear h wf hI y3 y4 y5 f hi hV hrf hrw y0 er ew hto
  obtain ⟨rn,hrn⟩:∃ rn,(ob M id).refs.length=rn:=⟨_,rfl⟩
  obtain ⟨wn,hwn⟩:∃ wn,(ob M id).raws.length=wn:=⟨_,rfl⟩
  rw[hrn] at hE HRF b1 HFR HSO w1 y1
  rw[hrn] at HSW
  rw[hwn] at hE HRL b2 HFW w1 y2
  clear hrn hwn
  generalize M.objs.length=n at *
  have HK:Hid (∀ W,Still w W→W.cell? ⟨pd,6,none⟩=some (.slice (some ⟨gO,0,none⟩) n cO)∧W.cell? ⟨gO,id*6+1,none⟩=some (.slice ar rn cr)∧W.cell? ⟨gO,id*6+2,none⟩=some (.slice aw wn cw)):=hide (fun W s=>⟨(s.cell _).trans s0,(s.cell _).trans y1,(s.cell _).trans y2⟩)
  clear s0 y1 y2
  by_cases hbad:i<0∨(rn+wn:Nat)≤i
  ·rw[if_neg (by omega),if_neg (by omega)] at hE
   subst hE
   by_cases hneg:i<0
   ·have d1:decide (i<0)=true:=decide_eq_true hneg
    clear H141v HFW HFR HSO HSW HRF HRL hmay
    go_enter Tryz.func105,Tryz.ntmps105
    go_wp2_with fail
    refine (unhide H141).mono ?_
    rintro e w2 ⟨rfl,hS⟩
    obtain ⟨s0,y1,y2⟩:=unhide HK _ hS
    have HS:=hide hS
    clear hS H141
    go_wp2_with fail
    all_goals go_ret
    all_goals exact ⟨rfl,unhide HST _ (unhide HS)⟩
   ·have d1:decide (i<0)=false:=decide_eq_false hneg
    have d2:decide ((rn:Int)+(wn:Int)≤i)=true:=decide_eq_true (by omega)
    clear H141v HFW HFR HSO HSW HRF HRL hmay
    go_enter Tryz.func105,Tryz.ntmps105
    go_wp2_with fail
    refine (unhide H141).mono ?_
    rintro e w2 ⟨rfl,hS⟩
    obtain ⟨s0,y1,y2⟩:=unhide HK _ hS
    have HS:=hide hS
    clear hS H141
    go_wp2_with fail
    all_goals go_ret
    all_goals exact ⟨rfl,unhide HST _ (unhide HS)⟩
  ·obtain ⟨j,rfl⟩:∃ j:Nat,i=(j:Nat):=⟨i.toNat,by omega⟩
   have d1:decide ((j:Int)<0)=false:=decide_eq_false (by omega)
   have d2:decide ((rn:Int)+(wn:Int)≤(j:Nat))=false:=decide_eq_false (by omega)
   have hJ:(j:Int).toNat=j:=by omega
   rw[hJ] at hE
   by_cases hjr:j<rn
   ·have d3:decide ((rn:Int)≤(j:Nat))=false:=decide_eq_false (by omega)
    have d3':decide (rn≤j)=false:=decide_eq_false (by omega)
    obtain ⟨g,rfl,e0,f0⟩:=unhide HRF j hjr
    have j1:(0:Int)≤(j:Nat):=by omega
    have j2:(j:Int)<(rn:Nat):=by omega
    by_cases hm:v≠0∧tn=0
    ·obtain ⟨hv0,rfl⟩:=hm
     rw[if_pos ⟨by omega,by omega,by rw[hmay];simp [hv0]⟩] at hE
     subst hE
     have d4:((v:Int) != 0)=true:=by simp;omega
     clear HFW HFR HSO HSW HRF HRL hmay hJ
     go_enter Tryz.func105,Tryz.ntmps105
     go_wp2_with fail
     refine (unhide H141).mono ?_
     rintro e w2 ⟨rfl,hS⟩
     obtain ⟨s0,y1,y2⟩:=unhide HK _ hS
     have HS:=hide hS
     clear hS H141
     go_wp2_with fail
     refine (unhide H141v _ (unhide HS)).mono ?_
     rintro e w3 ⟨rfl,hS3⟩
     have HS3:=hide hS3
     clear hS3 H141v
     go_wp2_with fail
     all_goals go_ret
     all_goals exact ⟨rfl,unhide HST _ (unhide HS3)⟩
    ·have hmt:mayM M v=true:=by rw[hmay];simp;omega
     rw[if_neg (by rw[hmt];simp),if_pos (by omega),unhide HSO j hjr] at hE
     subst hE
     have HF:=hide (fun w2 W s s2=>unhide HFR g j w2 W rfl hjr s s2)
     have HEL:Hid (∀ W,Still w W→W.cell? ⟨g,j,none⟩=some (.int .i64 ((ob M id).refs.getD j 0:Nat))∧W.frozen? ⟨g,j,none⟩=false):=hide (fun W s=>⟨(s.cell _).trans e0,by rw[← f0];simp only[World.frozen?,s.heap]⟩)
     obtain ⟨O,hO⟩:∃ O,(ob M id).refs.getD j 0=O:=⟨_,rfl⟩
     simp only[hO] at HEL
     have HV:Hid (v=0∨(v≠0∧tn≠0)):=hide (by omega)
     clear HFW HFR HSO HSW HRF HRL hmay hJ HST hm hmt e0 f0 hO
     obtain ⟨M',hM'⟩:∃ M',putO M id { ob M id with refs:=(ob M id).refs.set j tn } = M':=⟨_,rfl⟩
     rw[hM'] at HF ⊢
     clear hM'
     rcases unhide HV with rfl|⟨hv0,hto0⟩
     ·clear HV
      go_enter Tryz.func105,Tryz.ntmps105
      go_wp2_with fail
      refine (unhide H141).mono ?_
      rintro e w2 ⟨rfl,hS⟩
      obtain ⟨s0,y1,y2⟩:=unhide HK _ hS
      have HS:=hide hS
      clear hS H141
      go_wp2_with fail
      refine (unhide H141v _ (unhide HS)).mono ?_
      rintro e w3 ⟨rfl,hS3⟩
      clear s0 y1 y2
      obtain ⟨s0,y1,y2⟩:=unhide HK _ hS3
      obtain ⟨e0,f0⟩:=unhide HEL _ hS3
      have HS3:=hide hS3
      clear hS3 H141v
      go_wp2_with fail
      all_goals go_ret
      all_goals exact ⟨rfl,unhide HF _ _ (unhide HS3) (Still.refl _)⟩
     ·clear HV
      have d4:((v:Int) != 0)=true:=by simp;omega
      have d5:((tn:Int) == 0)=false:=by simp;omega
      have d5':((tn:Int)=0)=False:=by simp;omega
      go_enter Tryz.func105,Tryz.ntmps105
      go_wp2_with fail
      refine (unhide H141).mono ?_
      rintro e w2 ⟨rfl,hS⟩
      obtain ⟨s0,y1,y2⟩:=unhide HK _ hS
      have HS:=hide hS
      clear hS H141
      go_wp2_with fail
      refine (unhide H141v _ (unhide HS)).mono ?_
      rintro e w3 ⟨rfl,hS3⟩
      clear s0 y1 y2
      obtain ⟨s0,y1,y2⟩:=unhide HK _ hS3
      obtain ⟨e0,f0⟩:=unhide HEL _ hS3
      have HS3:=hide hS3
      clear hS3 H141v
      go_wp2_with fail
      all_goals go_ret
      all_goals exact ⟨rfl,unhide HF _ _ (unhide HS3) (Still.refl _)⟩
   ·have d3:decide ((rn:Int)≤(j:Nat))=true:=decide_eq_true (by omega)
    have d3':decide (rn≤j)=true:=decide_eq_true (by omega)
    obtain ⟨t,rfl⟩:∃ t:Nat,j=rn+t:=⟨j-rn,by omega⟩
    rw[if_neg (by omega),if_pos (by omega),unhide HSW t] at hE
    subst hE
    obtain ⟨g,rfl,e0,f0⟩:=unhide HRL t (by omega)
    have HF:=hide (fun w2 W s s2=>unhide HFW g t w2 W rfl (by omega) s s2)
    have HEL:Hid (∀ W,Still w W→W.cell? ⟨g,t,none⟩=some (.int .u64 ((ob M id).raws.getD t 0:Nat))∧W.frozen? ⟨g,t,none⟩=false):=hide (fun W s=>⟨(s.cell _).trans e0,by rw[← f0];simp only[World.frozen?,s.heap]⟩)
    obtain ⟨O,hO⟩:∃ O,(ob M id).raws.getD t 0=O:=⟨_,rfl⟩
    simp only[hO] at HEL
    have j1:(0:Int)≤(t:Nat):=by omega
    have j2:(t:Int)<(wn:Nat):=by omega
    have j3:IntKind.i64.wrap (((rn+t:Nat):Int)-(rn:Int))=(t:Int):=by rw[show ((rn+t:Nat):Int)-(rn:Int)=(t:Int) by omega];exact wrap_small _ (by omega) (by omega)
    clear HFW HFR HSO HSW HRF HRL hmay hJ HST e0 f0 hO H141v
    obtain ⟨M',hM'⟩:∃ M',putO M id { ob M id with raws:=(ob M id).raws.set t v } = M':=⟨_,rfl⟩
    rw[hM'] at HF ⊢
    clear hM'
    obtain ⟨z,hz⟩:∃ z:Nat,rn+t=z:=⟨_,rfl⟩
    rw[hz] at d1 d2 d3 d3' j3 ⊢
    clear hz
    go_enter Tryz.func105,Tryz.ntmps105
    go_wp2_with fail
    refine (unhide H141).mono ?_
    rintro e w2 ⟨rfl,hS⟩
    obtain ⟨s0,y1,y2⟩:=unhide HK _ hS
    obtain ⟨e0,f0⟩:=unhide HEL _ hS
    have HS:=hide hS
    clear hS H141
    go_wp2_with fail
    all_goals go_ret
    all_goals exact ⟨rfl,unhide HF _ _ (unhide HS) (Still.refl _)⟩
structure Limbs (ps ph b gN nN cN i:Nat) (dd A hh gg:Int) (vv:Nat) (vr vw:Value) (W:World):Prop where
 c0:W.cell? ⟨ps,0,none⟩=some (.pointer (some ⟨ph,0,none⟩))
 c1:W.cell? ⟨ps,1,none⟩=some (.slice (some ⟨gN,0,none⟩) nN cN)
 m0:W.cell? ⟨b,0,none⟩=some (.int .i64 dd)
 m1:W.cell? ⟨b,1,none⟩=some (.int .i64 A)
 m4:W.cell? ⟨b,4,none⟩=some (.int .i64 hh)
 m5:W.cell? ⟨b,5,none⟩=some (.int .i64 gg)
 m6:W.cell? ⟨b,6,none⟩=some (.int .u64 (vv:Nat))
 n1:W.cell? ⟨gN,i*3+1,none⟩=some vr
 n2:W.cell? ⟨gN,i*3+2,none⟩=some vw
structure LimbW (ps ph b gN nN cN i:Nat) (A:Int) (dv vw:Value) (W:World):Prop where
 c0:W.cell? ⟨ps,0,none⟩=some (.pointer (some ⟨ph,0,none⟩))
 c1:W.cell? ⟨ps,1,none⟩=some (.slice (some ⟨gN,0,none⟩) nN cN)
 m1:W.cell? ⟨b,1,none⟩=some (.int .i64 A)
 m7:W.cell? ⟨b,7,none⟩=some dv
 n2:W.cell? ⟨gN,i*3+2,none⟩=some vw
structure WrI (ga lw:Nat) (L:List Nat) (w5 W:World):Prop where
 os:W.os=w5.os
 tape:W.tape=w5.tape
 output:W.output=w5.output
 size:W.heap.size=w5.heap.size
 blk:∀ g,g≠ga→W.heap[g]?=w5.heap[g]?
 cel:∀ j,j<lw→W.cell? ⟨ga,j,none⟩=some (.int .u64 (L.getD j 0:Nat))∧W.frozen? ⟨ga,j,none⟩=false
 shp:∀ cur t c2,w5.heap[ga]?=some (.cells cur t c2)→∃ cur',W.heap[ga]?=some (.cells cur' t c2)∧cur'.size=cur.size
structure Held (M:Hp) (ns:List (Nat × List Nat × List Nat)) (i:Nat):Prop where
 is:Is M i
 ln:i<ns.length
 dt:ns.getD i (0,[],[])=dat (ob M i)
 nb:numOf M (refW M i)=i
 lt:refW M i<18446744073709551616
theorem root_is {M:Hp} (ok:HpOk M) {m i:Nat} (hm:m<M.roots.length) (hi:M.roots.getD m none=some i):i=0∨Is M i:=by
 refine ok.rt i ?_
 rw[List.getD_eq_getElem?_getD,List.getElem?_eq_getElem hm] at hi
 have:M.roots[m]=some i:=hi
 rw[← this];exact List.getElem_mem hm
structure DataOk (w0:World) (A:Int) (vv:Nat) (da:Option Addr) (dc:Nat) (d:List Nat):Prop where
 a1:-9223372036854775808≤A
 a2:A≤9223372036854775807
 vl:vv<18446744073709551616
 dl:d.length≤140737488355328
 sm:Small d
 by':Bytes w0 da d
 nl:da=none→dc=0
structure LimbS (ps ph b:Nat) (dd A B Cc hh gg:Int) (vv:Nat) (dv vH:Value) (W:World):Prop where
 c0:W.cell? ⟨ps,0,none⟩=some (.pointer (some ⟨ph,0,none⟩))
 c2:W.cell? ⟨ps,2,none⟩=some vH
 bx:Boxed W b dd A B Cc hh gg vv dv
def ResR (M:Hp) (A:Int) (M':Hp) (last:Nat):Prop:=
 (¬ (64≤A∧A≤524288)∧M'=M∧last=36)∨((64≤A∧A≤524288)∧∃ M1,IsColl M M1∧((((A.toNat:Nat)<M1.used∨M1.limit<2*A.toNat+M1.large)∧last=31∧M'=M1)∨((M1.used≤A.toNat∧2*A.toNat+M1.large≤M1.limit)∧last=0∧M'=becM M1 A.toNat)))
structure MvL where
 K:Int
 A:Int
 B:Int
 C:Int
 H:Int
 G:Int
 V:Nat
 a:Option Addr
 l:List Nat
 c:Nat
structure MvAt (w:World) (b o:Nat) (q:MvL):Prop where
 m0:w.cell? ⟨b,o,none⟩=some (.int .i64 q.K)
 m1:w.cell? ⟨b,o+1,none⟩=some (.int .i64 q.A)
 m2:w.cell? ⟨b,o+2,none⟩=some (.int .i64 q.B)
 m3:w.cell? ⟨b,o+3,none⟩=some (.int .i64 q.C)
 m4:w.cell? ⟨b,o+4,none⟩=some (.int .i64 q.H)
 m5:w.cell? ⟨b,o+5,none⟩=some (.int .i64 q.G)
 m6:w.cell? ⟨b,o+6,none⟩=some (.int .u64 (q.V:Nat))
 m7:w.cell? ⟨b,o+7,none⟩=some (.slice q.a q.l.length q.c)
def whr (M:Hp) (k:Wk) (j:Nat):Nat:=if j∈k.cop∨j∈k.lin then refW M j else 0
def wordsK (M:Hp) (k:Wk):Nat:=1+(k.cop.map fun i=>osz (ob M i)).sum
def largeK (M:Hp) (k:Wk):Nat:=(k.lin.map fun i=>1+osz (ob M i)).sum
structure SeenC where
 vS:Value
 vB:Value
 vW:Value
structure SeenAt (w:World) (b0 px:Nat) (M:Hp) (N:Nat) (k:Wk) (V:SeenC):Prop where
 c0:w.cell? ⟨px,0,none⟩=some V.vS
 c1:w.cell? ⟨px,1,none⟩=some V.vB
 c2:w.cell? ⟨px,2,none⟩=some V.vW
 c3:w.cell? ⟨px,3,none⟩=some (.int .i64 (wordsK M k:Nat))
 c4:w.cell? ⟨px,4,none⟩=some (.int .i64 (largeK M k:Nat))
 fz:∀ i,i<5→w.frozen? ⟨px,i,none⟩=false
 s:Line w 41 V.vS k.cop.length (fun j=>.int .u64 (refW M (k.cop.getD j 0):Nat))
 b:Line w 41 V.vB k.lin.length (fun j=>.int .u64 (refW M (k.lin.getD j 0):Nat))
 h:Line w 41 V.vW N (fun j=>.int .u64 (whr M k j:Nat))
 lo:b0≤px∧∀ g,(V.vS.ownBlock=some g∨V.vB.ownBlock=some g∨V.vW.ownBlock=some g)→b0≤g∧g≠px
 d1:∀ g,V.vS.ownBlock=some g→V.vB.ownBlock≠some g
 d2:∀ g,V.vS.ownBlock=some g→V.vW.ownBlock≠some g
 d3:∀ g,V.vB.ownBlock=some g→V.vW.ownBlock≠some g
def AllIs (M:Hp) (k:Wk):Prop:=∀ i,i∈k.cop∨i∈k.lin→Is M i
theorem Still.setC {w wr:World} (h:Still w wr) (a:Addr) (v:Value):Still (w.setCell a v) (wr.setCell a v):=by
 obtain ⟨h1,h2,h3,h4⟩:=h
 refine ⟨h1,h2,h3,?_⟩
 unfold World.setCell
 rw[h4]
theorem Pu.all {M:Hp}{k:Wk} (p:Pu M k):AllIs M k:=fun i hi=>hi.elim (fun h=>.inl (p.cs i h)) (fun h=>.inr (p.ls i h))
theorem Grew.own {e:TypeId}{n:Nat}{u:Value}{w w':World}{v v':Value} (h:Grew e n u w w' v v') (g:Nat) (hg:v'.ownBlock=some g):v.ownBlock=some g∨w.heap.size≤g:=by
 rcases h.how with ⟨x,cur,e1,e2,_⟩|⟨e,_⟩
 ·left;rw[e1,← e2];exact hg
 ·right;rw[e] at hg;cases hg;exact Nat.le_refl _
theorem Fin'.pu {M:Hp}{k:Wk} (f:Fin' M k):Pu M k:=⟨f.nd,f.cs,f.ls⟩
structure NodeM (w:World) (ps:Nat) (M:Hp) (i gN cN:Nat) (ar aw:Option Addr) (cr cw:Nat):Prop where
 x1:w.cell? ⟨ps,1,none⟩=some (.slice (some ⟨gN,0,none⟩) M.objs.length cN)
 y0:w.cell? ⟨gN,i*3,none⟩=some (.int .i64 ((ob M i).kind:Nat))
 y1:w.cell? ⟨gN,i*3+1,none⟩=some (.slice ar (ob M i).refs.length cr)
 y2:w.cell? ⟨gN,i*3+2,none⟩=some (.slice aw (ob M i).raws.length cw)
 rf:∀ j,j<(ob M i).refs.length→∃ g,ar=some ⟨g,0,none⟩∧w.cell? ⟨g,j,none⟩=some (.int .i64 ((ob M i).refs.getD j 0:Nat))
 rw:∀ j,j<(ob M i).raws.length→∃ g,aw=some ⟨g,0,none⟩∧w.cell? ⟨g,j,none⟩=some (.int .u64 ((ob M i).raws.getD j 0:Nat))
 lt:i<M.objs.length
end Go.Proofs.YtidfllgaeiopjabGreat
