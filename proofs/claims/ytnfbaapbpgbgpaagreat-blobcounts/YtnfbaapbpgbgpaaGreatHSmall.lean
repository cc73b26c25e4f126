import Derived.Test.YtnfbaapbpgbgpaaGreatPool4
namespace Go.Proofs.YtnfbaapbpgbgpaaGreat
open Go.ChangeShapes Go.WideShapes Go.ChangeAt Go.RowKit
set_option linter.unusedVariables false
set_option maxRecDepth 100000
set_option maxHeartbeats 2000000
theorem PoolRaw.lay {w:World}{b o g:Nat}{E:TypeId}{enc:Nat→Value}{z:Value}{c:List (Option Nat)}{fr:List Nat}{k:Nat}{vc vf:Value} (h:PoolRaw w b o E enc z c fr k vc vf) (hg:vc.ownBlock=some g) (n:Nat) (hn:n<c.length) (x:Option Nat) (k':Nat) (W:World) (hW:W=((w.setCell ⟨g,n*2,none⟩ (thing enc z x)).setCell ⟨g,n*2+1,none⟩ (.bool x.isSome)).setCell ⟨b,o+2,none⟩ (.int .i64 (k':Nat))):
  PoolRaw W b o E enc z (c.set n x) fr k' vc vf∧PChg b o vc vf w W:=by
 have hgb:g≠b:=fun e=>h.a0 (by rw[hg,e])
 have hbl:∀ q,q≠g→q≠b→W.heap[q]?=w.heap[q]?:=fun q h1 h2=>by rw[hW,setCell_else _ _ _ _ _ h2,setCell_else _ _ _ _ _ h1,setCell_else _ _ _ _ _ h1]
 have hcb:∀ q,q≠o+2→W.cell? ⟨b,q,none⟩=w.cell? ⟨b,q,none⟩:=fun q hq=>by
  rw[hW,World.cell?_setCell_other _ _ _ _ (by intro e;cases e;exact hq rfl),World.cell?_setCell_other _ _ _ _ (fun e=>hgb (congrArg Addr.block e)),World.cell?_setCell_other _ _ _ _ (fun e=>hgb (congrArg Addr.block e))]
 have hfb:∀ q,W.frozen? ⟨b,q,none⟩=w.frozen? ⟨b,q,none⟩:=fun q=>by rw[hW,World.frozen?_setCell,World.frozen?_setCell,World.frozen?_setCell]
 have hrow:Wide W E 2 vc (c.set n x).length (pc enc z (c.set n x)):=by
  rw[List.length_set]
  have q1:=((h.row.put hg (n*2) (thing enc z x) (by omega)).put hg (n*2+1) (.bool x.isSome) (by omega)).same (w':=W) (fun q hq=>by rw[hW,setCell_else _ _ _ _ _ (fun e=>h.a0 (by rw[hq,e]))])
  refine q1.congr (fun j hj=>?_)
  rw[pc_set _ _ _ _ _ hn]
 exact ⟨⟨(hcb o (by omega)).trans h.c0,(hcb (o+1) (by omega)).trans h.c1,by rw[hW];exact World.cell?_setCell_same' _ _ _ (by rw[World.cell?_setCell_other _ _ _ _ (fun e=>hgb (congrArg Addr.block e)),World.cell?_setCell_other _ _ _ _ (fun e=>hgb (congrArg Addr.block e)),h.c2];rfl),(hfb _).trans h.f0,(hfb _).trans h.f1,(hfb _).trans h.f2,hrow,h.frl.same (fun q hq=>hbl q (fun e=>h.a2 g hg (by rw[← e];exact hq)) (fun e=>h.a1 (by rw[← e];exact hq))),h.a0,h.a1,h.a2⟩,
  ⟨by rw[hW];exact (((But.refl _ _).set ⟨g,n*2,none⟩ (by simp [mem_gB,hg]) _).set ⟨g,n*2+1,none⟩ (by simp [mem_gB,hg]) _).set ⟨b,o+2,none⟩ (by simp) _,fun q _ _ q3=>hcb q q3,hfb⟩⟩
theorem countOf_drop (c:List (Option Nat)) (n:Nat) (h:c.getD n none≠none):countOf (c.set n none)+1=countOf c:=by
 unfold countOf
 induction c generalizing n with
 | nil=>simp at h
 | cons y c ih=>
  cases n with
  | zero=>
   cases y with
   | none=>simp at h
   | some y=>simp
  | succ n=>
   have:=ih n (by simpa using h)
   cases y <;> simp [← this]
theorem countOf_take:∀ (c:List (Option Nat)) (m:Nat),(∀ q,m≤q→c.getD q none=none)→countOf (c.take m)=countOf c
 | [],m,_=>by simp
 | y :: c,0,h=>by
  have h0:=h 0 (Nat.le_refl _)
  have ih:=countOf_take c 0 (fun q _=>by have:=h (q+1) (Nat.zero_le _);simpa using this)
  have hy:y=none:=by simpa using h0
  subst hy
  unfold countOf at *
  simpa using ih
 | y :: c,m+1,h=>by
  have ih:=countOf_take c m (fun q hq=>by have:=h (q+1) (by omega);simpa using this)
  unfold countOf at *
  cases y <;> simp [ih]
def encP (x:Nat):Value:=.pointer (some ⟨x,0,none⟩)
theorem hasB_any {w:World}{b o:Nat}{enc:Nat→Value}{z:Value}{c:List (Option Nat)}{fr:List Nat}{vc vf:Value} (h:PoolAt w b o 208 enc z c fr vc vf) (n:Int):
  Calls Tryz.prog 155 #[.pointer (some ⟨b,o,none⟩),.int .i64 n] w fun e w'=>e=.returned (.bool (poolHas c n))∧w'=w:=by
 obtain ⟨a,cap,hv⟩:=h.row.shape
 have c0:=h.c0
 have hlc:=h.lc
 by_cases h0:0≤n
 ·obtain ⟨m,rfl⟩:=Int.eq_ofNat_of_zero_le h0
  by_cases h1:m<c.length
  ·obtain ⟨g,cap',hv',hg,hc⟩:=h.row.at (by omega)
   rw[hv] at hv'
   cases hv'
   have c1:=(hc (m*2+1) (by omega)).1
   rw[pc_used] at c1
   have hr:poolHas c (m:Nat)=(c.getD m none).isSome:=by simp [poolHas]
   rw[hr]
   subst hv
   generalize (c.getD m none).isSome=u at *
   clear h hc hr
   go_enter Tryz.func155,Tryz.ntmps155
   go_wp2
   go_ret
   exact ⟨rfl,rfl⟩
  ·have hr:poolHas c (m:Nat)=false:=by
    simp only[poolHas,Int.toNat_natCast]
    rw[List.getD_eq_getElem?_getD,List.getElem?_eq_none (by omega)];simp
   rw[hr]
   subst hv
   clear h hr
   go_enter Tryz.func155,Tryz.ntmps155
   go_wp2
   go_ret
   exact ⟨rfl,rfl⟩
 ·have hr:poolHas c n=false:=by simp [poolHas,h0]
  rw[hr]
  subst hv
  clear h hr
  go_enter Tryz.func155,Tryz.ntmps155
  go_wp2
  go_ret
  exact ⟨rfl,rfl⟩
theorem getB_any {w:World}{b o:Nat}{c:List (Option Nat)}{fr:List Nat}{vc vf:Value} (h:PoolAt w b o 208 encP (.pointer none) c fr vc vf) (n:Int):
  Calls Tryz.prog 123 #[.pointer (some ⟨b,o,none⟩),.int .i64 n] w fun e w'=>e=.returned (.tuple #[thing encP (.pointer none) (poolGet c n),.bool (poolGet c n).isSome])∧w'=w:=by
 have HH:=hide (hasB_any h n)
 rw[has_get] at HH
 cases hg:poolGet c n with
 | none=>
  rw[hg] at HH
  clear hg h
  go_enter Tryz.func123,Tryz.ntmps123
  go_wp2_with fail
  refine (unhide HH).mono ?_
  clear HH
  rintro e w1 ⟨rfl,rfl⟩
  go_wp2
  go_ret2
  exact ⟨rfl,rfl⟩
 | some x=>
  rw[hg] at HH
  have hn0:0≤n:=by
   by_cases h0:0≤n
   ·exact h0
   ·simp [poolGet,h0] at hg
  obtain ⟨m,rfl⟩:=Int.eq_ofNat_of_zero_le hn0
  have hm:c.getD m none=some x:=by simpa [poolGet] using hg
  have hlt:m<c.length:=by
   by_cases h1:m<c.length
   ·exact h1
   ·rw[List.getD_eq_getElem?_getD,List.getElem?_eq_none (by omega)] at hm;cases hm
  obtain ⟨g,cap,hv,_,hc⟩:=h.row.at (by omega)
  have c0:=h.c0
  have c1:=(hc (m*2) (by omega)).1
  rw[pc_thing,hm] at c1
  change w.cell? ⟨g,m*2,none⟩=some (.pointer (some ⟨x,0,none⟩)) at c1
  show Calls Tryz.prog 123 #[.pointer (some ⟨b,o,none⟩),.int .i64 (m:Nat)] w fun e w'=>e=.returned (.tuple #[.pointer (some ⟨x,0,none⟩),.bool true])∧w'=w
  subst hv
  have hlc:=h.lc
  clear hg h hc hm
  go_enter Tryz.func123,Tryz.ntmps123
  go_wp2_with fail
  refine (unhide HH).mono ?_
  clear HH
  rintro e w1 ⟨rfl,rfl⟩
  go_wp2
  go_ret2
  exact ⟨rfl,rfl⟩
theorem Tryz.info208:(Tryz.prog.info? 208).map (fun i=>(i.zero,i.size,i.bytes))=some (some (.agg #[.pointer none,.bool false]),2,16):=by kernel_rfl
theorem lowestB_pop {w:World}{b o:Nat}{enc:Nat→Value}{z:Value}{c:List (Option Nat)}{fr:List Nat}{k:Nat}{vc vf:Value} (h:PoolRaw w b o 208 enc z c fr k vc vf) (ho:HO fr.length (fun q=>fr.getD q 0)) (lf:fr.length≤1000000) (lc:c.length≤1000000) (h0:0<fr.length) (n:Nat) (hn:fr.getD 0 0=n) (hnc:n<c.length):
  Calls Tryz.prog 153 #[.pointer (some ⟨b,o,none⟩)] w fun e w'=>e=.returned (.int .i64 (n:Nat))∧∃ fr' vf',(n :: fr').Perm fr∧HO fr'.length (fun q=>fr'.getD q 0)∧PoolRaw w' b o 208 enc z c fr' k vc vf'∧vf'.ownBlock=vf.ownBlock∧NChg b (o+1) vf w w':=by
 obtain ⟨m,hm⟩:∃ m,fr.length=m+1:=⟨fr.length-1,by omega⟩
 have HP:Hid (∀ nq,Calls Tryz.prog 121 #[.iface 191 (.pointer (some ⟨b,o+1,none⟩))] (w.drewN nq) fun e w'=>e=.returned (.iface 3 (.int .i64 (n:Nat)))∧∃ v' l',(n :: l').Perm fr∧HO l'.length (fun k=>l'.getD k 0)∧w'.cell? ⟨b,o+1,none⟩=some v'∧Line w' 3 v' l'.length (nv l')∧v'.ownBlock=vf.ownBlock∧NChg b (o+1) vf w w'):=hide (fun nq=>by
  have k:Still w (w.drewN nq):=(Still.refl w).drew nq
  have h':=h.still k
  refine (pop_any _ h'.c1 h'.f1 h'.frl h'.a1 m hm (by omega) ho n hn).mono (fun e w' hh=>?_)
  obtain ⟨e1,v',l',p1,p2,p3,p4,p5,p6⟩:=hh
  exact ⟨e1,v',l',p1,p2,p3,p4,p5,p6.of_still k⟩)
 obtain ⟨g,cap,hv,hg,hc⟩:=h.frl.at (by omega)
 obtain ⟨ac,capc,hvc⟩:=h.row.shape
 have c0:=h.c0
 have c1:=h.c1
 have cf:=(hc 0 (by omega)).1
 unfold nv at cf
 rw[hn] at cf
 have hbw:b<w.heap.size:=by have:=block_lt_of_cell h.c0;simpa using this
 have HFIN:Hid (∀ w' v' l',(n :: l').Perm fr→HO l'.length (fun k=>l'.getD k 0)→w'.cell? ⟨b,o+1,none⟩=some v'→Line w' 3 v' l'.length (nv l')→v'.ownBlock=vf.ownBlock→NChg b (o+1) vf w w'→∃ fr' vf',(n :: fr').Perm fr∧HO fr'.length (fun q=>fr'.getD q 0)∧PoolRaw w' b o 208 enc z c fr' k vc vf'∧vf'.ownBlock=vf.ownBlock∧NChg b (o+1) vf w w'):=hide (fun w' v' l' p1 p2 p3 p4 p5 p6=>
  ⟨l',v',p1,p2,⟨(p6.cell o (by omega)).trans h.c0,p3,(p6.cell (o+2) (by omega)).trans h.c2,(p6.froz o).trans h.f0,(p6.froz (o+1)).trans h.f1,(p6.froz (o+2)).trans h.f2,h.row.same (fun q hq=>p6.but.block q (h.row.lt q hq) (by
   simp only[List.mem_cons,not_or,mem_gB]
   exact ⟨fun e=>h.a0 (by rw[hq,e]),h.a2 q hq⟩)),p4,h.a0,by rw[p5];exact h.a1,fun q hq=>by rw[p5];exact h.a2 q hq⟩,p5,p6⟩)
 have hta:∀ W:World,(Instr.typeAssert (.iface 3 (.int .i64 (n:Nat))) 20 3 false).run Tryz.prog W=.ok (.int .i64 (n:Nat)) W:=fun _=>by kernel_rfl
 have HV:=hide hv
 subst hvc
 rw[hv] at c1
 have d1:decide ((0:Int)<(fr.length:Nat))=true:=decide_eq_true (by omega)
 have d2:decide (((n:Nat):Int)<(c.length:Nat))=true:=decide_eq_true (by omega)
 clear h ho hc hg
 go_enter Tryz.func153,Tryz.ntmps153
 go_wp2_with fail
 go_quiet (fail)
 go_wp2_with fail
 refine (unhide HP _).mono ?_
 rintro e w1 ⟨rfl,v1,l1,p1,p2,p3,p4,p5,p6⟩
 have HF:=hide (unhide HFIN w1 v1 l1 p1 p2 p3 p4 p5 p6)
 clear HFIN HP p1 p2 p3 p4 p5 p6
 go_wp2
 go_ret
 exact ⟨rfl,unhide HF⟩
theorem lowestB_grow {w:World}{b o:Nat}{c:List (Option Nat)}{fr:List Nat}{k:Nat}{vc vf:Value} (h:PoolRaw w b o 208 encP (.pointer none) c fr k vc vf) (lf:fr.length≤1000000) (lc:c.length≤1000000) (hx:fr.length=0∨c.length≤fr.getD 0 0) (hbig:∀ j,j<fr.length→fr.getD j 0≤1099511627776):
  Calls Tryz.prog 153 #[.pointer (some ⟨b,o,none⟩)] w fun e w'=>e=.returned (.int .i64 (c.length:Nat))∧∃ vc' vf',PoolRaw w' b o 208 encP (.pointer none) (c ++ [none]) [] k vc' vf'∧Own2 w vc vc'∧(∀ g,vf'.ownBlock=some g→vf.ownBlock=some g)∧PChg b o vc vf w w':=by
 obtain ⟨i0,hi,hy0,hy1,hy2⟩:=info_parts Tryz.info208
 have hbw:b<w.heap.size:=by have:=block_lt_of_cell h.c0;simpa using this
 obtain ⟨af,capf,hvf⟩:=h.frl.shape
 obtain ⟨ac,capc,hvc⟩:=h.row.shape
 have c0:=h.c0
 have c1:=h.c1
 have f0:=h.f0
 have f1:=h.f1
 have hbr:∀ nq g,g≠b→g<w.heap.size→(((w.drewN nq).setCell ⟨b,o+1,none⟩ (.slice af 0 capf)).alloc (.cells #[.pointer none,.bool false] 208)).heap[g]?=w.heap[g]?:=fun nq g hg hl=>by
  rw[heap_alloc_old _ _ (by simpa using hl),setCell_else _ _ _ _ _ hg];rfl
 have HROW:Hid (∀ nq,Wide (((w.drewN nq).setCell ⟨b,o+1,none⟩ (.slice af 0 capf)).alloc (.cells #[.pointer none,.bool false] 208)) 208 2 vc c.length (pc encP (.pointer none) c)):=hide (fun nq=>h.row.same (fun g hg=>hbr nq g (by rintro rfl;exact h.a0 hg) (h.row.lt g hg)))
 have HC2:Hid (∀ nq,∀ (j:Nat) (x:Value),([.pointer none,.bool false]:List Value)[j]?=some x→(((w.drewN nq).setCell ⟨b,o+1,none⟩ (.slice af 0 capf)).alloc (.cells #[.pointer none,.bool false] 208)).cell? ⟨w.heap.size,j,none⟩=some x):=hide (fun nq j x hj=>by
  have hn:=heap_alloc_new ((w.drewN nq).setCell ⟨b,o+1,none⟩ (.slice af 0 capf)) (.cells #[.pointer none,.bool false] 208)
  have hs:((w.drewN nq).setCell ⟨b,o+1,none⟩ (.slice af 0 capf)).heap.size=w.heap.size:=by simp
  rw[hs] at hn
  simp only[World.cell?,hn]
  rw[← hj];simp)
 have HFIN:Hid (∀ nq v' w',Wide w' 208 2 v' (c.length+1) (fun j=>if j<c.length*2 then pc encP (.pointer none) c j else ([.pointer none,.bool false]:List Value).getD (j-c.length*2) undef)→
   w'.os=(((w.drewN nq).setCell ⟨b,o+1,none⟩ (.slice af 0 capf)).alloc (.cells #[.pointer none,.bool false] 208)).os∧w'.tape=(((w.drewN nq).setCell ⟨b,o+1,none⟩ (.slice af 0 capf)).alloc (.cells #[.pointer none,.bool false] 208)).tape∧w'.output=(((w.drewN nq).setCell ⟨b,o+1,none⟩ (.slice af 0 capf)).alloc (.cells #[.pointer none,.bool false] 208)).output→
   ((∃ g,vc.ownBlock=some g∧v'.ownBlock=some g∧w'.heap.size=w.heap.size+1∧∀ k,k≠g→w'.heap[k]?=(((w.drewN nq).setCell ⟨b,o+1,none⟩ (.slice af 0 capf)).alloc (.cells #[.pointer none,.bool false] 208)).heap[k]?)∨(v'.ownBlock=some (w.heap.size+1)∧w'.heap.size=w.heap.size+1+1∧∀ k,k<w.heap.size+1→w'.heap[k]?=(((w.drewN nq).setCell ⟨b,o+1,none⟩ (.slice af 0 capf)).alloc (.cells #[.pointer none,.bool false] 208)).heap[k]?))→
   w'.cell? ⟨b,o,none⟩=some vc∧w'.frozen? ⟨b,o,none⟩=false∧(∃ a cap,v'=.slice a (c.length+1) cap)∧∃ vc' vf',PoolRaw (w'.setCell ⟨b,o,none⟩ v') b o 208 encP (.pointer none) (c ++ [none]) [] k vc' vf'∧Own2 w vc vc'∧(∀ g,vf'.ownBlock=some g→vf.ownBlock=some g)∧PChg b o vc vf w (w'.setCell ⟨b,o,none⟩ v')):=hide (fun nq v' w' hw hos hg=>by
  have hold:∀ q,q<w.heap.size→vc.ownBlock≠some q→w'.heap[q]?=(((w.drewN nq).setCell ⟨b,o+1,none⟩ (.slice af 0 capf)).alloc (.cells #[.pointer none,.bool false] 208)).heap[q]?:=fun q hq hne=>by
   rcases hg with ⟨g,e1,e2,e3,e4⟩|⟨e1,e2,e3⟩
   ·exact e4 q (fun e=>hne (by rw[e1,e]))
   ·exact e3 q (by omega)
  have hbb:w'.heap[b]?=((w.drewN nq).setCell ⟨b,o+1,none⟩ (.slice af 0 capf)).heap[b]?:=by
   rw[hold b hbw h.a0,heap_alloc_old _ _ (by simpa using hbw)]
  have hcell:∀ q,w'.cell? ⟨b,q,none⟩=((w.drewN nq).setCell ⟨b,o+1,none⟩ (.slice af 0 capf)).cell? ⟨b,q,none⟩:=fun q=>by simp only[World.cell?,hbb]
  have hfroz:∀ q,w'.frozen? ⟨b,q,none⟩=w.frozen? ⟨b,q,none⟩:=fun q=>by
   have:w'.frozen? ⟨b,q,none⟩=((w.drewN nq).setCell ⟨b,o+1,none⟩ (.slice af 0 capf)).frozen? ⟨b,q,none⟩:=by simp only[World.frozen?,hbb]
   rw[this,World.frozen?_setCell];rfl
  have hsize:w.heap.size≤w'.heap.size:=by rcases hg with ⟨g,e1,e2,e3,e4⟩|⟨e1,e2,e3⟩ <;> omega
  have hco:∀ q,q≠o+1→w'.cell? ⟨b,q,none⟩=w.cell? ⟨b,q,none⟩:=fun q hq=>by
   rw[hcell q,World.cell?_setCell_other _ _ _ _ (by intro e;cases e;exact hq rfl)];rfl
  have hv':v'.ownBlock≠some b:=by
   rcases hg with ⟨g,e1,e2,e3,e4⟩|⟨e1,e2,e3⟩
   ·rw[e2,← e1];exact h.a0
   ·rw[e1];intro e;cases e;omega
  have hown:Own2 w vc v':=fun g hv=>by
   rcases hg with ⟨g',e1,e2,e3,e4⟩|⟨e1,e2,e3⟩
   ·left;rw[e1,← e2];exact hv
   ·right;rw[e1] at hv;cases hv;omega
  have hfo:∀ g,(Value.slice af 0 capf).ownBlock=some g→vf.ownBlock=some g:=fun g hg=>by rw[hvf];cases af <;> exact hg
  have hc1:w'.cell? ⟨b,o+1,none⟩=some (.slice af 0 capf):=by
   rw[hcell (o+1)]
   exact World.cell?_setCell_same' _ _ _ (by show (w.cell? ⟨b,o+1,none⟩).isSome=true;rw[h.c1];rfl)
  have hfl:Line (w'.setCell ⟨b,o,none⟩ v') 3 (.slice af 0 capf) 0 (nv []):=by
   rcases h.frl with ⟨e1,e2⟩|⟨g,cap,cur,e1,e2,e3,e4,e5,e6⟩
   ·rw[hvf] at e1
    injection e1 with e11 e12 e13
    subst e11
    subst e13
    exact .inl ⟨rfl,rfl⟩
   ·rw[hvf] at e1;cases e1
    have hgl:=(Array.getElem?_eq_some_iff.1 e2).1
    have hgb:g≠b:=fun e=>h.a1 (by rw[hvf,← e];rfl)
    have hgc:vc.ownBlock≠some g:=fun e=>h.a2 g e (by rw[hvf];rfl)
    exact .inr ⟨g,capf,cur,rfl,by rw[setCell_else _ _ _ _ _ hgb,hold g hgl hgc,hbr nq g hgb hgl];exact e2,by omega,e4,e5,fun j hj=>absurd hj (Nat.not_lt_zero _)⟩
  refine ⟨(hco o (by omega)).trans h.c0,(hfroz o).trans h.f0,hw.shape,v',.slice af 0 capf,⟨?_,?_,?_,?_,?_,?_,?_,hfl,hv',fun e=>h.a1 (hfo _ e),?_⟩,hown,hfo,⟨⟨?_,?_,?_,?_,?_⟩,?_,?_⟩⟩
  ·exact World.cell?_setCell_same' _ _ _ (by rw[hco o (by omega),h.c0];rfl)
  ·rw[World.cell?_setCell_other _ _ _ _ (by intro e;cases e)];exact hc1
  ·rw[World.cell?_setCell_other _ _ _ _ (by intro e;cases e),hco (o+2) (by omega)];exact h.c2
  ·rw[World.frozen?_setCell,hfroz];exact h.f0
  ·rw[World.frozen?_setCell,hfroz];exact h.f1
  ·rw[World.frozen?_setCell,hfroz];exact h.f2
  ·rw[List.length_append,List.length_singleton]
   refine (hw.same (fun q hq=>setCell_else _ _ _ _ _ (fun e=>hv' (by rw[hq,e])))).congr (fun j hj=>?_)
   by_cases e:j<c.length*2
   ·rw[if_pos e]
    unfold pc
    rw[List.getD_eq_getElem?_getD,List.getD_eq_getElem?_getD,List.getElem?_append_left (by omega)]
   ·rw[if_neg e]
    unfold pc
    rw[List.getD_eq_getElem?_getD (l:=c ++ [none]),List.getElem?_append_right (by omega)]
    rcases (by omega:j=c.length*2∨j=c.length*2+1) with e1|e1
    ·rw[e1,show c.length*2 / 2-c.length=0 by omega,show c.length*2-c.length*2=0 by omega]
     simp
    ·rw[e1,show (c.length*2+1) / 2-c.length=0 by omega,show c.length*2+1-c.length*2=1 by omega]
     have:(c.length*2+1)%2=1:=by omega
     simp [this]
  ·intro g hv e
   have hfg:=hfo g e
   rcases hown g hv with q|q
   ·exact h.a2 g q hfg
   ·have:=h.frl.lt g hfg;omega
  ·exact hos.1
  ·exact hos.2.1
  ·exact hos.2.2
  ·simpa using hsize
  ·intro j hj hn
   simp only[List.mem_cons,List.mem_append,not_or,mem_gB] at hn
   rw[setCell_else _ _ _ _ _ hn.1,hold j hj hn.2.1,hbr nq j hn.1 hj]
  ·intro q q1 q2 q3
   rw[World.cell?_setCell_other _ _ _ _ (by intro e;cases e;exact q1 rfl)];exact hco q q2
  ·intro q
   rw[World.frozen?_setCell,hfroz])
 by_cases hz:fr.length=0
 ·have d1:decide ((0:Int)<(fr.length:Nat))=false:=decide_eq_false (by omega)
  have hvc2:=hvc
  rw[hvc] at c0 HROW HFIN ⊢
  rw[hvf] at c1 HFIN ⊢
  clear h hx hbig hbr hvc hvf hvc2
  go_enter Tryz.func153,Tryz.ntmps153
  go_wp2_with fail
  go_quiet (fail)
  go_wp2_with (at_builtin;refine append_wide rfl _ _ 87 rfl 208 i0 (.agg #[.pointer none,.bool false]) 2 16 Tryz.underlying87 hi hy0 hy1 hy2 rfl _ _ _ rfl (unhide HROW nq) w.heap.size rfl [.pointer none,.bool false] rfl (unhide HC2 nq) (by intro x hx';simp only[List.mem_cons,List.not_mem_nil,or_false] at hx';rcases hx' with rfl|rfl <;> rfl) (by omega) (by omega) ?_)
  intro v9 w9 hw9 hq1 hq2 hq3 hg9
  obtain ⟨k1,k2,hs9,hst⟩:=unhide HFIN nq v9 w9 hw9 ⟨hq1,hq2,hq3⟩ hg9
  obtain ⟨a9,cp9,rfl⟩:=hs9
  clear hw9 hq1 hq2 hq3 hg9 HFIN HROW HC2
  go_wp2
  go_ret
  exact ⟨rfl,hst⟩
 ·obtain ⟨n,hn⟩:∃ n,fr.getD 0 0=n:=⟨_,rfl⟩
  have hxn:c.length≤n:=by rcases hx with e|e <;> omega
  have hbn:n≤1099511627776:=by rw[← hn];exact hbig 0 (by omega)
  have d1:decide ((0:Int)<(fr.length:Nat))=true:=decide_eq_true (by omega)
  have d2:decide (((n:Nat):Int)<(c.length:Nat))=false:=decide_eq_false (by omega)
  have hpos:0<fr.length:=by omega
  obtain ⟨m,hm⟩:∃ m,fr.length=m+1:=⟨fr.length-1,by omega⟩
  obtain ⟨g,cap,hv,hg,hc⟩:=h.frl.at (by omega)
  have cf:=(hc 0 (by omega)).1
  unfold nv at cf
  rw[hn] at cf
  rw[hvf] at hv
  cases hv
  rw[hvc] at c0 HROW HFIN ⊢
  rw[hvf] at c1 HFIN ⊢
  clear h hx hbig hbr hvc hvf hc hg
  go_enter Tryz.func153,Tryz.ntmps153
  go_wp2_with fail
  go_quiet (fail)
  go_wp2_with (at_builtin;refine append_wide rfl _ _ 87 rfl 208 i0 (.agg #[.pointer none,.bool false]) 2 16 Tryz.underlying87 hi hy0 hy1 hy2 rfl _ _ _ rfl (unhide HROW nq) w.heap.size rfl [.pointer none,.bool false] rfl (unhide HC2 nq) (by intro x hx';simp only[List.mem_cons,List.not_mem_nil,or_false] at hx';rcases hx' with rfl|rfl <;> rfl) (by omega) (by omega) ?_)
  intro v9 w9 hw9 hq1 hq2 hq3 hg9
  obtain ⟨k1,k2,hs9,hst⟩:=unhide HFIN nq v9 w9 hw9 ⟨hq1,hq2,hq3⟩ hg9
  obtain ⟨a9,cp9,rfl⟩:=hs9
  clear hw9 hq1 hq2 hq3 hg9 HFIN HROW HC2
  go_wp2
  go_ret
  exact ⟨rfl,hst⟩
theorem addB_core {w:World}{b o n x k:Nat}{c':List (Option Nat)} (hn:n<c'.length) (hl:c'.length≤1000001) (hk:k≤1000000) {G:World→Value→Value→List Nat→Prop}
  (HLow:Calls Tryz.prog 153 #[.pointer (some ⟨b,o,none⟩)] w fun e w'=>e=.returned (.int .i64 (n:Nat))∧∃ vc' vf' fr',G w' vc' vf' fr'∧PoolRaw w' b o 208 encP (.pointer none) c' fr' k vc' vf'):
  Calls Tryz.prog 120 #[.pointer (some ⟨b,o,none⟩),.pointer (some ⟨x,0,none⟩)] w fun e w'=>e=.returned (.int .i64 (n:Nat))∧∃ vc' vf' fr' w1,G w1 vc' vf' fr'∧PoolRaw w' b o 208 encP (.pointer none) (c'.set n (some x)) fr' (k+1) vc' vf'∧PChg b o vc' vf' w1 w':=by
 have HL:=hide HLow
 clear HLow
 go_enter Tryz.func120,Tryz.ntmps120
 go_wp2_with fail
 refine (unhide HL).mono ?_
 clear HL
 rintro e w1 ⟨rfl,vc,vf,fr,hG,h⟩
 have hbw:b<w1.heap.size:=by have:=block_lt_of_cell h.c0;simpa using this
 obtain ⟨g,cap,hv,hg,hc⟩:=h.row.at (by omega)
 have c0:=h.c0
 have c2:=h.c2
 have f2:=h.f2
 have e1:=(hc (n*2) (by omega)).1
 have e2:=(hc (n*2) (by omega)).2
 have e3:=(hc (n*2+1) (by omega)).1
 have e4:=(hc (n*2+1) (by omega)).2
 have HH:=hide h
 have HGG:=hide hG
 have hgb:g≠b:=fun e=>h.a0 (by rw[hg,e])
 have hbg:b≠g:=Ne.symm hgb
 obtain ⟨W,hW⟩:∃ W,W=((w1.setCell ⟨g,n*2,none⟩ (.pointer (some ⟨x,0,none⟩))).setCell ⟨g,n*2+1,none⟩ (.bool true)).setCell ⟨b,o+2,none⟩ (.int .i64 ((k:Int)+1)):=⟨_,rfl⟩
 have hbl:∀ q,q≠g→q≠b→W.heap[q]?=w1.heap[q]?:=fun q h1 h2=>by rw[hW,setCell_else _ _ _ _ _ h2,setCell_else _ _ _ _ _ h1,setCell_else _ _ _ _ _ h1]
 have hcb:∀ q,q≠o+2→W.cell? ⟨b,q,none⟩=w1.cell? ⟨b,q,none⟩:=fun q hq=>by
  rw[hW,World.cell?_setCell_other _ _ _ _ (by intro e;cases e;exact hq rfl),World.cell?_setCell_other _ _ _ _ (by intro e;cases e;exact hgb rfl),World.cell?_setCell_other _ _ _ _ (by intro e;cases e;exact hgb rfl)]
 have hfb:∀ q,W.frozen? ⟨b,q,none⟩=w1.frozen? ⟨b,q,none⟩:=fun q=>by rw[hW,World.frozen?_setCell,World.frozen?_setCell,World.frozen?_setCell]
 have hrow:Wide W 208 2 vc (c'.set n (some x)).length (pc encP (.pointer none) (c'.set n (some x))):=by
  rw[List.length_set]
  have q1:=((h.row.put hg (n*2) (.pointer (some ⟨x,0,none⟩)) (by omega)).put hg (n*2+1) (.bool true) (by omega)).same (w':=W) (fun q hq=>by rw[hW,setCell_else _ _ _ _ _ (fun e=>h.a0 (by rw[hq,e]))])
  refine q1.congr (fun j hj=>?_)
  rw[pc_set _ _ _ _ _ hn]
  rfl
 have HF:=hide (show ∃ vc' vf' fr' w1,G w1 vc' vf' fr'∧PoolRaw W b o 208 encP (.pointer none) (c'.set n (some x)) fr' (k+1) vc' vf'∧PChg b o vc' vf' w1 W from
  ⟨vc,vf,fr,w1,hG,⟨(hcb o (by omega)).trans h.c0,(hcb (o+1) (by omega)).trans h.c1,by rw[hW];exact World.cell?_setCell_same' _ _ _ (by rw[World.cell?_setCell_other _ _ _ _ (by intro e;exact hgb (congrArg Addr.block e)),World.cell?_setCell_other _ _ _ _ (by intro e;exact hgb (congrArg Addr.block e)),h.c2];rfl),(hfb _).trans h.f0,(hfb _).trans h.f1,(hfb _).trans h.f2,hrow,h.frl.same (fun q hq=>hbl q (fun e=>h.a2 g hg (by rw[← e];exact hq)) (fun e=>h.a1 (by rw[← e];exact hq))),h.a0,h.a1,h.a2⟩,
   ⟨by rw[hW];exact (((But.refl _ _).set ⟨g,n*2,none⟩ (by simp [mem_gB,hg]) _).set ⟨g,n*2+1,none⟩ (by simp [mem_gB,hg]) _).set ⟨b,o+2,none⟩ (by simp) _,fun q _ _ q3=>hcb q q3,hfb⟩⟩)
 rw[hv] at c0
 clear h hG hc hbl hcb hfb hrow HH HGG
 rw[hW] at HF
 clear hW
 go_wp2
 go_ret
 exact ⟨rfl,unhide HF⟩
theorem addB_any {w:World}{b o:Nat}{c:List (Option Nat)}{fr:List Nat}{vc vf:Value} (h:PoolAt w b o 208 encP (.pointer none) c fr vc vf) (hlc:c.length<1000000) (hbig:∀ q∈fr,q≤1099511627776) (x:Nat):
  Calls Tryz.prog 120 #[.pointer (some ⟨b,o,none⟩),.pointer (some ⟨x,0,none⟩)] w fun e w'=>∃ n,e=.returned (.int .i64 (n:Nat))∧c.getD n none=none∧(∀ q,q<n→c.getD q none≠none)∧n≤c.length∧∃ fr' vc' vf',PoolAt w' b o 208 encP (.pointer none) (poolPut c n x) fr' vc' vf'∧(∀ q∈fr',q∈fr)∧fr'.length≤fr.length∧Own2 w vc vc'∧(∀ g,vf'.ownBlock=some g→vf.ownBlock=some g)∧∃ w1,PChg b o vc vf w w1∧PChg b o vc' vf' w1 w':=by
 have hcc:=countOf_le c
 by_cases hp:0<fr.length∧fr.getD 0 0<c.length
 ·obtain ⟨q1,q2⟩:=h.ok.first hp.1 hp.2
  refine (addB_core (n:=fr.getD 0 0) (c':=c) (k:=countOf c) hp.2 (by omega) (by omega) (x:=x) (G:=fun w1 vc' vf' fr'=>vc'=vc∧vf'.ownBlock=vf.ownBlock∧(fr.getD 0 0 :: fr').Perm fr∧HO fr'.length (fun q=>fr'.getD q 0)∧NChg b (o+1) vf w w1) ((lowestB_pop h.raw h.ok.ho h.lf h.lc hp.1 _ rfl hp.2).mono (fun e w' hh=>?_))).mono (fun e w' hh=>?_)
  ·obtain ⟨e1,fr',vf',p1,p2,p3,p4,p5⟩:=hh
   exact ⟨e1,vc,vf',fr',⟨rfl,p4,p1,p2,p5⟩,p3⟩
  ·obtain ⟨e1,vc',vf',fr',w1,⟨rfl,p4,p1,p2,p5⟩,p3,p6⟩:=hh
   have hl':fr'.length+1=fr.length:=by have:=p1.length_eq;simpa using this
   have hlf:=h.lf
   refine ⟨_,e1,q1,q2,by omega,fr',vc',vf',?_,fun q hq=>p1.mem_iff.1 (List.mem_cons_of_mem _ hq),by omega,fun g hg=>.inl hg,fun g hg=>by rw[← p4];exact hg,w1,⟨p5.but.over (fun q hq=>?_),fun q _ q2 _=>p5.cell q q2,p5.froz⟩,p6⟩
   ·unfold poolPut
    rw[if_pos hp.2]
    rw[← countOf_add c _ x hp.2 q1] at p3
    exact p3.at (h.ok.takeFree hp.2 p1 p2) (by rw[List.length_set];exact h.lc) (by omega)
   ·simp only[List.mem_cons,List.mem_append] at hq ⊢
    rcases hq with e|e
    ·exact .inl e
    ·exact .inr (.inr e)
 ·have hfull:=h.ok.full hp
  have hx:fr.length=0∨c.length≤fr.getD 0 0:=by
   by_cases e:fr.length=0
   ·exact .inl e
   ·exact .inr (by by_cases e2:c.length≤fr.getD 0 0;exact e2;exact absurd ⟨by omega,by omega⟩ hp)
  refine (addB_core (n:=c.length) (c':=c ++ [none]) (k:=countOf c) (by simp) (by simp;omega) (by omega) (x:=x) (G:=fun w1 vc' vf' fr'=>fr'=[]∧Own2 w vc vc'∧(∀ g,vf'.ownBlock=some g→vf.ownBlock=some g)∧PChg b o vc vf w w1) ((lowestB_grow h.raw h.lf h.lc hx (fun j hj=>hbig _ (at_mem hj))).mono (fun e w' hh=>?_))).mono (fun e w' hh=>?_)
  ·obtain ⟨e1,vc',vf',p1,p2,p3,p4⟩:=hh
   exact ⟨e1,vc',vf',[],⟨rfl,p2,p3,p4⟩,p1⟩
  ·obtain ⟨e1,vc',vf',fr',w1,⟨rfl,p2,p3,p4⟩,p5,p6⟩:=hh
   have hset:(c ++ [none]).set c.length (some x)=c ++ [some x]:=by
    rw[List.set_append_right _ _ (Nat.le_refl _),Nat.sub_self];rfl
   refine ⟨_,e1,by rw[List.getD_eq_getElem?_getD,List.getElem?_eq_none (Nat.le_refl _)];rfl,hfull,Nat.le_refl _,[],vc',vf',?_,fun q hq=>by simp at hq,Nat.zero_le _,p2,p3,w1,p4,p6⟩
   unfold poolPut
   rw[if_neg (Nat.lt_irrefl _)]
   have hct:countOf (c ++ [some x])=countOf c+1:=by unfold countOf;simp
   rw[hset,← hct] at p5
   exact p5.at (PoolOk.grow x hfull) (by simp;omega) (by simp)
theorem trimB_any {w:World}{b o:Nat}{c:List (Option Nat)}{fr:List Nat}{k:Nat}{vc vf:Value} (h:PoolRaw w b o 208 encP (.pointer none) c fr k vc vf) (lc:c.length≤1000000):
  Calls Tryz.prog 171 #[.pointer (some ⟨b,o,none⟩)] w fun e w'=>e=.returned (.tuple #[])∧∃ m vc',m≤c.length∧(∀ q,m≤q→c.getD q none=none)∧(m=0∨c.getD (m-1) none≠none)∧PoolRaw w' b o 208 encP (.pointer none) (c.take m) fr k vc' vf∧vc'.ownBlock=vc.ownBlock∧NChg b o vc w w':=by
 have hbw:b<w.heap.size:=by have:=block_lt_of_cell h.c0;simpa using this
 obtain ⟨a,cap,hv⟩:=h.row.shape
 have c0:=h.c0
 have f0:=h.f0
 have hcs:∀ m,m<c.length→∃ g,a=some ⟨g,0,none⟩∧w.cell? ⟨g,m*2+1,none⟩=some (.bool (c.getD m none).isSome):=fun m hm=>by
  obtain ⟨g,cap',hv',hg,hc⟩:=h.row.at (by omega)
  rw[hv] at hv'
  cases hv'
  have:=(hc (m*2+1) (by omega)).1
  rw[pc_used] at this
  exact ⟨g,rfl,this⟩
 have hcap:c.length≤cap:=by
  rcases h.row with ⟨h1,h2⟩|⟨g',cap',cur,h1,h2,h3,h4,h5,h6⟩
  ·omega
  ·rw[hv] at h1;injection h1 with e1 e2 e3;omega
 have HFIN:Hid (∀ m,m≤c.length→(∀ q,m≤q→c.getD q none=none)→(m=0∨c.getD (m-1) none≠none)→∃ m' vc',m'≤c.length∧(∀ q,m'≤q→c.getD q none=none)∧(m'=0∨c.getD (m' - 1) none≠none)∧PoolRaw (w.setCell ⟨b,o,none⟩ (.slice a m cap)) b o 208 encP (.pointer none) (c.take m') fr k vc' vf∧vc'.ownBlock=vc.ownBlock∧NChg b o vc w (w.setCell ⟨b,o,none⟩ (.slice a m cap))):=hide (fun m hm h1 h2=>by
  have hN:NChg b o vc w (w.setCell ⟨b,o,none⟩ (.slice a m cap)):=NChg.set ⟨But.refl _ _,fun _ _=>rfl,fun _=>rfl⟩ _
  have hov:(Value.slice a m cap).ownBlock=vc.ownBlock:=by rw[hv];exact own_cut _ _ _ _
  have htl:(c.take m).length=m:=by simp;omega
  refine ⟨m,.slice a m cap,hm,h1,h2,⟨World.cell?_setCell_same' _ _ _ (by rw[h.c0];rfl),(hN.cell (o+1) (by omega)).trans h.c1,(hN.cell (o+2) (by omega)).trans h.c2,(hN.froz _).trans h.f0,(hN.froz _).trans h.f1,(hN.froz _).trans h.f2,?_,h.frl.same (fun q hq=>setCell_else _ _ _ _ _ (fun e=>h.a1 (by rw[hq,e]))),by rw[hov];exact h.a0,h.a1,fun g hg=>h.a2 g (by rw[← hov];exact hg)⟩,hov,hN⟩
  rw[htl]
  have hr:=h.row
  rw[hv] at hr
  refine ((hr.cut hm).same (fun q hq=>setCell_else _ _ _ _ _ (fun e=>h.a0 (by rw[← hov,hq,e])))).congr (fun j hj=>?_)
  unfold pc
  rw[List.getD_eq_getElem?_getD,List.getD_eq_getElem?_getD (l:=c.take m),List.getElem?_take,if_pos (show j / 2<m by omega)])
 rw[hv] at c0 HFIN ⊢
 have hfirst:Hid (∀ q,c.length≤q→c.getD q none=none):=hide (fun q hq=>by rw[List.getD_eq_getElem?_getD,List.getElem?_eq_none hq];rfl)
 clear h hv
 go_enter Tryz.func171,Tryz.ntmps171
 go_wp2_with fail
 go_loopw [2] (fun ev wr=>wr=w∧∃ m:Nat,ev=.int .i64 (m:Nat)∧m≤c.length∧∀ q,m≤q→c.getD q none=none) (fun ev _=>(intOf ev).toNat)
 case atStart=>exact ⟨rfl,c.length,rfl,Nat.le_refl _,unhide hfirst⟩
 case round=>
  obtain ⟨rfl,m,rfl,hm,hz⟩:=hrel
  have HZ:=hide hz
  clear hz hfirst
  by_cases m0:m=0
  ·subst m0
   have HF:=hide (unhide HFIN 0 hm (unhide HZ) (.inl rfl))
   clear HFIN HZ hcs
   go_wp2
   go_end0
   exact ⟨rfl,unhide HF⟩
  ·obtain ⟨p,rfl⟩:∃ p,m=p+1:=⟨m-1,by omega⟩
   obtain ⟨g,hga,hcell⟩:=hcs p (by omega)
   subst hga
   have d1:decide ((0:Int)<((p+1:Nat):Int))=true:=decide_eq_true (by omega)
   cases hx:c.getD p none with
   | none=>
    rw[hx] at hcell
    have HZ2:Hid (∀ q,p≤q→c.getD q none=none):=hide (fun q hq=>by
     by_cases e:q=p
     ·rw[e];exact hx
     ·exact unhide HZ q (by omega))
    clear HFIN HZ hcs hx
    simp only[Option.isSome] at hcell
    go_wp2
    go_roundw
    case rel=>exact ⟨trivial,p,by first|rfl|(congr 1;omega),by omega,unhide HZ2⟩
    case measure=>simp [intOf]
   | some y=>
    have HF:=hide (unhide HFIN (p+1) hm (unhide HZ) (.inr (by rw[Nat.add_sub_cancel,hx];simp)))
    rw[hx] at hcell
    clear HFIN HZ hcs hx
    simp only[Option.isSome] at hcell
    go_wp2
    go_end0
    exact ⟨rfl,unhide HF⟩
theorem dropB_any {w:World}{b o:Nat}{c:List (Option Nat)}{fr:List Nat}{vc vf:Value} (h:PoolAt w b o 208 encP (.pointer none) c fr vc vf) (n:Nat) (hu:c.getD n none≠none) (hlf:fr.length<1000000):
  Calls Tryz.prog 151 #[.pointer (some ⟨b,o,none⟩),.int .i64 (n:Nat)] w fun e w'=>e=.returned (.tuple #[])∧∃ c' fr' vc' vf',PoolAt w' b o 208 encP (.pointer none) c' fr' vc' vf'∧(∀ q,c'.getD q none=if q=n then none else c.getD q none)∧c'.length≤c.length∧fr'.length≤fr.length+1∧(∀ q∈fr',q=n∨q∈fr)∧vc'.ownBlock=vc.ownBlock∧Own2 w vf vf'∧PChg b o vc vf w w':=by
 have hn:n<c.length:=by
  by_cases h1:n<c.length
  ·exact h1
  ·exact absurd (by rw[List.getD_eq_getElem?_getD,List.getElem?_eq_none (by omega)];rfl) hu
 have hbw:b<w.heap.size:=by have:=block_lt_of_cell h.c0;simpa using this
 obtain ⟨g,cap,hv,hg,hc⟩:=h.row.at (by omega)
 obtain ⟨k,hk⟩:∃ k,countOf c=k+1:=⟨countOf (c.set n none),(countOf_drop c n hu).symm⟩
 have hk1:countOf (c.set n none)=k:=by have:=countOf_drop c n hu;omega
 obtain ⟨W,hW⟩:∃ W,W=((w.setCell ⟨g,n*2,none⟩ (.pointer none)).setCell ⟨g,n*2+1,none⟩ (.bool false)).setCell ⟨b,o+2,none⟩ (.int .i64 (k:Nat)):=⟨_,rfl⟩
 obtain ⟨hR,hP⟩:=h.raw.lay hg n hn none k W hW
 have hlc:=h.lc
 have hcl:=countOf_le c
 have c0:=h.c0
 have c2:=h.c2
 have f2:=h.f2
 rw[hk] at c2
 have e1:=(hc (n*2) (by omega)).1
 have e2:=(hc (n*2) (by omega)).2
 have e3:=(hc (n*2+1) (by omega)).1
 have e4:=(hc (n*2+1) (by omega)).2
 have hgb:g≠b:=fun e=>h.a0 (by rw[hg,e])
 have hbg:b≠g:=Ne.symm hgb
 have cW:=hR.c0
 rw[hW] at cW
 rw[hv] at c0 cW
 by_cases hlast:n+1=c.length
 ·have HT:Hid (Calls Tryz.prog 171 #[.pointer (some ⟨b,o,none⟩)] W fun e w'=>e=.returned (.tuple #[])∧∃ c' fr' vc' vf',PoolAt w' b o 208 encP (.pointer none) c' fr' vc' vf'∧(∀ q,c'.getD q none=if q=n then none else c.getD q none)∧c'.length≤c.length∧fr'.length≤fr.length+1∧(∀ q∈fr',q=n∨q∈fr)∧vc'.ownBlock=vc.ownBlock∧Own2 w vf vf'∧PChg b o vc vf w w'):=hide (by
   refine (trimB_any hR (by rw[List.length_set];omega)).mono (fun e w' hh=>?_)
   obtain ⟨r1,m,vc',r2,r3,r4,r5,r6,r7⟩:=hh
   have r8:=r7
   rw[List.length_set] at r2
   have hmn:m≤n:=by
    by_cases e:m≤n
    ·exact e
    ·rcases r4 with q|q
     ·omega
     ·refine absurd ?_ q
      rw[show m-1=n by omega,getD_set_opt _ _ _ _ hn,if_pos rfl]
   have htk:(c.set n none).take m=c.take m:=by
    apply List.ext_getElem?
    intro q
    rw[List.getElem?_take,List.getElem?_take]
    by_cases e:q<m
    ·rw[if_pos e,if_pos e,List.getElem?_set_ne (by omega)]
    ·rw[if_neg e,if_neg e]
   have hct:countOf ((c.set n none).take m)=k:=(countOf_take _ _ r3).trans hk1
   rw[← hct] at r5
   have hm0:m=0∨c.getD (m-1) none≠none:=by
    rcases r4 with q|q
    ·exact .inl q
    ·by_cases e:m=0
     ·exact .inl e
     ·right
      rw[getD_set_opt _ _ _ _ hn,if_neg (by omega)] at q;exact q
   have hok:PoolOk ((c.set n none).take m) fr:=by rw[htk];exact h.ok.dropLast hlast hmn hm0
   refine ⟨r1,_,fr,vc',vf,r5.at hok (by rw[List.length_take,List.length_set];omega) (by omega),fun q=>?_,by rw[List.length_take,List.length_set];omega,by omega,fun q hq=>.inr hq,r6,fun g hg=>.inl hg,⟨hP.but.trans (r8.but.over (fun q hq=>?_)),fun q q1 q2 q3=>(r8.cell q q1).trans (hP.cell q q1 q2 q3),fun q=>(r8.froz q).trans (hP.froz q)⟩⟩
   ·rw[← getD_set_opt _ _ _ _ hn]
    by_cases e:q<m
    ·rw[List.getD_eq_getElem?_getD,List.getElem?_take,if_pos e,← List.getD_eq_getElem?_getD]
    ·rw[List.getD_eq_getElem?_getD,List.getElem?_take,if_neg e,r3 q (by omega)];rfl
   ·simp only[List.mem_cons,List.mem_append] at hq ⊢
    rcases hq with e|e
    ·exact .inl e
    ·exact .inr (.inl e))
  have hcl1:c.length=n+1:=hlast.symm
  rw[hW] at HT
  rw[hcl1] at c0 cW
  have hkb:k≤1000000:=by omega
  clear h hc hR hP hW hlast hcl1 hk hk1 hcl hlf
  go_enter Tryz.func151,Tryz.ntmps151
  go_wp2_with fail
  refine (unhide HT).mono ?_
  clear HT
  rintro e w3 ⟨rfl,hst⟩
  have HF:=hide hst
  clear hst
  go_wp2
  (try simp only[Exit.inBlock,Exit.then])
  refine bodyPost_ret (results_none rfl _ _ _) rfl ?_
  exact ⟨rfl,unhide HF⟩
 ·have HT:Hid (Calls Tryz.prog 126 #[.iface 191 (.pointer (some ⟨b,o+1,none⟩)),.iface 3 (.int .i64 (n:Nat))] W fun e w'=>e=.returned (.tuple #[])∧∃ c' fr' vc' vf',PoolAt w' b o 208 encP (.pointer none) c' fr' vc' vf'∧(∀ q,c'.getD q none=if q=n then none else c.getD q none)∧c'.length≤c.length∧fr'.length≤fr.length+1∧(∀ q∈fr',q=n∨q∈fr)∧vc'.ownBlock=vc.ownBlock∧Own2 w vf vf'∧PChg b o vc vf w w'):=hide (by
   refine (push_any W hR.c1 hR.f1 hR.frl hR.a1 (by omega) h.ok.ho n).mono (fun e w' hh=>?_)
   obtain ⟨r1,v',l',r2,r3,r4,r5,r6,r7,r8⟩:=hh
   have hll:l'.length=fr.length+1:=by rw[r2.length_eq];simp
   have hws:w.heap.size≤W.heap.size:=hP.but.size
   have hraw:PoolRaw w' b o 208 encP (.pointer none) (c.set n none) l' k vc v':=⟨(r8.cell o (by omega)).trans hR.c0,r4,(r8.cell (o+2) (by omega)).trans hR.c2,(r8.froz _).trans hR.f0,(r8.froz _).trans hR.f1,(r8.froz _).trans hR.f2,hR.row.same (fun q hq=>r8.but.block q (hR.row.lt q hq) (by
    simp only[List.mem_cons,not_or,mem_gB]
    exact ⟨fun e=>hR.a0 (by rw[hq,e]),hR.a2 q hq⟩)),r5,hR.a0,r6,fun q hq e=>by
     rcases r7 q e with x|x
     ·exact hR.a2 q hq x
     ·have:=hR.row.lt q hq;omega⟩
   rw[← hk1] at hraw
   refine ⟨r1,_,l',vc,v',hraw.at (h.ok.dropMid (by omega) hu r2 r3) (by rw[List.length_set];omega) (by omega),fun q=>getD_set_opt _ _ _ _ hn,by rw[List.length_set];exact Nat.le_refl _,by omega,fun q hq=>List.mem_cons.1 (r2.mem_iff.1 hq),rfl,fun q hq=>?_,⟨hP.but.trans (r8.but.over (fun q hq=>?_)),fun q q1 q2 q3=>(r8.cell q q2).trans (hP.cell q q1 q2 q3),fun q=>(r8.froz q).trans (hP.froz q)⟩⟩
   ·rcases r7 q hq with x|x
    ·exact .inl x
    ·exact .inr (by omega)
   ·simp only[List.mem_cons,List.mem_append] at hq ⊢
    rcases hq with e|e
    ·exact .inl e
    ·exact .inr (.inr e))
  have hne:((n:Nat):Int)≠((c.length:Nat):Int)-1:=by omega
  have hkb:k≤1000000:=by omega
  rw[hW] at HT
  clear h hc hR hP hW hlast hk hk1 hcl hlf
  go_enter Tryz.func151,Tryz.ntmps151
  go_wp2_with fail
  refine (unhide HT).mono ?_
  clear HT
  rintro e w3 ⟨rfl,hst⟩
  have HF:=hide hst
  clear hst
  go_wp2
  go_end0
  exact ⟨rfl,unhide HF⟩
theorem large_any (x:Nat) (hx:x<18446744073709551616) (w:World):
  Calls Tryz.prog 122 #[.int .u64 x] w fun e w'=>e=.returned (.bool (decide (9223372036854775808≤x)))∧w'=w:=by
 go_enter Tryz.func122,Tryz.ntmps122
 go_wp2
 go_ret
 exact ⟨ret_bool (top_bit x hx),rfl⟩
theorem slot_any (x:Nat) (hx:x<18446744073709551616) (hm:9223372036854775808≤x) (w:World):
  Calls Tryz.prog 124 #[.int .u64 x] w fun e w'=>e=.returned (.int .i64 ((x-9223372036854775808:Nat):Int))∧w'=w:=by
 have e1:=low_bits x hx hm
 obtain ⟨y,hy⟩:∃ y,x-9223372036854775808=y:=⟨_,rfl⟩
 rw[hy] at e1 ⊢
 have hb:y<9223372036854775808:=by omega
 clear hm hy
 go_enter Tryz.func124,Tryz.ntmps124
 go_wp2
 go_ret
 exact ⟨rfl,rfl⟩
def heapErr (f:Nat):Nat:=if f=23 then 32 else if f=24∨f=25 then 33 else f
theorem asHeap_any (f:Nat) (w:World):Calls Tryz.prog 85 #[.int .i64 (f:Nat)] w fun e w'=>e=.returned (.int .i64 (heapErr f:Nat))∧w'=w:=by
 unfold heapErr
 by_cases h1:f=23
 ·subst h1
  go_enter Tryz.func85,Tryz.ntmps85
  go_wp2
  go_ret
  exact ⟨rfl,rfl⟩
 ·rw[if_neg h1]
  by_cases h2:f=24
  ·subst h2
   go_enter Tryz.func85,Tryz.ntmps85
   go_wp2
   go_ret
   exact ⟨rfl,rfl⟩
  ·by_cases h3:f=25
   ·subst h3
    go_enter Tryz.func85,Tryz.ntmps85
    go_wp2
    go_ret
    exact ⟨rfl,rfl⟩
   ·rw[if_neg (by omega)]
    have e1:((f:Int) == 23)=false:=by rw[beq_eq_false_iff_ne];omega
    have e2:((f:Int) == 24)=false:=by rw[beq_eq_false_iff_ne];omega
    have e3:((f:Int) == 25)=false:=by rw[beq_eq_false_iff_ne];omega
    go_enter Tryz.func85,Tryz.ntmps85
    go_wp2
    go_ret
    exact ⟨rfl,rfl⟩
theorem newArena_any (n:Nat) (h1:1≤n) (h2:n≤1048576) (w:World):
  Calls Tryz.prog 35 #[.int .i64 n] w fun e w'=>∃ p bw bh,e=.returned (.pointer (some ⟨p,0,none⟩))∧Ar w' p bw bh (List.replicate n 0) (List.replicate n false) 1∧w.heap.size≤p∧w.heap.size≤bw∧w.heap.size≤bh∧Below w.heap.size w w':=by
 have HN:=hide (new_yes n h1 h2 w)
 clear h1 h2
 go_enter Tryz.func35,Tryz.ntmps35
 go_wp2_with fail
 refine (unhide HN).mono ?_
 clear HN
 rintro e w1 ⟨p,bw,bh,rfl,hA,q1,q2,q3,q4⟩
 have HF:=hide (And.intro hA (And.intro q1 (And.intro q2 (And.intro q3 q4))))
 clear hA q1 q2 q3 q4
 go_wp2
 go_ret
 exact ⟨p,bw,bh,rfl,unhide HF⟩
def wantF:Nat→Nat→Nat→Nat
 | 0,_,h=>h
 | f+1,u,h=>if 3*h<4*u then wantF f u (h*2) else h
def wantOf (u:Nat):Nat:=wantF 40 u 64
theorem want_any (u:Nat) (hu:u≤4194304) (w:World):Calls Tryz.prog 114 #[.int .i64 (u:Nat)] w fun e w'=>e=.returned (.int .i64 (wantOf u:Nat))∧w'=w:=by
 go_enter Tryz.func114,Tryz.ntmps114
 go_wp2_with fail
 go_loopw [3] (fun hv wr=>wr=w∧∃ f h:Nat,hv=.int .i64 (h:Nat)∧1≤h∧h≤16777216∧h*2 ^ f=70368744177664∧wantF f u h=wantOf u) (fun hv _=>33554432-(intOf hv).toNat)
 case atStart=>exact ⟨rfl,40,64,rfl,by decide,by decide,by decide,rfl⟩
 case round=>
  obtain ⟨rfl,f,h,rfl,h1,h2,h3,h4⟩:=hrel
  by_cases hlt:3*h<4*u
  ·have d:decide (3*(h:Int)<4*(u:Int))=true:=decide_eq_true (by omega)
   cases f with
   | zero=>simp at h3;omega
   | succ f=>
    have HR:=hide (show h*2*2 ^ f=70368744177664∧wantF f u (h*2)=wantOf u from ⟨by rw[← h3,Nat.pow_succ,Nat.mul_assoc,Nat.mul_comm 2],by rw[← h4];unfold wantF;rw[if_pos hlt];cases f <;> rfl⟩)
    clear h3 h4
    go_wp2
    go_roundw
    case rel=>exact ⟨trivial,f,h*2,by first|rfl|(congr 1),by omega,by omega,unhide HR⟩
    case measure=>simp [intOf];omega
  ·have d:decide (3*(h:Int)<4*(u:Int))=false:=decide_eq_false (by omega)
   have hw:wantOf u=h:=by
    rw[← h4]
    cases f with
    | zero=>rfl
    | succ f=>unfold wantF;rw[if_neg hlt]
   have HW:=hide hw
   clear h3 h4 hw
   go_wp2
   go_ret
   exact ⟨by rw[unhide HW];rfl,rfl⟩
end Go.Proofs.YtnfbaapbpgbgpaaGreat
