import Derived.Test.YtnfbaapbpgbgpaaGreatRTake
import Derived.Test.YtnfbaapbpgbgpaaGreatOff
namespace Go.Proofs.YtnfbaapbpgbgpaaGreat
open Go.ChangeShapes Go.WideShapes Go.ChangeAt Go.RowKit
set_option linter.unusedVariables false
set_option maxRecDepth 100000
set_option maxHeartbeats 2000000
structure CAt (w:World) (pc ph:Nat) (tag:Nat→Nat) (next:Nat) (v:Value) (ps:List Nat):Prop where
 c0:w.cell? ⟨pc,0,none⟩=some (.pointer (some ⟨ph,0,none⟩))
 c1:w.cell? ⟨pc,1,none⟩=some (.int .i64 (next:Nat))
 c2:w.cell? ⟨pc,2,none⟩=some v
 f1:w.frozen? ⟨pc,1,none⟩=false
 f2:w.frozen? ⟨pc,2,none⟩=false
 line:Off w 187 v ps.length (fun j=>encP (ps.getD j 0))
 tc:tag pc=6
 tl:∀ g,v.ownBlock=some g→tag g=7
theorem CAt.conf {w w':World}{pc ph:Nat}{tag:Nat→Nat}{next:Nat}{v:Value}{ps:List Nat} (h:CAt w pc ph tag next v ps) (h6:∀ g,tag g=6→w'.heap[g]?=w.heap[g]?) (h7:∀ g,tag g=7→w'.heap[g]?=w.heap[g]?):CAt w' pc ph tag next v ps:=by
 have hp:=h6 pc h.tc
 exact ⟨(cell_like hp _).trans h.c0,(cell_like hp _).trans h.c1,(cell_like hp _).trans h.c2,(froz_like hp _).trans h.f1,(froz_like hp _).trans h.f2,h.line.same (fun g hg=>h7 g (h.tl g hg)),h.tc,h.tl⟩
theorem HRaw.retag {w:World}{ph:Nat}{tag tag':Nat→Nat}{H:HC} (h:HRaw w ph tag H) (ht:∀ g,tag g≠0→tag' g=tag g) (un:∀ g,tag' g≠0→g<w.heap.size):HRaw w ph tag' H:=by
 have k:∀ g n,n≠0→tag g=n→tag' g=n:=fun g n hn e=>(ht g (by omega)).trans e
 exact {
     n0:=h.n0,n1:=h.n1,n2:=h.n2,n9:=h.n9,n10:=h.n10,n11:=h.n11,n12:=h.n12,n13:=h.n13,fz:=h.fz,pB:=h.pB,pH:=h.pH,hA:=h.hA,hS:=h.hS,bB:=h.bB
     t1:=k _ _ (by decide) h.t1
     tA:=⟨k _ _ (by decide) h.tA.1,k _ _ (by decide) h.tA.2.1,k _ _ (by decide) h.tA.2.2⟩
     tS:=⟨k _ _ (by decide) h.tS.1,k _ _ (by decide) h.tS.2.1,k _ _ (by decide) h.tS.2.2⟩
     tH:=⟨fun g e=>k _ _ (by decide) (h.tH.1 g e),fun g e=>k _ _ (by decide) (h.tH.2 g e)⟩
     tB:=⟨fun g e=>k _ _ (by decide) (h.tB.1 g e),fun g e=>k _ _ (by decide) (h.tB.2 g e)⟩
     tK:=fun s bp e=>⟨k _ _ (by omega) (h.tK s bp e).1,k _ _ (by omega) (h.tK s bp e).2.1,k _ _ (by omega) (h.tK s bp e).2.2.1,k _ _ (by omega) (h.tK s bp e).2.2.2⟩
     tN:=h.tN,un:=un }
theorem Tryz.info187:(Tryz.prog.info? 187).map (fun i=>(i.zero,i.size,i.bytes))=some (some (.pointer none),1,8):=by kernel_rfl
theorem reach_old {w:World}{ph pc:Nat}{tag:Nat→Nat}{H:HC}{next:Nat}{v:Value}{ps:List Nat} (h:HRaw w ph tag H) (c:CAt w pc ph tag next v ps) (s bp:Nat) (hb:H.cB.getD s none=some bp) (hr:H.re s=H.coll):
  Calls Tryz.prog 147 #[.pointer (some ⟨pc,0,none⟩),.int .i64 (s:Nat)] w fun e w'=>e=.returned (.tuple #[])∧Still w w':=by
 have hpg:poolGet H.cB (s:Nat)=some bp:=by simpa [poolGet] using hb
 have HG:=hide (show Calls Tryz.prog 123 #[.pointer (some ⟨ph,3,none⟩),.int .i64 (s:Nat)] w fun e w'=>e=.returned (.tuple #[.pointer (some ⟨bp,0,none⟩),.bool true])∧w'=w from by have:=getB_any h.pB (s:Nat);rw[hpg] at this;exact this)
 have e1:=c.c0
 have e2:=h.n12
 have e3:=(h.bB s bp hb).c1
 rw[hr] at e3
 clear h c hb hr hpg
 go_enter Tryz.func147,Tryz.ntmps147
 go_wp2_with fail
 refine (unhide HG).mono ?_
 clear HG
 rintro e w1 ⟨rfl,rfl⟩
 go_wp2
 go_quiet (fail)
 go_wp2
 refine bodyPost_ret (results_none rfl _ _ _) rfl ?_
 exact ⟨rfl,(Still.refl _).drew _⟩
def updF {α:Type} (f:Nat→α) (s:Nat) (x:α):Nat→α:=fun q=>if q=s then x else f q
theorem reach_new {w:World}{ph pc:Nat}{tag:Nat→Nat}{H:HC}{next:Nat}{v:Value}{ps:List Nat} (h:HRaw w ph tag H) (c:CAt w pc ph tag next v ps) (s bp:Nat) (hb:H.cB.getD s none=some bp) (hr:H.re s≠H.coll) (hlen:ps.length≤1000000):
  Calls Tryz.prog 147 #[.pointer (some ⟨pc,0,none⟩),.int .i64 (s:Nat)] w fun e w'=>e=.returned (.tuple #[])∧∃ tag' v',HRaw w' ph tag' { H with re:=updF H.re s H.coll }∧CAt w' pc ph tag' next v' (ps ++ [bp])∧Fr tag tag' w w':=by
 obtain ⟨i0,hi,hy0,hy1,hy2⟩:=info_parts Tryz.info187
 have hpg:poolGet H.cB (s:Nat)=some bp:=by simpa [poolGet] using hb
 have HG:=hide (show Calls Tryz.prog 123 #[.pointer (some ⟨ph,3,none⟩),.int .i64 (s:Nat)] w fun e w'=>e=.returned (.tuple #[.pointer (some ⟨bp,0,none⟩),.bool true])∧w'=w from by have:=getB_any h.pB (s:Nat);rw[hpg] at this;exact this)
 have hbk:=h.bB s bp hb
 have ht:=h.tK s bp hb
 have hpcw:pc<w.heap.size:=h.un pc (by rw[c.tc];decide)
 have hbpw:bp<w.heap.size:=h.un bp (by rw[ht.1];omega)
 have hpb:pc≠bp:=fun e=>by have:=c.tc;rw[e,ht.1] at this;omega
 have hvp:v.ownBlock≠some pc:=fun e=>by have:=c.tl pc e;rw[c.tc] at this;omega
 have hvb:v.ownBlock≠some bp:=fun e=>by have:=c.tl bp e;rw[ht.1] at this;omega
 have HROW:Hid (∀ W,Still w W→Off ((W.setCell ⟨bp,1,none⟩ (.int .i64 (H.coll:Nat))).alloc (.cells #[.pointer (some ⟨bp,0,none⟩)] 187)) 187 v ps.length (fun j=>encP (ps.getD j 0))):=hide (fun W k=>c.line.same (fun g hg=>by
  have hgw:=c.line.lt g hg
  rw[heap_alloc_old _ _ (by rw[World.size_setCell,k.heap];exact hgw),setCell_else _ _ _ _ _ (by rintro rfl;exact hvb hg),k.heap]))
 have HSZ:Hid (∀ W,Still w W→(W.setCell ⟨bp,1,none⟩ (.int .i64 (H.coll:Nat))).heap.size=w.heap.size):=hide (fun W k=>by rw[World.size_setCell,k.heap])
 have HFIN:Hid (∀ W,Still w W→∀ v' w',Off w' 187 v' (ps.length+1) (fun j=>if j<ps.length then encP (ps.getD j 0) else .pointer (some ⟨bp,0,none⟩))→
   w'.os=W.os∧w'.tape=W.tape∧w'.output=W.output→
   ((∃ g,v.ownBlock=some g∧v'.ownBlock=some g∧w'.heap.size=(w.heap.size+1)∧∀ k,k≠g→w'.heap[k]?=((W.setCell ⟨bp,1,none⟩ (.int .i64 (H.coll:Nat))).alloc (.cells #[.pointer (some ⟨bp,0,none⟩)] 187)).heap[k]?)∨
    (v'.ownBlock=some (w.heap.size+1)∧w'.heap.size=(w.heap.size+1)+1∧∀ k,k<(w.heap.size+1)→w'.heap[k]?=((W.setCell ⟨bp,1,none⟩ (.int .i64 (H.coll:Nat))).alloc (.cells #[.pointer (some ⟨bp,0,none⟩)] 187)).heap[k]?))→
   w'.cell? ⟨pc,2,none⟩=some v∧w'.frozen? ⟨pc,2,none⟩=false∧(∃ a cap,v'=.slice a (ps.length+1) cap)∧
   ∃ tag' v'',HRaw (w'.setCell ⟨pc,2,none⟩ v') ph tag' { H with re:=updF H.re s H.coll }∧CAt (w'.setCell ⟨pc,2,none⟩ v') pc ph tag' next v'' (ps ++ [bp])∧Fr tag tag' w (w'.setCell ⟨pc,2,none⟩ v')):=hide (by
  intro W k v' w' hoff ⟨o1,o2,o3⟩ hgr
  obtain ⟨W0,hW0⟩:∃ W0,(W.setCell ⟨bp,1,none⟩ (.int .i64 (H.coll:Nat))).alloc (.cells #[.pointer (some ⟨bp,0,none⟩)] 187)=W0:=⟨_,rfl⟩
  rw[hW0] at hgr
  have hz0:W0.heap.size=w.heap.size+1:=by rw[← hW0,World.size_alloc,World.size_setCell,k.heap]
  have hold:∀ g,g<w.heap.size→W0.heap[g]?=(w.setCell ⟨bp,1,none⟩ (.int .i64 (H.coll:Nat))).heap[g]?:=by
   intro g hg
   rw[← hW0,heap_alloc_old _ _ (by rw[World.size_setCell,k.heap];exact hg)]
   show (W.heap.modify _ _)[g]?=(w.heap.modify _ _)[g]?
   rw[k.heap]
  have hsz':W0.heap.size≤w'.heap.size:=by rcases hgr with ⟨g,_,_,h1,_⟩|⟨_,h1,_⟩ <;> omega
  have hsame:∀ g,g<w.heap.size→v.ownBlock≠some g→w'.heap[g]?=(w.setCell ⟨bp,1,none⟩ (.int .i64 (H.coll:Nat))).heap[g]?:=by
   intro g hg hv
   rw[← hold g hg]
   rcases hgr with ⟨q,h1,_,_,h2⟩|⟨_,_,h2⟩
   ·exact h2 g (by rintro rfl;exact hv h1)
   ·exact h2 g (by omega)
  have hv'1:∀ g,v'.ownBlock=some g→v.ownBlock=some g∨w.heap.size<g:=by
   intro g hg
   rcases hgr with ⟨q,h1,h2,_,_⟩|⟨h1,_,_⟩
   ·rw[h2] at hg;cases hg;exact .inl h1
   ·rw[h1] at hg;cases hg;exact .inr (by omega)
  have hpc:w'.heap[pc]?=w.heap[pc]?:=(hsame pc hpcw hvp).trans (setCell_else _ _ _ _ _ hpb)
  have hbp:w'.heap[bp]?=(w.setCell ⟨bp,1,none⟩ (.int .i64 (H.coll:Nat))).heap[bp]?:=hsame bp hbpw hvb
  have hF:∀ g,g<w.heap.size→v.ownBlock≠some g→g≠pc→g≠bp→(w'.setCell ⟨pc,2,none⟩ v').heap[g]?=w.heap[g]?:=fun g hg h1 h2 h3=>by
   rw[setCell_else _ _ _ _ _ h2,hsame g hg h1,setCell_else _ _ _ _ _ h3]
  have hFb:(w'.setCell ⟨pc,2,none⟩ v').heap[bp]?=(w.setCell ⟨bp,1,none⟩ (.int .i64 (H.coll:Nat))).heap[bp]?:=by rw[setCell_else _ _ _ _ _ (Ne.symm hpb),hbp]
  have hzF:(w'.setCell ⟨pc,2,none⟩ v').heap.size=w'.heap.size:=World.size_setCell ..
  have hle:w.heap.size≤(w'.setCell ⟨pc,2,none⟩ v').heap.size:=by omega
  have hc2:w'.cell? ⟨pc,2,none⟩=some v:=(cell_like hpc _).trans c.c2
  have hvn:v'.ownBlock≠some pc:=fun e=>by rcases hv'1 pc e with h|h;exact hvp h;omega
  have htag:∀ g,tag g≠0→tagAt tag v' 7 g=tag g:=by
   intro g hg
   unfold tagAt
   split
   ·rename_i e
    rcases hv'1 g e with h1|h1
    ·exact (c.tl g h1).symm
    ·have:=h.un g hg;omega
   ·rfl
  refine ⟨hc2,(froz_like hpc _).trans c.f2,hoff.shape,tagAt tag v' 7,v',?_,?_,?_⟩
  ·refine HRaw.retag (tag:=tag) ?_ htag ?_
   ·refine h.turn [8+s,6,7] (by simp;omega) (by simp;omega) hle (fun g h0 hn=>?_) H.A H.S H.cH H.bk (updF H.re s H.coll) (.inl ⟨by simp;omega,rfl⟩) (.inl ⟨by simp;omega,rfl⟩) (.inl ⟨by simp;omega,rfl⟩) (fun s' bp' hs'=>?_)
    ·simp only[List.mem_cons,List.not_mem_nil,or_false,not_or] at hn
     exact hF g (h.un g h0) (fun e=>hn.2.2 (c.tl g e)) (fun e=>hn.2.1 (by rw[e];exact c.tc)) (fun e=>hn.1 (by rw[e];exact ht.1))
    ·by_cases e:s'=s
     ·subst e
      rw[hb] at hs'
      cases hs'
      refine .inr ?_
      have hn:=h.tN s' bp hb
      have hh:∀ x,tag x=8+s'→x≠bp→(w'.setCell ⟨pc,2,none⟩ v').heap[x]?=w.heap[x]?:=fun x e1 e2=>
       hF x (h.un x (by omega)) (fun e=>by have:=c.tl x e;omega) (fun e=>by have:=c.tc;rw[← e] at this;omega) e2
      refine ⟨?_,?_,?_,?_⟩
      ·rw[cell_like hFb,World.cell?_setCell_other _ _ _ _ (by simp)];exact hbk.c0
      ·rw[cell_like hFb]
       have:updF H.re s' H.coll s'=H.coll:=by unfold updF;rw[if_pos rfl]
       rw[this]
       exact World.cell?_setCell_same' _ _ _ (by rw[hbk.c1];rfl)
      ·rw[froz_like hFb,World.frozen?_setCell];exact hbk.f1
      ·exact hbk.ar.conf hle (hh _ ht.2.1 (Ne.symm hn.1)) (hh _ ht.2.2.1 (Ne.symm hn.2.1)) (hh _ ht.2.2.2 (Ne.symm hn.2.2))
     ·refine .inl ⟨by simp;omega,rfl,?_⟩
      unfold updF;rw[if_neg e]
   ·intro g hg
    unfold tagAt at hg
    split at hg
    ·rename_i e;rw[hzF];exact hoff.lt g e
    ·exact Nat.lt_of_lt_of_le (h.un g hg) hle
  ·have hcc:∀ q,q≠2→(w'.setCell ⟨pc,2,none⟩ v').cell? ⟨pc,q,none⟩=w.cell? ⟨pc,q,none⟩:=fun q hq=>by
    rw[World.cell?_setCell_other _ _ _ _ (by intro e;cases e;exact hq rfl)];exact cell_like hpc q
   have hff:∀ q,(w'.setCell ⟨pc,2,none⟩ v').frozen? ⟨pc,q,none⟩=w.frozen? ⟨pc,q,none⟩:=fun q=>by
    rw[World.frozen?_setCell];exact froz_like hpc q
   refine ⟨(hcc 0 (by decide)).trans c.c0,(hcc 1 (by decide)).trans c.c1,World.cell?_setCell_same' _ _ _ (by rw[hc2];rfl),(hff 1).trans c.f1,(hff 2).trans c.f2,?_,(htag pc (by rw[c.tc];decide)).trans c.tc,fun g hg=>by unfold tagAt;rw[if_pos hg]⟩
   rw[List.length_append,List.length_singleton]
   refine (hoff.same (w':=w'.setCell ⟨pc,2,none⟩ v') (fun g hg=>setCell_else _ _ _ _ _ (by rintro rfl;exact hvn hg))).congr (fun j hj=>?_)
   rw[getD_snoc]
   by_cases e:j<ps.length
   ·rw[if_pos e,if_pos e]
   ·rw[if_neg e,if_neg e,if_pos (by omega)];rfl
  ·refine ⟨o1.trans k.os,o2.trans k.tape,o3.trans k.output,hle,fun g hg e=>?_⟩
   have n1:v.ownBlock≠some g:=fun x=>by have:=c.tl g x;omega
   refine ⟨hF g hg n1 (fun x=>by have:=c.tc;rw[← x] at this;omega) (fun x=>by have:=ht.1;rw[← x] at this;omega),?_⟩
   unfold tagAt
   rw[if_neg (fun x=>by rcases hv'1 g x with h1|h1;exact n1 h1;omega)]
   exact e)
 have e1:=c.c0
 have e2:=h.n12
 have e3:=hbk.c1
 have e4:=hbk.f1
 have e5:=c.c2
 have e6:=c.f2
 have hne:((H.re s:Nat):Int)≠(H.coll:Nat):=by omega
 obtain ⟨av,capv,hv⟩:=c.line.shape
 subst hv
 clear h c hb hr hpg hbk ht hvp hvb
 go_enter Tryz.func147,Tryz.ntmps147
 go_wp2_with fail
 refine (unhide HG).mono ?_
 clear HG
 rintro e w1 ⟨rfl,rfl⟩
 go_wp2
 go_quiet (fail)
 have HW:=hide (show Still w1 (w1.drewN nq) from (Still.refl _).drew _)
 have e5':(w1.drewN nq).cell? ⟨pc,2,none⟩=some (.slice av ps.length capv):=e5
 have C1:Hid ((((w1.drewN nq).setCell ⟨bp,1,none⟩ (.int .i64 (H.coll:Nat))).alloc (.cells #[.pointer (some ⟨bp,0,none⟩)] 187)).cell? ⟨w1.heap.size,0,none⟩=some (.pointer (some ⟨bp,0,none⟩))):=hide (cell_made (by rw[unhide HSZ _ (unhide HW)]) _ _)
 go_wp2_with (at_builtin;refine append_off rfl _ _ 175 rfl 187 i0 (.pointer none) 8 Tryz.underlying175 hi hy0 hy1 hy2 rfl _ _ _ rfl (unhide HROW _ (unhide HW)) w1.heap.size ?d7 (.pointer (some ⟨bp,0,none⟩)) (unhide C1) rfl ?d11 ?d12 ?d13)
 case d7=>simp [Act.eval]
 case d11=>omega
 case d12=>omega
 case d13=>
  intro v9 w9 hl9 q1 q2 q3 hg9
  obtain ⟨k1,k2,⟨a9,cp9,rfl⟩,hst⟩:=unhide HFIN _ (unhide HW) _ _ hl9 ⟨q1,q2,q3⟩ hg9
  clear hl9 hg9 q1 q2 q3 HFIN HROW HSZ HW C1
  have HST:=hide hst
  clear hst
  go_wp2
  go_end0
  exact ⟨rfl,unhide HST⟩
theorem CAt.keep {w w':World}{pc ph:Nat}{tag:Nat→Nat}{next:Nat}{v:Value}{ps:List Nat} (h:CAt w pc ph tag next v ps) (K:List Nat) (k6:6 ∉ K) (k7:7 ∉ K) (hb:∀ g,tag g≠0→tag g ∉ K→w'.heap[g]?=w.heap[g]?):CAt w' pc ph tag next v ps:=
 h.conf (fun g e=>hb g (by omega) (by rw[e];exact k6)) (fun g e=>hb g (by omega) (by rw[e];exact k7))
theorem move_nil (pc:Nat) (w:World):Calls Tryz.prog 110 #[.pointer (some ⟨pc,0,none⟩),.int .u64 0] w fun e w'=>e=.returned (.int .u64 0)∧w'=w:=by
 go_enter Tryz.func110,Tryz.ntmps110
 go_wp2
 go_ret
 exact ⟨rfl,rfl⟩
theorem move_large {w:World}{pc s:Nat}{G:World→Prop} (hs:s<9223372036854775808) (HR:Calls Tryz.prog 147 #[.pointer (some ⟨pc,0,none⟩),.int .i64 (s:Nat)] w fun e w'=>e=.returned (.tuple #[])∧G w'):
  Calls Tryz.prog 110 #[.pointer (some ⟨pc,0,none⟩),.int .u64 ((9223372036854775808+s:Nat):Int)] w fun e w'=>e=.returned (.int .u64 ((9223372036854775808+s:Nat):Int))∧G w':=by
 have HL:=hide (large_any (9223372036854775808+s) (by omega) w)
 have hd:decide (9223372036854775808≤9223372036854775808+s)=true:=decide_eq_true (by omega)
 rw[hd] at HL
 have HS:=hide (fun W=>slot_any (9223372036854775808+s) (by omega) (by omega) W)
 have hsub:9223372036854775808+s-9223372036854775808=s:=by omega
 have HS:=hide (show ∀ W,Calls Tryz.prog 124 #[.int .u64 ((9223372036854775808+s:Nat):Int)] W fun e w'=>e=.returned (.int .i64 (s:Nat))∧w'=W from fun W=>by have:=unhide HS W;rw[hsub] at this;exact this)
 clear hsub hd
 have H1:=hide HR
 clear HR
 obtain ⟨X,hX⟩:∃ X:Nat,X=9223372036854775808+s:=⟨_,rfl⟩
 have hX0:(X:Int)≠0:=by omega
 rw[← hX] at HL HS ⊢
 clear hX
 go_enter Tryz.func110,Tryz.ntmps110
 go_wp2_with fail
 refine (unhide HL).mono ?_
 clear HL
 rintro e w1 ⟨rfl,rfl⟩
 go_wp2_with fail
 refine (unhide HS _).mono ?_
 clear HS
 rintro e w2 ⟨rfl,rfl⟩
 go_wp2_with fail
 refine (unhide H1).mono ?_
 clear H1
 rintro e w3 ⟨rfl,hG⟩
 go_wp2
 go_ret
 exact ⟨rfl,hG⟩
theorem move_small {w:World}{ph pc a s x t:Nat}{G:World→Prop} (hx:x<9223372036854775808) (hx0:1≤x) (ht:t<9223372036854775808) (e0:w.cell? ⟨pc,0,none⟩=some (.pointer (some ⟨ph,0,none⟩))) (e1:w.cell? ⟨ph,1,none⟩=some (.pointer (some ⟨a,0,none⟩))) (e2:w.cell? ⟨ph,2,none⟩=some (.pointer (some ⟨s,0,none⟩)))
  (HT:∀ W,Still w W→Calls Tryz.prog 148 #[.pointer (some ⟨s,0,none⟩),.pointer (some ⟨a,0,none⟩),.int .i64 (x:Nat)] W fun e w'=>e=.returned (.tuple #[.int .i64 (t:Nat),.int .i64 0])∧G w'):
  Calls Tryz.prog 110 #[.pointer (some ⟨pc,0,none⟩),.int .u64 (x:Nat)] w fun e w'=>e=.returned (.int .u64 (t:Nat))∧G w':=by
 have HL:=hide (large_any x (by omega) w)
 have hd:decide (9223372036854775808≤x)=false:=decide_eq_false (by omega)
 rw[hd] at HL
 have H1:=hide HT
 have hw1:IntKind.i64.wrap (x:Int)=x:=wrap_nat x hx
 have hw2:IntKind.u64.wrap (t:Int)=t:=by rw[IntKind.wrap_u64];omega
 have hx1:(x:Int)≠0:=by omega
 clear HT hd
 go_enter Tryz.func110,Tryz.ntmps110
 go_wp2_with fail
 refine (unhide HL).mono ?_
 clear HL
 rintro e w1 ⟨rfl,rfl⟩
 go_wp2_with fail
 go_region_with (go_at_call 148;refine (unhide H1 w1.drew ⟨rfl,rfl,rfl,rfl⟩).mono ?_;rintro e w2 ⟨rfl,hg⟩)
 all_goals (clear H1)
 all_goals go_wp2
 all_goals go_ret
 all_goals exact ⟨rfl,hg⟩
theorem look_any {w:World}{pc t q p at' kd r s:Nat} (I J:Nat→World→Prop) (x y:Nat→Nat) (hr:r≤1048576) (hs:s≤1048576)
  (hI:∀ i W W',I i W→Below W.heap.size W W'→I i W') (h0:I 0 w)
  (mO:(method 378 t (.pointer (some ⟨q,0,none⟩)) "Object").run Tryz.prog w=.ok (157,.pointer (some ⟨p,0,none⟩)) w)
  (HO:Calls Tryz.prog 157 #[.pointer (some ⟨p,0,none⟩),.int .i64 (at':Nat)] w fun e w'=>e=.returned (.tuple #[.int .i64 (kd:Nat),.int .i64 (r:Nat),.int .i64 (s:Nat),.int .i64 0])∧Below w.heap.size w w')
  (mG:∀ i W,i<r→I i W→(method 378 t (.pointer (some ⟨q,0,none⟩)) "Get").run Tryz.prog W=.ok (194,.pointer (some ⟨p,0,none⟩)) W)
  (HG:∀ i W,i<r→I i W→Calls Tryz.prog 194 #[.pointer (some ⟨p,0,none⟩),.int .i64 (at':Nat),.int .i64 (i:Nat)] W fun e w'=>e=.returned (.tuple #[.int .u64 (x i:Nat),.int .i64 0])∧Below W.heap.size W w')
  (HM:∀ i W,i<r→I i W→Calls Tryz.prog 110 #[.pointer (some ⟨pc,0,none⟩),.int .u64 (x i:Nat)] W fun e w'=>e=.returned (.int .u64 (y i:Nat))∧J i w')
  (mS:∀ i W,i<r→J i W→(method 378 t (.pointer (some ⟨q,0,none⟩)) "Set").run Tryz.prog W=.ok (195,.pointer (some ⟨p,0,none⟩)) W)
  (nI:∀ i W,i<r→I i W→(nilAhead 378 t (.pointer (some ⟨q,0,none⟩)) "Set").run Tryz.prog W=.ok (some false) W)
  (nS:∀ i W,i<r→J i W→(nilAhead 378 t (.pointer (some ⟨q,0,none⟩)) "Set").run Tryz.prog W=.ok (some false) W)
  (HS:∀ i W,i<r→J i W→Calls Tryz.prog 195 #[.pointer (some ⟨p,0,none⟩),.int .i64 (at':Nat),.int .i64 (i:Nat),.int .u64 (y i:Nat)] W fun e w'=>e=.returned (.int .i64 0)∧I (i+1) w'):
  Calls Tryz.prog 149 #[.pointer (some ⟨pc,0,none⟩),.iface t (.pointer (some ⟨q,0,none⟩)),.int .i64 (at':Nat)] w fun e w'=>e=.returned (.int .i64 ((1+r+s:Nat):Int))∧I r w':=by
 have H0:=hide h0
 have H1:=hide HO
 have H2:=hide HG
 have H3:=hide HM
 have H4:=hide HS
 have H5:=hide hI
 have M2:=hide mG
 have M3:=hide mS
 have M4:=hide nS
 have M5:=hide nI
 have e1:IntKind.i64.wrap ((1:Int)+(r:Nat))=((1+r:Nat):Int):=by rw[show (1:Int)+(r:Nat)=((1+r:Nat):Int) by omega];exact wrap_nat _ (by omega)
 have e2:IntKind.i64.wrap (((1+r:Nat):Int)+(s:Nat))=((1+r+s:Nat):Int):=by rw[show ((1+r:Nat):Int)+(s:Nat)=((1+r+s:Nat):Int) by omega];exact wrap_nat _ (by omega)
 clear h0 HO HG HM HS hI mG mS nS nI
 go_enter Tryz.func149,Tryz.ntmps149
 go_wp2_with fail
 refine (unhide H1).mono ?_
 clear H1 mO
 rintro e w1 ⟨rfl,hb1⟩
 have HB:=hide (unhide H5 _ _ _ (unhide H0) hb1)
 clear hb1 H0
 go_wp2_with fail
 go_loopw [23] (fun iv wr=>∃ i:Nat,iv=.int .i64 (i:Nat)∧i≤r∧I i wr) (fun iv _=>r-(intOf iv).toNat)
 case atStart=>exact ⟨0,rfl,Nat.zero_le _,unhide HB⟩
 case round=>
  obtain ⟨i,rfl,hi,hq⟩:=hrel
  have HQ:=hide hq
  clear hq HB
  by_cases hir:i<r
  ·have hd:decide ((i:Int)<(r:Nat))=true:=decide_eq_true (by omega)
   have e3:IntKind.i64.wrap ((i:Int)+1)=((i+1:Nat):Int):=by rw[show (i:Int)+1=((i+1:Nat):Int) by omega];exact wrap_nat _ (by omega)
   have m1:=unhide M2 i wr hir (unhide HQ)
   go_wp2_with fail
   refine (unhide H2 i wr hir (unhide HQ)).mono ?_
   clear m1
   rintro e w2 ⟨rfl,hb2⟩
   have HQ2:=hide (unhide H5 _ _ _ (unhide HQ) hb2)
   clear HQ hb2
   have HQ3:=hide (unhide H5 _ _ w2.drew (unhide HQ2) (Still.below ⟨rfl,rfl,rfl,rfl⟩))
   clear HQ2
   have m5:=unhide M5 i w2.drew hir (unhide HQ3)
   go_wp2_with fail
   go_region_with (first|(go_at_call 110;refine (unhide H3 i w2.drew hir (unhide HQ3)).mono ?_;rintro e w3 ⟨rfl,hj3⟩;have m3:=unhide M3 i w3 hir hj3;have m4:=unhide M4 i w3 hir hj3)|(go_at_call 195;refine (unhide H4 i w3 hir hj3).mono ?_;rintro e w4 ⟨rfl,hi4⟩))
   all_goals (clear m3 m4 m5 HQ3;have HI4:=hide hi4;clear hi4 hj3)
   all_goals go_wp2
   all_goals go_roundw
   all_goals first|exact ⟨i+1,by simp,by omega,unhide HI4⟩|(simp [intOf];omega)
  ·have hie:i=r:=by omega
   subst hie
   have hd:decide ((i:Int)<(i:Nat))=false:=decide_eq_false (by omega)
   clear H2 H3 H4 H5 M2 M3 M4 M5
   go_wp2
   go_ret
   refine ⟨?_,unhide HQ⟩
   show Ending.returned (.int .i64 ((1:Int)+(i:Nat)+(s:Nat)))=_
   exact ret_int (by omega)
set_option maxHeartbeats 1000000
def Is (M:Hp) (i:Nat):Prop:=i∈M.small∨(i≠0∧i∈M.slots)
structure HpOk (M:Hp):Prop where
 sm:M.small.Nodup
 s1:∀ i∈M.small,i≠0∧(ob M i).big=false∧(ob M i).at'=addr M M.small i
 b1:∀ s,M.slots.getD s 0≠0→(ob M (M.slots.getD s 0)).big=true∧(ob M (M.slots.getD s 0)).at'=s
 rf:∀ i,Is M i→∀ r∈(ob M i).refs,r=0∨Is M r
 rt:∀ i,some i∈M.roots→i=0∨Is M i
 us:M.used=place (shapes M M.small) M.small.length
 u2:M.used≤M.half
 h2:M.half≤1048576
 sl:M.slots.length≤1000000
theorem mem_slot {M:Hp}{i:Nat} (h:i∈M.slots):∃ s,s<M.slots.length∧M.slots.getD s 0=i:=by
 obtain ⟨s,hs,e⟩:=List.getElem_of_mem h
 exact ⟨s,hs,by rw[List.getD_eq_getElem?_getD,List.getElem?_eq_getElem hs];exact e⟩
theorem slot_mem {M:Hp}{s:Nat} (h:M.slots.getD s 0≠0):s<M.slots.length∧M.slots.getD s 0∈M.slots:=by
 by_cases hs:s<M.slots.length
 ·refine ⟨hs,?_⟩
  rw[List.getD_eq_getElem?_getD,List.getElem?_eq_getElem hs]
  exact List.getElem_mem hs
 ·rw[List.getD_eq_getElem?_getD,List.getElem?_eq_none (Nat.le_of_not_lt hs)] at h
  exact absurd rfl h
def midA (M:Hp) (cop:List Nat):RefSt:=⟨shapes M M.small,M.small.map (fun i=>mix M cop 0 i),M.small.map (fun i=>if i∈cop then some (addr M cop i) else none),[],.slice none 0 0,M.half⟩
def midS (M:Hp) (cop:List Nat) (pg:Nat→Nat):RefSt:=⟨shapes M cop,cop.map (fun i=>mix M cop (pg i) i),cop.map (fun _=>none),[],.slice none 0 0,M.half⟩
def midK (M:Hp) (cop:List Nat) (pg:Nat→Nat) (i:Nat):RefSt:=⟨[shp (ob M i)],[mix M cop (pg i) i],[none],[],.slice none 0 0,1+osz (ob M i)⟩
structure MidC (M:Hp) (k:Wk) (pg:Nat→Nat) (H:HC):Prop where
 A:H.A=midA M k.cop
 S:H.S=midS M k.cop pg
 cB:∀ s,(H.cB.getD s none).isSome=true↔M.slots.getD s 0≠0
 bk:∀ s,M.slots.getD s 0≠0→H.bk s=midK M k.cop pg (M.slots.getD s 0)
 re:∀ s,M.slots.getD s 0≠0→(H.re s=H.coll↔M.slots.getD s 0∈k.lin)
 nd:k.cop.Nodup∧k.lin.Nodup
 cs:∀ i∈k.cop,i∈M.small
 ls:∀ i∈k.lin,i≠0∧i∈M.slots
 pg0:∀ i,i ∉ k.cop→i ∉ k.lin→pg i=0
 pgd:∀ i,∀ r∈(ob M i).refs.take (pg i),r=0∨(ob M r).big=true∨r∈k.cop
def bpL (M:Hp) (H:HC) (i:Nat):Nat:=(H.cB.getD (ob M i).at' none).getD 0
theorem getD_map_in {α β:Type} (f:α→β) (l:List α) (j:Nat) (d:α) (e:β) (h:j<l.length):(l.map f).getD j e=f (l.getD j d):=by
 rw[List.getD_eq_getElem?_getD,List.getElem?_map,List.getElem?_eq_getElem h,List.getD_eq_getElem?_getD,List.getElem?_eq_getElem h];rfl
theorem idx_get {l:List Nat}{i:Nat} (h:i∈l):l.idxOf i<l.length∧l.getD (l.idxOf i) 0=i:=by
 have h1:=List.idxOf_lt_length_of_mem h
 refine ⟨h1,?_⟩
 rw[List.getD_eq_getElem?_getD,List.getElem?_eq_getElem h1]
 exact List.getElem_idxOf h1
theorem mix0 (M:Hp) (c c':List Nat) (i:Nat):mix M c 0 i=mix M c' 0 i:=by rw[mix_zero,mix_zero]
theorem midA_more (M:Hp) (ok:HpOk M) (cop:List Nat) (i:Nat) (hi:i∈M.small) (hn:i ∉ cop):
  ((midA M cop).mark (M.small.idxOf i) (addr M (cop ++ [i]) i)).L=(midA M (cop ++ [i])).L∧((midA M cop).mark (M.small.idxOf i) (addr M (cop ++ [i]) i)).X=(midA M (cop ++ [i])).X∧((midA M cop).mark (M.small.idxOf i) (addr M (cop ++ [i]) i)).Gn=(midA M (cop ++ [i])).Gn:=by
 refine ⟨rfl,?_,?_⟩
 ·show M.small.map _=M.small.map _
  exact List.map_congr_left (fun x _=>mix0 M _ _ x)
 ·show (M.small.map _).set _ _=M.small.map _
  apply List.ext_getElem?
  intro n
  rw[List.getElem?_set,List.getElem?_map,List.getElem?_map]
  obtain ⟨h1,h2⟩:=idx_get hi
  by_cases e:M.small.idxOf i=n
  ·subst e
   rw[if_pos rfl,if_pos (by rw[List.length_map];exact h1),List.getElem?_eq_getElem h1,Option.map_some]
   rw[List.getD_eq_getElem?_getD,List.getElem?_eq_getElem h1] at h2
   have h2':M.small[M.small.idxOf i]=i:=h2
   rw[h2',if_pos (by simp)]
  ·rw[if_neg e]
   cases hx:M.small[n]? with
   | none=>rfl
   | some x=>
    rw[Option.map_some,Option.map_some]
    have hxi:x≠i:=by
     rintro rfl
     obtain ⟨hn',hx'⟩:=List.getElem?_eq_some_iff.1 hx
     apply e
     rw[← hx']
     exact List.Nodup.idxOf_getElem ok.sm n hn'
    by_cases hc:x∈cop
    ·rw[if_pos hc,if_pos (by simp [hc]),addr_more M cop [i] x hc]
    ·rw[if_neg hc,if_neg (by simp [hc,hxi])]
theorem midS_more (M:Hp) (cop:List Nat) (pg:Nat→Nat) (i:Nat) (hp:pg i=0) (hd:∀ i,∀ r∈(ob M i).refs.take (pg i),r=0∨(ob M r).big=true∨r∈cop):
  (midS M (cop ++ [i]) pg).L=(midS M cop pg).L ++ [shp (ob M i)]∧(midS M (cop ++ [i]) pg).X=(midS M cop pg).X ++ [mix M cop 0 i]∧(midS M (cop ++ [i]) pg).Gn=(midS M cop pg).Gn ++ [none]:=by
 refine ⟨?_,?_,?_⟩
 ·show (cop ++ [i]).map _=cop.map _++_;rw[List.map_append];rfl
 ·show (cop ++ [i]).map _=cop.map _++_
  rw[List.map_append]
  congr 1
  ·exact List.map_congr_left (fun x _=>mix_more M cop [i] (pg x) x (hd x))
  ·simp only[List.map_cons,List.map_nil,hp];rw[mix0 M _ cop]
 ·show (cop ++ [i]).map _=cop.map _++_;rw[List.map_append];rfl
theorem midK_more (M:Hp) (cop:List Nat) (pg:Nat→Nat) (i q:Nat) (hd:∀ i,∀ r∈(ob M i).refs.take (pg i),r=0∨(ob M r).big=true∨r∈cop):midK M (cop ++ [i]) pg q=midK M cop pg q:=by
 unfold midK
 rw[mix_more M cop [i] (pg q) q (hd q)]
theorem mid_move {w:World}{ph pc:Nat}{tag:Nat→Nat}{H:HC}{next b:Nat}{v:Value}{M:Hp}{k:Wk}{pg:Nat→Nat} (ok:HpOk M) (m:MidC M k pg H) (h:HRaw w ph tag H) (hb:b≤k.lin.length) (c:CAt w pc ph tag next v ((k.lin.drop b).map (bpL M H))) (hl:k.lin.length≤1000000) (i:Nat) (hi:i=0∨Is M i):
  Calls Tryz.prog 110 #[.pointer (some ⟨pc,0,none⟩),.int .u64 (refW M i:Nat)] w fun e w'=>e=.returned (.int .u64 (newRef M (reachW M k i).cop i:Nat))∧
   ∃ tag' H' v',HRaw w' ph tag' H'∧MidC M (reachW M k i) pg H'∧H' = { H with A:=H'.A,S:=H'.S,re:=H'.re,bk:=H'.bk }∧CAt w' pc ph tag' next v' (((reachW M k i).lin.drop b).map (bpL M H'))∧Fr tag tag' w w':=by
 by_cases h0:i=0
 ·subst h0
  have e1:refW M 0=0:=by unfold refW;rw[if_pos rfl]
  have e2:reachW M k 0=k:=by unfold reachW;rw[if_pos (.inl rfl)]
  have e3:newRef M k.cop 0=0:=by unfold newRef;rw[if_pos rfl]
  rw[e1,e2,e3]
  refine (move_nil pc w).mono ?_
  rintro e w' ⟨rfl,rfl⟩
  exact ⟨rfl,tag,H,v,h,m,rfl,c,Fr.refl _⟩
 ·have hIs:Is M i:=hi.resolve_left h0
  by_cases hbig:(ob M i).big=true
  ·-- a large one
   have hin:i∈M.slots:=by
    rcases hIs with q|q
    ·have:=(ok.s1 i q).2.1;rw[hbig] at this;cases this
    ·exact q.2
   obtain ⟨s,hs,es⟩:=mem_slot hin
   have hs0:M.slots.getD s 0≠0:=by rw[es];exact h0
   have hat:(ob M i).at'=s:=by have:=(ok.b1 s hs0).2;rw[es] at this;exact this
   obtain ⟨bp,hbp⟩:∃ bp,H.cB.getD s none=some bp:=Option.isSome_iff_exists.1 ((m.cB s).2 hs0)
   have hsl:=ok.sl
   have e1:refW M i=9223372036854775808+s:=by unfold refW;rw[if_neg h0,if_pos hbig,hat];rfl
   have e3:∀ l,newRef M l i=9223372036854775808+s:=fun l=>by unfold newRef;rw[if_neg h0,if_pos hbig,hat];rfl
   have hnc:i ∉ k.cop:=fun q=>by have:=(ok.s1 i (m.cs i q)).2.1;rw[hbig] at this;cases this
   rw[e1,e3]
   have hre:=m.re s hs0
   rw[es] at hre
   by_cases hil:i∈k.lin
   ·have e2:reachW M k i=k:=by unfold reachW;rw[if_pos (.inr (.inr hil))]
    rw[e2]
    refine (move_large (G:=fun w'=>Still w w') (by omega) ((reach_old h c s bp hbp (hre.2 hil)).mono ?_)).mono ?_
    ·rintro e w' ⟨rfl,hst⟩;exact ⟨rfl,hst⟩
    ·rintro e w' ⟨rfl,hst⟩
     refine ⟨rfl,tag,H,v,h.below hst.below,m,rfl,?_,Fr.of_below hst.below⟩
     exact c.conf (fun g _=>by rw[hst.heap]) (fun g _=>by rw[hst.heap])
   ·have e2:reachW M k i=⟨k.cop,k.lin ++ [i]⟩:=by
     unfold reachW
     rw[if_neg (by rintro (q|q|q);exact h0 q;exact hnc q;exact hil q),if_pos hbig]
    rw[e2]
    refine (move_large (by omega) (reach_new h c s bp hbp (fun q=>hil (hre.1 q)) (by rw[List.length_map,List.length_drop];omega))).mono ?_
    rintro e w' ⟨rfl,tag',v',h',c',fr⟩
    have hlen:(k.lin ++ [i]).drop b=k.lin.drop b ++ [i]:=by rw[List.drop_append_of_le_length hb]
    have hbl:bpL M H i=bp:=by unfold bpL;rw[hat,hbp];rfl
    refine ⟨rfl,tag',_,v',h',⟨m.A,m.S,m.cB,m.bk,fun s' hs'=>?_,⟨m.nd.1,?_⟩,m.cs,?_,?_,m.pgd⟩,rfl,?_,fr⟩
    ·show updF H.re s H.coll s'=H.coll↔M.slots.getD s' 0∈k.lin ++ [i]
     unfold updF
     by_cases q:s'=s
     ·subst q;rw[if_pos rfl,es];simp
     ·rw[if_neg q,m.re s' hs',List.mem_append]
      constructor
      ·exact fun x=>.inl x
      ·rintro (x|x)
       ·exact x
       ·exfalso
        have:=(ok.b1 s' hs').2
        rw[List.mem_singleton.1 x,hat] at this
        exact q this.symm
    ·rw[List.nodup_append]
     exact ⟨m.nd.2,by simp,fun a ha b' hb'=>by rw[List.mem_singleton.1 hb'];rintro rfl;exact hil ha⟩
    ·intro x hx
     rcases List.mem_append.1 hx with q|q
     ·exact m.ls x q
     ·rw[List.mem_singleton.1 q];exact ⟨h0,hin⟩
    ·intro x hx1 hx2
     exact m.pg0 x hx1 (fun q=>hx2 (List.mem_append.2 (.inl q)))
    ·rw[show (⟨k.cop,k.lin ++ [i]⟩:Wk).lin.drop b=(k.lin ++ [i]).drop b from rfl,hlen,List.map_append]
     have:(List.map (bpL M { H with re:=updF H.re s H.coll }) [i])=[bp]:=by rw[List.map_cons,List.map_nil];congr 1
     rw[this]
     exact c'
  ·-- a small one
   have hsm:i∈M.small:=by
    rcases hIs with q|q
    ·exact q
    ·obtain ⟨s,hs,es⟩:=mem_slot q.2
     have:=(ok.b1 s (by rw[es];exact h0)).1
     rw[es] at this
     exact absurd this hbig
   obtain ⟨j1,j2⟩:=idx_get hsm
   have hat:=(ok.s1 i hsm).2.2
   have e1:refW M i=place (shapes M M.small) (M.small.idxOf i):=by unfold refW;rw[if_neg h0,if_neg hbig,hat];rfl
   have e3:∀ l,newRef M l i=addr M l i:=fun l=>by unfold newRef;rw[if_neg h0,if_neg hbig]
   have hnl:i ∉ k.lin:=fun q=>by
    obtain ⟨s,hs,es⟩:=mem_slot (m.ls i q).2
    have:=(ok.b1 s (by rw[es];exact h0)).1
    rw[es] at this
    exact hbig this
   have hA:=h.hA
   rw[m.A] at hA
   have hS:=h.hS
   rw[m.S] at hS
   have hjL:M.small.idxOf i<(midA M k.cop).L.length:=by show _<(shapes M M.small).length;rw[shapes_length];exact j1
   have hgn:(midA M k.cop).Gn.getD (M.small.idxOf i) none=if i∈k.cop then some (addr M k.cop i) else none:=by
    show (M.small.map _).getD _ none=_
    rw[getD_map_in _ _ _ 0 none j1,j2]
   have hpl:1≤place (shapes M M.small) (M.small.idxOf i):=place_pos _ _
   have hub:∀ l:List Nat,l.Nodup→(∀ x∈l,x∈M.small)→place (shapes M l) l.length≤M.half:=fun l h1 h2=>by
    have:=place_sub M l M.small h1 h2
    rw[← ok.us] at this
    exact Nat.le_trans this ok.u2
   have hh2:=ok.h2
   have hx1:place (shapes M M.small) (M.small.idxOf i)≤1048576:=by
    have q:=place_le (shapes M M.small) (Nat.le_of_lt j1)
    rw[← ok.us] at q
    have:=ok.u2
    omega
   rw[e1,e3]
   by_cases hic:i∈k.cop
   ·have e2:reachW M k i=k:=by unfold reachW;rw[if_pos (.inr (.inl hic))]
    rw[e2]
    rw[if_pos hic] at hgn
    have ht:addr M k.cop i≤1048576:=by
     have q:=place_le (shapes M k.cop) (Nat.le_of_lt (idx_get hic).1)
     have:=hub k.cop m.nd.1 m.cs
     unfold addr
     omega
    refine (move_small (G:=fun w'=>Still w w') (x:=place (shapes M M.small) (M.small.idxOf i)) (t:=addr M k.cop i) (by omega) hpl (by omega) c.c0 h.n1 h.n2 (fun W hst=>?_)).mono ?_
    ·refine (r_gone (hA.conf (by rw[hst.heap];exact Nat.le_refl _) (by rw[hst.heap]) (by rw[hst.heap]) (by rw[hst.heap])) _ _ _ hjL hgn).mono ?_
     rintro e w' ⟨rfl,rfl⟩
     exact ⟨rfl,hst⟩
    ·rintro e w' ⟨rfl,hst⟩
     refine ⟨rfl,tag,H,v,h.below hst.below,m,rfl,?_,Fr.of_below hst.below⟩
     exact c.conf (fun g _=>by rw[hst.heap]) (fun g _=>by rw[hst.heap])
   ·have e2:reachW M k i=⟨k.cop ++ [i],k.lin⟩:=by
     unfold reachW
     rw[if_neg (by rintro (q|q|q);exact h0 q;exact hic q;exact hnl q),if_neg hbig]
    rw[e2]
    rw[if_neg hic] at hgn
    have hnd:(k.cop ++ [i]).Nodup:=by
     rw[List.nodup_append]
     exact ⟨m.nd.1,by simp,fun a ha b' hb'=>by rw[List.mem_singleton.1 hb'];rintro rfl;exact hic ha⟩
    have hcs:∀ x∈k.cop ++ [i],x∈M.small:=fun x hx=>by
     rcases List.mem_append.1 hx with q|q
     ·exact m.cs x q
     ·rw[List.mem_singleton.1 q];exact hsm
    have hus:(midS M k.cop pg).used=addr M (k.cop ++ [i]) i:=by
     rw[addr_last M k.cop i hic]
     show place (shapes M k.cop) (shapes M k.cop).length=_
     rw[shapes_length]
    have hLj:(midA M k.cop).L.getD (M.small.idxOf i) (0,0,0)=shp (ob M i):=by
     show (shapes M M.small).getD _ _=_
     rw[shapes_at _ _ _ j1,j2]
    have hXj:(midA M k.cop).X.getD (M.small.idxOf i) []=mix M k.cop 0 i:=by
     show (M.small.map _).getD _ []=_
     rw[getD_map_in _ _ _ 0 [] j1,j2]
    have hfit:(midS M k.cop pg).used+(1+((midA M k.cop).L.getD (M.small.idxOf i) (0,0,0)).2.1+((midA M k.cop).L.getD (M.small.idxOf i) (0,0,0)).2.2)≤(midS M k.cop pg).size:=by
     rw[hLj]
     have q:=hub _ hnd hcs
     rw[List.length_append,List.length_singleton,shapes_app] at q
     have q2:=place_snoc (shapes M k.cop) (shp (ob M i))
     rw[shapes_length] at q2
     have q3:shapes M [i]=[shp (ob M i)]:=rfl
     rw[q3,q2] at q
     have q4:(midS M k.cop pg).used=place (shapes M k.cop) k.cop.length:=by
      show place (shapes M k.cop) (shapes M k.cop).length=_
      rw[shapes_length]
     rw[q4]
     exact q
    have hpg:pg i=0:=m.pg0 i hic hnl
    obtain ⟨sa,sb,sc⟩:=midS_more M k.cop pg i hpg m.pgd
    obtain ⟨ta,tb,tc⟩:=midA_more M ok k.cop i hsm hic
    have ht:addr M (k.cop ++ [i]) i≤1048576:=by
     rw[← hus]
     have:=hS.ok.u2
     have:=hS.ok.sz
     omega
    have hdis:∀ x ∈ [H.a.1,H.a.2.1,H.a.2.2],x ∉ [H.s.1,H.s.2.2,H.s.2.1]:=by
     intro x hx hy
     have t2:tag x=2:=by
      simp only[List.mem_cons,List.not_mem_nil,or_false] at hx
      rcases hx with rfl|rfl|rfl
      exact h.tA.1;exact h.tA.2.1;exact h.tA.2.2
     have t3:tag x=3:=by
      simp only[List.mem_cons,List.not_mem_nil,or_false] at hy
      rcases hy with rfl|rfl|rfl
      exact h.tS.1;exact h.tS.2.2;exact h.tS.2.1
     omega
    refine (move_small (G:=fun w'=>∃ W,Still w W∧ArR w' H.s (midS M (k.cop ++ [i]) pg)∧ArR w' H.a (midA M (k.cop ++ [i]))∧But [H.s.1,H.s.2.2,H.s.2.1,H.a.2.1] W w') (x:=place (shapes M M.small) (M.small.idxOf i)) (t:=addr M (k.cop ++ [i]) i) (by omega) hpl (by omega) c.c0 h.n1 h.n2 (fun W hst=>?_)).mono ?_
    ·refine (r_take (hA.conf (by rw[hst.heap];exact Nat.le_refl _) (by rw[hst.heap]) (by rw[hst.heap]) (by rw[hst.heap])) (hS.conf (by rw[hst.heap];exact Nat.le_refl _) (by rw[hst.heap]) (by rw[hst.heap]) (by rw[hst.heap])) hdis _ hjL hgn hfit).mono ?_
     rintro e w' ⟨rfl,g1,g2,g3⟩
     rw[hus] at g2
     rw[hLj,hXj] at g1
     refine ⟨by rw[hus],W,hst,g1.like ?_ ?_ ?_ rfl,g2.like ta.symm tb.symm tc.symm rfl,g3⟩
     ·rw[sa];rfl
     ·rw[sb];rfl
     ·rw[sc];rfl
    ·rintro e w' ⟨rfl,W,hst,g1,g2,g3⟩
     have hsz:w.heap.size≤w'.heap.size:=by have:=g3.size;rw[hst.heap] at this;exact this
     have hbb:∀ g,tag g≠0→tag g ∉ [2,3]→w'.heap[g]?=w.heap[g]?:=fun g q1 q2=>by
      have:=g3.block g (by rw[hst.heap];exact h.un g q1) (fun hm=>q2 (by
       simp only[List.mem_cons,List.not_mem_nil,or_false] at hm ⊢
       rcases hm with rfl|rfl|rfl|rfl
       ·exact .inr h.tS.1
       ·exact .inr h.tS.2.2
       ·exact .inr h.tS.2.1
       ·exact .inl h.tA.2.1))
      rw[hst.heap] at this
      exact this
     have h':=h.turn [2,3] (by simp) (by simp) hsz hbb (midA M (k.cop ++ [i])) (midS M (k.cop ++ [i]) pg) H.cH H.bk H.re (.inr g2) (.inr g1) (.inl ⟨by simp,rfl⟩) (fun s bp hs=>.inl ⟨by simp;omega,rfl,rfl⟩)
     refine ⟨rfl,tag,_,v,h',⟨rfl,rfl,m.cB,fun s hs=>?_,m.re,⟨hnd,m.nd.2⟩,hcs,m.ls,fun x hx1 hx2=>m.pg0 x (fun q=>hx1 (List.mem_append.2 (.inl q))) hx2,fun x r hr=>?_⟩,rfl,c.keep [2,3] (by simp) (by simp) hbb,?_⟩
     ·show H.bk s=midK M (k.cop ++ [i]) pg (M.slots.getD s 0)
      rw[midK_more M k.cop pg i _ m.pgd]
      exact m.bk s hs
     ·rcases m.pgd x r hr with q|q|q
      ·exact .inl q
      ·exact .inr (.inl q)
      ·exact .inr (.inr (List.mem_append.2 (.inl q)))
     ·refine ⟨g3.os.trans hst.os,g3.tape.trans hst.tape,g3.output.trans hst.output,hsz,fun g hg e=>⟨?_,e⟩⟩
      have:=g3.block g (by rw[hst.heap];exact hg) (fun hm=>by
       simp only[List.mem_cons,List.not_mem_nil,or_false] at hm
       have:=h.tS;have:=h.tA
       rcases hm with rfl|rfl|rfl|rfl <;> omega)
      rw[hst.heap] at this
      exact this
end Go.Proofs.YtnfbaapbpgbgpaaGreat
