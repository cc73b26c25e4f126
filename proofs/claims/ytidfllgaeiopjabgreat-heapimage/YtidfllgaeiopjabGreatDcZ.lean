import Derived.Test.YtidfllgaeiopjabGreatDcX
namespace Go.Proofs.YtidfllgaeiopjabGreat
open Go.ChangeShapes Go.WideShapes Go.ChangeAt Go.RowKit
set_option linter.unusedVariables false
set_option linter.unusedSimpArgs false
set_option maxRecDepth 100000
set_option maxHeartbeats 4000000
structure MidL (pd:Nat) (dt:Nat→Nat) (M:Hp) (k r s:Nat) (w W1:World) (limit half large used:Nat):Prop where
 n0:W1.cell? ⟨pd,0,none⟩=some (.int .i64 (limit:Nat))
 n1:W1.cell? ⟨pd,1,none⟩=some (.int .i64 (half:Nat))
 n2:W1.cell? ⟨pd,2,none⟩=some (.int .i64 (used:Nat))
 n3:W1.cell? ⟨pd,3,none⟩=some (.int .i64 (large:Nat))
 b:limit≤10000000∧half≤100000000∧large≤10000000∧used≤10000000
 D:2*half+large+(2+r+s)≤limit→∀ W,Still W1 W→∃ (sn2 nO cO m cL n:Nat) (aO aL:Option Addr) (sl:Nat→Nat),TailL pd dt M k r s w W large sn2 nO cO m cL n aO aL sl
 N:limit<2*half+large+(2+r+s)→(limit<large+(2+r+s)∨(limit-large-(2+r+s)) / 2<64∨(limit-large-(2+r+s)) / 2<used)→∀ W,Still W1 W→AllD pd dt M k r s w W 0 31
 Y:limit<2*half+large+(2+r+s)→large+(2+r+s)≤limit→64≤(limit-large-(2+r+s)) / 2→used≤(limit-large-(2+r+s)) / 2→∀ W,Still W1 W→Calls Tryz.prog 114 #[.pointer (some ⟨pd,0,none⟩),.int .i64 (((limit-large-(2+r+s)) / 2:Nat):Int)] W fun e w'=>e=.returned (.tuple #[])∧∃ (sn2 nO cO m cL n:Nat) (aO aL:Option Addr) (sl:Nat→Nat),Hid (TailL pd dt M k r s w w' large sn2 nO cO m cL n aO aL sl)
theorem block_walk {w:World}{pd:Nat}{dt:Nat→Nat}{M:Hp}{k r s B:Nat} (hB:B=2+r+s) (hrs:64<1+r+s) (hr:r≤1048576) (hs:s≤1048576) {limit0 half0 large0 sn0 kept0:Nat} (n0:w.cell? ⟨pd,0,none⟩=some (.int .i64 (limit0:Nat))) (n1:w.cell? ⟨pd,1,none⟩=some (.int .i64 (half0:Nat))) (n3:w.cell? ⟨pd,3,none⟩=some (.int .i64 (large0:Nat))) (n4:w.cell? ⟨pd,4,none⟩=some (.int .i64 (sn0:Nat))) (n5:w.cell? ⟨pd,5,none⟩=some (.int .i64 (kept0:Nat)))
  (bl:limit0≤10000000∧half0≤100000000∧large0≤10000000∧sn0≤10000000∧kept0≤10000000) (cc:limit0<2*half0+large0+B∨half0+kept0<sn0+B)
  (H76:∀ W,Still w W→Calls Tryz.prog 48 #[.pointer (some ⟨pd,0,none⟩)] W fun e w'=>e=.returned (.tuple #[])∧∃ limit half large used:Nat,MidL pd dt M k r s w w' limit half large used):
  Calls Tryz.prog 98 #[.pointer (some ⟨pd,0,none⟩),.int .i64 (k:Nat),.int .i64 (r:Nat),.int .i64 (s:Nat)] w fun e w'=>∃ v x:Nat,e=.returned (.tuple #[.int .u64 (v:Nat),.int .i64 (x:Nat)])∧AllD pd dt M k r s w w' v x:=by
 have H104:=hide (fun W=>dSize_any r s (by omega) (by omega) W)
 have H76':=hide H76
 obtain ⟨i0,hi,hy0,hy1,hy2⟩:=info_parts Tryz.info3
 obtain ⟨q1,q2,q3,q4,q5⟩:=bl
 have u1:IntKind.i64.wrap (1+((1+r+s:Nat):Int))=(B:Int):=by rw[show 1+((1+r+s:Nat):Int)=(B:Int) by omega];exact wrap_small _ (by omega) (by omega)
 obtain ⟨Z,hZ⟩:∃ Z,1+r+s=Z:=⟨_,rfl⟩
 rw[hZ] at H104 u1
 have u1':1+(Z:Int)=(B:Int):=by omega
 have u2:IntKind.i64.wrap (2*(half0:Int))=2*(half0:Int):=wrap_small _ (by omega) (by omega)
 have u3:IntKind.i64.wrap (2*(half0:Int)+(large0:Int))=2*(half0:Int)+(large0:Int):=wrap_small _ (by omega) (by omega)
 have u4:IntKind.i64.wrap (2*(half0:Int)+(large0:Int)+(B:Int))=2*(half0:Int)+(large0:Int)+(B:Int):=wrap_small _ (by omega) (by omega)
 have u5:IntKind.i64.wrap ((sn0:Int)+(B:Int))=(sn0:Int)+(B:Int):=wrap_small _ (by omega) (by omega)
 have u6:IntKind.i64.wrap ((half0:Int)+(kept0:Int))=(half0:Int)+(kept0:Int):=wrap_small _ (by omega) (by omega)
 have HBE:=hide hB
 have hBb:B≤3000000:=by omega
 have HCC:=hide cc
 have HZ:=hide hZ
 clear hB H76 cc hZ
 go_enter Tryz.func98,Tryz.ntmps98
 go_wp2_with fail
 refine (unhide H104 _).mono ?_
 rintro e w2 ⟨rfl,rfl⟩
 clear H104
 go_wp2_with fail
 go_cut [52] (fun c wx=>c=.bool true∧Hid (Still w2 wx))
 case first=>
  by_cases c1:limit0<2*half0+large0+B
  ·have d1:decide ((limit0:Int)<2*(half0:Int)+(large0:Int)+(B:Int))=true:=decide_eq_true (by omega)
   clear n4 n5 u5 u6 H76' HCC
   refine wp_region_noPanic ?_
   go_region
   all_goals refine NoPanic.normal ?_
   all_goals go_wp2_with fail
   all_goals go_meet
   all_goals exact ⟨rfl,hide (by first|exact (Still.refl _).drew _|exact Still.refl _)⟩
  ·have d1:decide ((limit0:Int)<2*(half0:Int)+(large0:Int)+(B:Int))=false:=decide_eq_false (by omega)
   have d2:decide ((half0:Int)+(kept0:Int)<(sn0:Int)+(B:Int))=true:=decide_eq_true (by have:=unhide HCC;omega)
   clear H76' HCC
   go_region_held3 (fun W=>W.cell? ⟨pd,0,none⟩=some (.int .i64 (limit0:Nat))∧W.cell? ⟨pd,1,none⟩=some (.int .i64 (half0:Nat))∧W.cell? ⟨pd,3,none⟩=some (.int .i64 (large0:Nat))∧W.cell? ⟨pd,4,none⟩=some (.int .i64 (sn0:Nat))∧W.cell? ⟨pd,5,none⟩=some (.int .i64 (kept0:Nat))) (go_keep) (fail)
   all_goals go_wp2_with fail
   all_goals go_meet
   all_goals exact ⟨rfl,hide ((Still.refl _).drew _)⟩
 case rest=>
  obtain ⟨hc1,hc2⟩:=hcut
  subst hc1
  clear n0 n1 n3 n4 n5 u2 u3 u4 u5 u6 HCC
  go_wp2_with fail
  refine (unhide H76' _ (unhide hc2)).mono ?_
  rintro e w3 ⟨rfl,limit,half,large,used,hmid⟩
  clear H76' hc2
  obtain ⟨n0,n1,n2,n3,⟨g1,g2,g3,g4⟩,hD,hN,hY⟩:=hmid
  have HD:=hide hD
  have HN:=hide hN
  have HY:=hide hY
  clear hD hN hY
  have u2:IntKind.i64.wrap (2*(half:Int))=2*(half:Int):=wrap_small _ (by omega) (by omega)
  have u3:IntKind.i64.wrap (2*(half:Int)+(large:Int))=2*(half:Int)+(large:Int):=wrap_small _ (by omega) (by omega)
  have u4:IntKind.i64.wrap (2*(half:Int)+(large:Int)+(B:Int))=2*(half:Int)+(large:Int)+(B:Int):=wrap_small _ (by omega) (by omega)
  by_cases c1:2*half+large+B≤limit
  ·have d1:decide ((limit:Int)<2*(half:Int)+(large:Int)+(B:Int))=false:=decide_eq_false (by omega)
   have HD':=hide (unhide HD (by have:=unhide HBE;omega))
   clear HD HN HY
   go_wp2_with fail
   go_region_held3 (fun W=>W.cell? ⟨pd,0,none⟩=some (.int .i64 (limit:Nat))∧W.cell? ⟨pd,1,none⟩=some (.int .i64 (half:Nat))∧W.cell? ⟨pd,3,none⟩=some (.int .i64 (large:Nat))) (go_keep) (fail)
   obtain ⟨sn2,nO,cO,m,cL,n,aO,aL,sl,hT⟩:=unhide HD' w3.drew ⟨rfl,rfl,rfl,rfl⟩
   have HT:=hide hT
   clear hT n0 n1 n2 n3 HD' u2 u3 u4
   generalize hWW:World.drew w3=W at *
   clear hWW
   obtain ⟨n3,n4,z3,z4,⟨b1,b2,b3,b4⟩,⟨lo1,lo2,lo3⟩,hc6,happ,hf0,hf1⟩:=unhide HT
   have v1:IntKind.i64.wrap ((large:Int)+(B:Int))=(large:Int)+(B:Int):=wrap_small _ (by omega) (by omega)
   have v2:IntKind.i64.wrap ((sn2:Int)+(B:Int))=(sn2:Int)+(B:Int):=wrap_small _ (by omega) (by omega)
   have n4':(W.setCell ⟨pd,3,none⟩ (.int .i64 ((large:Int)+(B:Int)))).cell? ⟨pd,4,none⟩=some (.int .i64 (sn2:Nat)):=(World.cell?_setCell_other _ _ _ _ (by simp)).trans n4
   have z4':(W.setCell ⟨pd,3,none⟩ (.int .i64 ((large:Int)+(B:Int)))).frozen? ⟨pd,4,none⟩=false:=(setCell_froz _ _ _ _).trans z4
   have HB3:Hid (Still (big3 W pd (large+(2+r+s)) (sn2+(2+r+s))) ((W.setCell ⟨pd,3,none⟩ (.int .i64 ((large:Int)+(B:Int)))).setCell ⟨pd,4,none⟩ (.int .i64 ((sn2:Int)+(B:Int))))):=hide (by
    unfold big3
    rw[show (((large+(2+r+s):Nat):Nat):Int)=(large:Int)+(B:Int) by have:=unhide HBE;omega,show (((sn2+(2+r+s):Nat):Nat):Int)=(sn2:Int)+(B:Int) by have:=unhide HBE;omega]
    exact Still.refl _)
   have HC6:=hide hc6
   have HAPP:=hide happ
   have HF0:=hide hf0
   have HF1:=hide hf1
   have HLO:=hide (⟨lo2,lo3⟩:_∧_)
   clear hc6 happ hf0 hf1 lo2 lo3 HT
   go_wp2_with fail
   clear n3 n4 z3 z4 n4' z4' v1 v2
   generalize hBB:big3 W pd (large+(2+r+s)) (sn2+(2+r+s))=B3 at *
   generalize hW3:World.setCell (World.setCell W _ _) _ _=W3 at *
   clear hBB hW3
   go_loopw [12] (fun av wr=>∃ q:Nat,av=.int .i64 (q:Nat)∧q≤n∧Hid (Still B3 wr)) (fun av _=>n-(intOf av).toNat)
   case atStart=>exact ⟨0,rfl,Nat.zero_le _,HB3⟩
   case round=>
    clear HB3
    obtain ⟨q,rfl,hqn,hS0⟩:=hrel
    obtain ⟨h6,h8,hel⟩:=unhide HC6 _ (unhide hS0)
    have w1:IntKind.i64.wrap ((q:Int)+1)=(q:Int)+1:=wrap_small _ (by omega) (by omega)
    by_cases hq:q<n
    ·have dl:decide ((q:Int)<(m:Nat))=true:=decide_eq_true (by omega)
     have dl':decide (q<m)=true:=decide_eq_true (by omega)
     obtain ⟨g,rfl,e0,_⟩:=hel q (by omega)
     have i1:(0:Int)≤(q:Nat):=by omega
     have i2:(q:Int)<(m:Nat):=by omega
     have hne:=(unhide HLO).1 q hq
     obtain ⟨S,hS⟩:∃ S,sl q=S:=⟨_,rfl⟩
     rw[hS] at e0 hne
     have dn:((S:Int) != 0)=true:=by simp;omega
     clear hel hS
     go_wp2_with fail
     all_goals go_roundw
     all_goals first|exact ⟨q+1,by simp,by omega,hS0⟩|(simp [intOf];omega)
    ·have hqe:q=n:=by omega
     subst hqe
     by_cases hqm:q<m
     ·have dl:decide ((q:Int)<(m:Nat))=true:=decide_eq_true (by omega)
      have dl':decide (q<m)=true:=decide_eq_true (by omega)
      obtain ⟨g,rfl,e0,f0⟩:=hel q (by omega)
      have i1:(0:Int)≤(q:Nat):=by omega
      have i2:(q:Int)<(m:Nat):=by omega
      rw[(unhide HLO).2 hqm] at e0
      have d0:((q:Int) == (m:Nat))=false:=by simp;omega
      have d0':((q:Int)=(m:Nat))=False:=by simp;omega
      have d0'':(q=m)=False:=by simp;omega
      clear hel
      go_wp2_with fail
      have hS:(fun w'=>w'.cell? ⟨pd,8,none⟩=some (.slice (some ⟨g,0,none⟩) m cL)∧w'.cell? ⟨pd,6,none⟩=some (.slice aO nO cO)) wr.drew:=⟨h8,h6⟩
      refine till_begin (fun w'=>w'.cell? ⟨pd,8,none⟩=some (.slice (some ⟨g,0,none⟩) m cL)∧w'.cell? ⟨pd,6,none⟩=some (.slice aO nO cO)) 11 (by kernel_rfl) ?_
      refine AnyTill.take 0 (v:=?_) rfl (by kernel_rfl) (by kernel_rfl) (by kernel_rfl) (by kernel_rfl) (fun _ _ _ h=>h) ?_ rfl hS ?_
      rotate_left
      ·intro w hSw
       obtain ⟨s1,s2⟩:=hSw
       go_simp
       all_goals with_reducible rfl
      try simp only[Act.put,List.getElem_toArray,List.getElem_cons_succ,List.getElem_cons_zero,List.setIfInBounds_toArray,List.set_cons_zero,List.set_cons_succ]
      refine AnyTill.take 1 (v:=?_) rfl (by kernel_rfl) (by kernel_rfl) (by kernel_rfl) (by kernel_rfl) (fun _ _ _ h=>h) ?_ rfl hS ?_
      rotate_left
      ·intro w hSw
       obtain ⟨s1,s2⟩:=hSw
       go_simp
       all_goals with_reducible rfl
      try simp only[Act.put,List.getElem_toArray,List.getElem_cons_succ,List.getElem_cons_zero,List.setIfInBounds_toArray,List.set_cons_zero,List.set_cons_succ]
      refine AnyTill.take 2 (v:=?_) rfl (by kernel_rfl) (by kernel_rfl) (by kernel_rfl) (by kernel_rfl) (fun _ _ _ h=>h) ?_ rfl hS ?_
      rotate_left
      ·intro w hSw
       obtain ⟨s1,s2⟩:=hSw
       go_simp
       all_goals with_reducible rfl
      try simp only[Act.put,List.getElem_toArray,List.getElem_cons_succ,List.getElem_cons_zero,List.setIfInBounds_toArray,List.set_cons_zero,List.set_cons_succ]
      refine AnyTill.take 3 (v:=?_) rfl (by kernel_rfl) (by kernel_rfl) (by kernel_rfl) (by kernel_rfl) (fun _ _ _ h=>h) ?_ rfl hS ?_
      rotate_left
      ·intro w hSw
       obtain ⟨s1,s2⟩:=hSw
       go_simp
       all_goals with_reducible rfl
      try simp only[Act.put,List.getElem_toArray,List.getElem_cons_succ,List.getElem_cons_zero,List.setIfInBounds_toArray,List.set_cons_zero,List.set_cons_succ]
      refine AnyTill.take 4 (v:=?_) rfl (by kernel_rfl) (by kernel_rfl) (by kernel_rfl) (by kernel_rfl) (fun _ _ _ h=>h) ?_ rfl hS ?_
      rotate_left
      ·intro w hSw
       obtain ⟨s1,s2⟩:=hSw
       go_simp
       all_goals with_reducible rfl
      try simp only[Act.put,List.getElem_toArray,List.getElem_cons_succ,List.getElem_cons_zero,List.setIfInBounds_toArray,List.set_cons_zero,List.set_cons_succ]
      refine AnyTill.take 5 (v:=?_) rfl (by kernel_rfl) (by kernel_rfl) (by kernel_rfl) (by kernel_rfl) (fun _ _ _ h=>h) ?_ rfl hS ?_
      rotate_left
      ·intro w hSw
       obtain ⟨s1,s2⟩:=hSw
       go_simp
       all_goals with_reducible rfl
      try simp only[Act.put,List.getElem_toArray,List.getElem_cons_succ,List.getElem_cons_zero,List.setIfInBounds_toArray,List.set_cons_zero,List.set_cons_succ]
      refine AnyTill.take 6 (v:=?_) rfl (by kernel_rfl) (by kernel_rfl) (by kernel_rfl) (by kernel_rfl) (fun _ _ _ h=>h) ?_ rfl hS ?_
      rotate_left
      ·intro w hSw
       obtain ⟨s1,s2⟩:=hSw
       go_simp
       all_goals with_reducible rfl
      try simp only[Act.put,List.getElem_toArray,List.getElem_cons_succ,List.getElem_cons_zero,List.setIfInBounds_toArray,List.set_cons_zero,List.set_cons_succ]
      refine AnyTill.take 7 (v:=?_) rfl (by kernel_rfl) (by kernel_rfl) (by kernel_rfl) (by kernel_rfl) (fun _ _ _ h=>h) ?_ rfl hS ?_
      rotate_left
      ·intro w hSw
       obtain ⟨s1,s2⟩:=hSw
       go_simp
       all_goals with_reducible rfl
      try simp only[Act.put,List.getElem_toArray,List.getElem_cons_succ,List.getElem_cons_zero,List.setIfInBounds_toArray,List.set_cons_zero,List.set_cons_succ]
      refine AnyTill.take 8 (v:=?_) rfl (by kernel_rfl) (by kernel_rfl) (by kernel_rfl) (by kernel_rfl) (fun _ _ _ h=>h) ?_ rfl hS ?_
      rotate_left
      ·intro w hSw
       obtain ⟨s1,s2⟩:=hSw
       go_simp
       all_goals with_reducible rfl
      try simp only[Act.put,List.getElem_toArray,List.getElem_cons_succ,List.getElem_cons_zero,List.setIfInBounds_toArray,List.set_cons_zero,List.set_cons_succ]
      refine AnyTill.take 9 (v:=?_) rfl (by kernel_rfl) (by kernel_rfl) (by kernel_rfl) (by kernel_rfl) (fun _ _ _ h=>h) ?_ rfl hS ?_
      rotate_left
      ·intro w hSw
       obtain ⟨s1,s2⟩:=hSw
       go_simp
       all_goals with_reducible rfl
      try simp only[Act.put,List.getElem_toArray,List.getElem_cons_succ,List.getElem_cons_zero,List.setIfInBounds_toArray,List.set_cons_zero,List.set_cons_succ]
      refine AnyTill.one (i:=10) (by kernel_rfl) (AnyTill.op rfl rfl fun K hK=>?_)
      go_simp
      refine hK _ _ (fun _=>hS) ?_
      clear hK K
      try simp only[Act.put,List.getElem_toArray,List.getElem_cons_succ,List.getElem_cons_zero,List.setIfInBounds_toArray,List.set_cons_zero,List.set_cons_succ]
      refine AnyTill.one (i:=11) (by kernel_rfl) (AnyTill.op rfl rfl fun K hK=>?_)
      go_simp
      refine hK _ _ (fun h=>absurd rfl h) ?_
      clear hK K
      try simp only[Act.put,List.getElem_toArray,List.getElem_cons_succ,List.getElem_cons_zero,List.setIfInBounds_toArray,List.set_cons_zero,List.set_cons_succ]
      refine AnyTill.done (by kernel_rfl) ?_
      have H108:=hide (unhide HF0 hqm g wr rfl (unhide hS0) (wr.setCell ⟨g,q,none⟩ (.int .i64 (nO:Nat))).drew ⟨rfl,rfl,rfl,rfl⟩)
      clear HF0 HF1 HAPP HC6 HLO h6 h8 e0 f0 hS
      go_wp2_with fail
      refine (unhide H108).mono ?_
      rintro e w5 ⟨rfl,hfin⟩
      clear H108
      go_wp2_with fail
      all_goals go_ret2
      all_goals exact ⟨topW+q,0,by simp,unhide hfin⟩
     ·have hqm':m=q:=by omega
      subst hqm'
      have dl:decide ((m:Int)<(m:Nat))=false:=decide_eq_false (by omega)
      have dl':decide (m<m)=false:=decide_eq_false (by omega)
      obtain ⟨x1,x2,x3,x4⟩:=unhide HAPP wr (unhide hS0)
      have HROW:=hide x1
      have C1':=hide x3
      have HFIN:=hide x4
      have HF1':=hide (unhide HF1 rfl)
      have d0:((m:Int) == (m:Nat))=true:=by simp
      have i1:(0:Int)≤(m:Nat):=by omega
      have i2:(m:Int)<((m+1:Nat):Int):=by omega
      have i2':(m:Int)<(m:Int)+1:=by omega
      clear x1 x3 x4 hel HF0 HF1 HAPP HC6 HLO w1
      go_wp2_with (refine append_line rfl (.tmp 157) (.tmp 158) 65 rfl 3 i0 (.int .i64 0) 8 Tryz.underlying65 hi hy0 hy1 hy2 rfl (.slice aL m cL) m _ (by simp [Act.eval]) (unhide HROW) wr.heap.size (by simp [Act.eval]) (.int .i64 0) (unhide C1') rfl (by omega) (by omega) ?_)
      intro v9 w9 hl9 hg9
      obtain ⟨k1,k2,⟨a9,cp9,rfl,k3⟩,_,_,hst⟩:=unhide HFIN _ _ hl9 hg9
      have hR:=hst _ rfl rfl rfl rfl
      obtain ⟨g,cp,ev,ho,_⟩:=hR.line.at (by omega)
      cases ev
      obtain ⟨y6,hy⟩:=unhide HF1' _ _ hR
      obtain ⟨y0,yf,hfin'⟩:=hy g ho
      have HFN:=hide hfin'
      clear hl9 hg9 hst hR hfin' hy HF1' HFIN HROW C1' ho x2 h6 h8
      go_wp2_with fail
      generalize hWd:World.setCell w9 _ _=Wd at *
      clear hWd k1 k2
      have h8:=k3
      have h6:=y6
      have hS:(fun w'=>w'.cell? ⟨pd,8,none⟩=some (.slice (some ⟨g,0,none⟩) (m+1) cp9)∧w'.cell? ⟨pd,6,none⟩=some (.slice aO nO cO)) Wd.drew:=⟨h8,h6⟩
      refine till_begin (fun w'=>w'.cell? ⟨pd,8,none⟩=some (.slice (some ⟨g,0,none⟩) (m+1) cp9)∧w'.cell? ⟨pd,6,none⟩=some (.slice aO nO cO)) 11 (by kernel_rfl) ?_
      refine AnyTill.take 0 (v:=?_) rfl (by kernel_rfl) (by kernel_rfl) (by kernel_rfl) (by kernel_rfl) (fun _ _ _ h=>h) ?_ rfl hS ?_
      rotate_left
      ·intro w hSw
       obtain ⟨s1,s2⟩:=hSw
       go_simp
       all_goals with_reducible rfl
      try simp only[Act.put,List.getElem_toArray,List.getElem_cons_succ,List.getElem_cons_zero,List.setIfInBounds_toArray,List.set_cons_zero,List.set_cons_succ]
      refine AnyTill.take 1 (v:=?_) rfl (by kernel_rfl) (by kernel_rfl) (by kernel_rfl) (by kernel_rfl) (fun _ _ _ h=>h) ?_ rfl hS ?_
      rotate_left
      ·intro w hSw
       obtain ⟨s1,s2⟩:=hSw
       go_simp
       all_goals with_reducible rfl
      try simp only[Act.put,List.getElem_toArray,List.getElem_cons_succ,List.getElem_cons_zero,List.setIfInBounds_toArray,List.set_cons_zero,List.set_cons_succ]
      refine AnyTill.take 2 (v:=?_) rfl (by kernel_rfl) (by kernel_rfl) (by kernel_rfl) (by kernel_rfl) (fun _ _ _ h=>h) ?_ rfl hS ?_
      rotate_left
      ·intro w hSw
       obtain ⟨s1,s2⟩:=hSw
       go_simp
       all_goals with_reducible rfl
      try simp only[Act.put,List.getElem_toArray,List.getElem_cons_succ,List.getElem_cons_zero,List.setIfInBounds_toArray,List.set_cons_zero,List.set_cons_succ]
      refine AnyTill.take 3 (v:=?_) rfl (by kernel_rfl) (by kernel_rfl) (by kernel_rfl) (by kernel_rfl) (fun _ _ _ h=>h) ?_ rfl hS ?_
      rotate_left
      ·intro w hSw
       obtain ⟨s1,s2⟩:=hSw
       go_simp
       all_goals with_reducible rfl
      try simp only[Act.put,List.getElem_toArray,List.getElem_cons_succ,List.getElem_cons_zero,List.setIfInBounds_toArray,List.set_cons_zero,List.set_cons_succ]
      refine AnyTill.take 4 (v:=?_) rfl (by kernel_rfl) (by kernel_rfl) (by kernel_rfl) (by kernel_rfl) (fun _ _ _ h=>h) ?_ rfl hS ?_
      rotate_left
      ·intro w hSw
       obtain ⟨s1,s2⟩:=hSw
       go_simp
       all_goals with_reducible rfl
      try simp only[Act.put,List.getElem_toArray,List.getElem_cons_succ,List.getElem_cons_zero,List.setIfInBounds_toArray,List.set_cons_zero,List.set_cons_succ]
      refine AnyTill.take 5 (v:=?_) rfl (by kernel_rfl) (by kernel_rfl) (by kernel_rfl) (by kernel_rfl) (fun _ _ _ h=>h) ?_ rfl hS ?_
      rotate_left
      ·intro w hSw
       obtain ⟨s1,s2⟩:=hSw
       go_simp
       all_goals with_reducible rfl
      try simp only[Act.put,List.getElem_toArray,List.getElem_cons_succ,List.getElem_cons_zero,List.setIfInBounds_toArray,List.set_cons_zero,List.set_cons_succ]
      refine AnyTill.take 6 (v:=?_) rfl (by kernel_rfl) (by kernel_rfl) (by kernel_rfl) (by kernel_rfl) (fun _ _ _ h=>h) ?_ rfl hS ?_
      rotate_left
      ·intro w hSw
       obtain ⟨s1,s2⟩:=hSw
       go_simp
       all_goals with_reducible rfl
      try simp only[Act.put,List.getElem_toArray,List.getElem_cons_succ,List.getElem_cons_zero,List.setIfInBounds_toArray,List.set_cons_zero,List.set_cons_succ]
      refine AnyTill.take 7 (v:=?_) rfl (by kernel_rfl) (by kernel_rfl) (by kernel_rfl) (by kernel_rfl) (fun _ _ _ h=>h) ?_ rfl hS ?_
      rotate_left
      ·intro w hSw
       obtain ⟨s1,s2⟩:=hSw
       go_simp
       all_goals with_reducible rfl
      try simp only[Act.put,List.getElem_toArray,List.getElem_cons_succ,List.getElem_cons_zero,List.setIfInBounds_toArray,List.set_cons_zero,List.set_cons_succ]
      refine AnyTill.take 8 (v:=?_) rfl (by kernel_rfl) (by kernel_rfl) (by kernel_rfl) (by kernel_rfl) (fun _ _ _ h=>h) ?_ rfl hS ?_
      rotate_left
      ·intro w hSw
       obtain ⟨s1,s2⟩:=hSw
       go_simp
       all_goals with_reducible rfl
      try simp only[Act.put,List.getElem_toArray,List.getElem_cons_succ,List.getElem_cons_zero,List.setIfInBounds_toArray,List.set_cons_zero,List.set_cons_succ]
      refine AnyTill.take 9 (v:=?_) rfl (by kernel_rfl) (by kernel_rfl) (by kernel_rfl) (by kernel_rfl) (fun _ _ _ h=>h) ?_ rfl hS ?_
      rotate_left
      ·intro w hSw
       obtain ⟨s1,s2⟩:=hSw
       go_simp
       all_goals with_reducible rfl
      try simp only[Act.put,List.getElem_toArray,List.getElem_cons_succ,List.getElem_cons_zero,List.setIfInBounds_toArray,List.set_cons_zero,List.set_cons_succ]
      refine AnyTill.one (i:=10) (by kernel_rfl) (AnyTill.op rfl rfl fun K hK=>?_)
      go_simp
      refine hK _ _ (fun _=>hS) ?_
      clear hK K
      try simp only[Act.put,List.getElem_toArray,List.getElem_cons_succ,List.getElem_cons_zero,List.setIfInBounds_toArray,List.set_cons_zero,List.set_cons_succ]
      refine AnyTill.one (i:=11) (by kernel_rfl) (AnyTill.op rfl rfl fun K hK=>?_)
      go_simp
      refine hK _ _ (fun h=>absurd rfl h) ?_
      clear hK K
      try simp only[Act.put,List.getElem_toArray,List.getElem_cons_succ,List.getElem_cons_zero,List.setIfInBounds_toArray,List.set_cons_zero,List.set_cons_succ]
      refine AnyTill.done (by kernel_rfl) ?_
      have H108:=hide (unhide HFN Wd (Wd.setCell ⟨g,m,none⟩ (.int .i64 (nO:Nat))).drew (Still.refl _) ⟨rfl,rfl,rfl,rfl⟩)
      clear HFN h6 h8 y0 yf k3 y6 hS
      go_wp2_with fail
      refine (unhide H108).mono ?_
      rintro e w5 ⟨rfl,hfin⟩
      clear H108
      go_wp2_with fail
      all_goals go_ret2
      all_goals exact ⟨topW+m,0,by simp,unhide hfin⟩
  ·have d1:decide ((limit:Int)<2*(half:Int)+(large:Int)+(B:Int))=true:=decide_eq_true (by omega)
   have e1:(2+r+s:Nat)=B:=(unhide HBE).symm
   rw[e1] at HN HY
   clear e1 HD
   have hlt:limit<2*half+large+B:=by omega
   have HN':=hide (unhide HN hlt)
   have HY':=hide (unhide HY hlt)
   clear HN HY
   have u7:(limit:Int)-(large:Int)-(B:Int)=((limit:Int)-(large:Int)-(B:Int)):=rfl
   by_cases c2:limit<large+B
   ·have u8:IntKind.i64.wrap ((limit:Int)-(large:Int))=(limit:Int)-(large:Int):=wrap_small _ (by omega) (by omega)
    have u9:IntKind.i64.wrap ((limit:Int)-(large:Int)-(B:Int))=(limit:Int)-(large:Int)-(B:Int):=wrap_small _ (by omega) (by omega)
    have d2:decide ((limit:Int)-(large:Int)-(B:Int)<0)=true:=decide_eq_true (by omega)
    have HNN:=hide (unhide HN' (.inl c2))
    clear HN' HY' u7 c2
    go_wp2_with fail
    go_region_held3 (fun W=>W.cell? ⟨pd,0,none⟩=some (.int .i64 (limit:Nat))∧W.cell? ⟨pd,1,none⟩=some (.int .i64 (half:Nat))∧W.cell? ⟨pd,3,none⟩=some (.int .i64 (large:Nat))) (go_keep) (fail)
    go_wp2_with fail
    go_region_held3 (fun W=>W.cell? ⟨pd,0,none⟩=some (.int .i64 (limit:Nat))∧W.cell? ⟨pd,3,none⟩=some (.int .i64 (large:Nat))) (go_keep) (fail)
    all_goals go_wp2_with fail
    all_goals go_ret2
    all_goals exact ⟨0,31,by simp,unhide HNN _ ⟨rfl,rfl,rfl,rfl⟩⟩
   ·have u8:IntKind.i64.wrap ((limit:Int)-(large:Int))=(limit:Int)-(large:Int):=wrap_small _ (by omega) (by omega)
    have u9:IntKind.i64.wrap ((limit:Int)-(large:Int)-(B:Int))=(limit:Int)-(large:Int)-(B:Int):=wrap_small _ (by omega) (by omega)
    have d2:decide ((limit:Int)-(large:Int)-(B:Int)<0)=false:=decide_eq_false (by omega)
    obtain ⟨V,hV⟩:∃ V,(limit-large-B) / 2=V:=⟨_,rfl⟩
    have u10:((limit:Int)-(large:Int)-(B:Int)).tdiv 2=(V:Int):=by rw[Int.tdiv_eq_ediv_of_nonneg (by omega)];omega
    have u11:IntKind.i64.wrap (V:Int)=(V:Int):=wrap_small _ (by omega) (by omega)
    rw[hV] at HN' HY'
    have HVb:Hid (V≤10000000):=hide (by omega)
    have HC2:=hide (show large+B≤limit by omega)
    clear hV u7 c2
    by_cases c3:V<64
    ·have d3:decide ((V:Int)<64)=true:=decide_eq_true (by omega)
     have HNN:=hide (unhide HN' (.inr (.inl c3)))
     clear HN' HY'
     go_wp2_with fail
     go_region_held3 (fun W=>W.cell? ⟨pd,0,none⟩=some (.int .i64 (limit:Nat))∧W.cell? ⟨pd,1,none⟩=some (.int .i64 (half:Nat))∧W.cell? ⟨pd,3,none⟩=some (.int .i64 (large:Nat))) (go_keep) (fail)
     go_wp2_with fail
     go_region_held3 (fun W=>W.cell? ⟨pd,0,none⟩=some (.int .i64 (limit:Nat))∧W.cell? ⟨pd,3,none⟩=some (.int .i64 (large:Nat))) (go_keep) (fail)
     go_wp2_with fail
     go_region_held3 (fun W=>W.cell? ⟨pd,0,none⟩=some (.int .i64 (limit:Nat))∧W.cell? ⟨pd,3,none⟩=some (.int .i64 (large:Nat))) (go_keep) (fail)
     all_goals go_wp2_with fail
     all_goals go_ret2
     all_goals exact ⟨0,31,by simp,unhide HNN _ ⟨rfl,rfl,rfl,rfl⟩⟩
    ·have d3:decide ((V:Int)<64)=false:=decide_eq_false (by omega)
     by_cases c4:V<used
     ·have d4:decide ((V:Int)<(used:Nat))=true:=decide_eq_true (by omega)
      have d4':decide (V<used)=true:=decide_eq_true (by omega)
      have HNN:=hide (unhide HN' (.inr (.inr c4)))
      clear HN' HY'
      go_wp2_with fail
      go_region_held3 (fun W=>W.cell? ⟨pd,0,none⟩=some (.int .i64 (limit:Nat))∧W.cell? ⟨pd,1,none⟩=some (.int .i64 (half:Nat))∧W.cell? ⟨pd,3,none⟩=some (.int .i64 (large:Nat))) (go_keep) (fail)
      go_wp2_with fail
      go_region_held3 (fun W=>W.cell? ⟨pd,0,none⟩=some (.int .i64 (limit:Nat))∧W.cell? ⟨pd,3,none⟩=some (.int .i64 (large:Nat))) (go_keep) (fail)
      go_wp2_with fail
      go_region_held3 (fun W=>W.cell? ⟨pd,0,none⟩=some (.int .i64 (limit:Nat))∧W.cell? ⟨pd,3,none⟩=some (.int .i64 (large:Nat))) (go_keep) (fail)
      all_goals go_wp2_with fail
      all_goals go_ret2
      all_goals exact ⟨0,31,by simp,unhide HNN _ ⟨rfl,rfl,rfl,rfl⟩⟩
     ·have d4:decide ((V:Int)<(used:Nat))=false:=decide_eq_false (by omega)
      have d4':decide (V<used)=false:=decide_eq_false (by omega)
      have HYY:=hide (unhide HY' (unhide HC2) (by omega) (by omega))
      clear HN' HY'
      go_wp2_with fail
      go_region_held3 (fun W=>W.cell? ⟨pd,0,none⟩=some (.int .i64 (limit:Nat))∧W.cell? ⟨pd,1,none⟩=some (.int .i64 (half:Nat))∧W.cell? ⟨pd,3,none⟩=some (.int .i64 (large:Nat))) (go_keep) (fail)
      go_wp2_with fail
      go_region_held3 (fun W=>W.cell? ⟨pd,0,none⟩=some (.int .i64 (limit:Nat))∧W.cell? ⟨pd,3,none⟩=some (.int .i64 (large:Nat))) (go_keep) (fail)
      go_wp2_with fail
      go_region_held3 (fun W=>W.cell? ⟨pd,0,none⟩=some (.int .i64 (limit:Nat))∧W.cell? ⟨pd,3,none⟩=some (.int .i64 (large:Nat))) (go_keep) (fail)
      go_wp2_with fail
      refine (unhide HYY w3.drew.drew.drew ⟨rfl,rfl,rfl,rfl⟩).mono ?_
      rintro e W ⟨rfl,sn2,nO,cO,m,cL,n,aO,aL,sl,HT⟩
      clear HYY n0 n1 n2 n3 u2 u3 u4 u8 u9 u10 u11
      obtain ⟨n3,n4,z3,z4,⟨b1,b2,b3,b4⟩,⟨lo1,lo2,lo3⟩,hc6,happ,hf0,hf1⟩:=unhide HT
      have v1:IntKind.i64.wrap ((large:Int)+(B:Int))=(large:Int)+(B:Int):=wrap_small _ (by omega) (by omega)
      have v2:IntKind.i64.wrap ((sn2:Int)+(B:Int))=(sn2:Int)+(B:Int):=wrap_small _ (by omega) (by omega)
      have n4':(W.setCell ⟨pd,3,none⟩ (.int .i64 ((large:Int)+(B:Int)))).cell? ⟨pd,4,none⟩=some (.int .i64 (sn2:Nat)):=(World.cell?_setCell_other _ _ _ _ (by simp)).trans n4
      have z4':(W.setCell ⟨pd,3,none⟩ (.int .i64 ((large:Int)+(B:Int)))).frozen? ⟨pd,4,none⟩=false:=(setCell_froz _ _ _ _).trans z4
      have HB3:Hid (Still (big3 W pd (large+(2+r+s)) (sn2+(2+r+s))) ((W.setCell ⟨pd,3,none⟩ (.int .i64 ((large:Int)+(B:Int)))).setCell ⟨pd,4,none⟩ (.int .i64 ((sn2:Int)+(B:Int))))):=hide (by
       unfold big3
       rw[show (((large+(2+r+s):Nat):Nat):Int)=(large:Int)+(B:Int) by have:=unhide HBE;omega,show (((sn2+(2+r+s):Nat):Nat):Int)=(sn2:Int)+(B:Int) by have:=unhide HBE;omega]
       exact Still.refl _)
      have HC6:=hide hc6
      have HAPP:=hide happ
      have HF0:=hide hf0
      have HF1:=hide hf1
      have HLO:=hide (⟨lo2,lo3⟩:_∧_)
      clear hc6 happ hf0 hf1 lo2 lo3 HT
      go_wp2_with fail
      clear n3 n4 z3 z4 n4' z4' v1 v2
      generalize hBB:big3 W pd (large+(2+r+s)) (sn2+(2+r+s))=B3 at *
      generalize hW3:World.setCell (World.setCell W _ _) _ _=W3 at *
      clear hBB hW3
      go_loopw [12] (fun av wr=>∃ q:Nat,av=.int .i64 (q:Nat)∧q≤n∧Hid (Still B3 wr)) (fun av _=>n-(intOf av).toNat)
      case atStart=>exact ⟨0,rfl,Nat.zero_le _,HB3⟩
      case round=>
       clear HB3
       obtain ⟨q,rfl,hqn,hS0⟩:=hrel
       obtain ⟨h6,h8,hel⟩:=unhide HC6 _ (unhide hS0)
       have w1:IntKind.i64.wrap ((q:Int)+1)=(q:Int)+1:=wrap_small _ (by omega) (by omega)
       by_cases hq:q<n
       ·have dl:decide ((q:Int)<(m:Nat))=true:=decide_eq_true (by omega)
        have dl':decide (q<m)=true:=decide_eq_true (by omega)
        obtain ⟨g,rfl,e0,_⟩:=hel q (by omega)
        have i1:(0:Int)≤(q:Nat):=by omega
        have i2:(q:Int)<(m:Nat):=by omega
        have hne:=(unhide HLO).1 q hq
        obtain ⟨S,hS⟩:∃ S,sl q=S:=⟨_,rfl⟩
        rw[hS] at e0 hne
        have dn:((S:Int) != 0)=true:=by simp;omega
        clear hel hS
        go_wp2_with fail
        all_goals go_roundw
        all_goals first|exact ⟨q+1,by simp,by omega,hS0⟩|(simp [intOf];omega)
       ·have hqe:q=n:=by omega
        subst hqe
        by_cases hqm:q<m
        ·have dl:decide ((q:Int)<(m:Nat))=true:=decide_eq_true (by omega)
         have dl':decide (q<m)=true:=decide_eq_true (by omega)
         obtain ⟨g,rfl,e0,f0⟩:=hel q (by omega)
         have i1:(0:Int)≤(q:Nat):=by omega
         have i2:(q:Int)<(m:Nat):=by omega
         rw[(unhide HLO).2 hqm] at e0
         have d0:((q:Int) == (m:Nat))=false:=by simp;omega
         have d0':((q:Int)=(m:Nat))=False:=by simp;omega
         have d0'':(q=m)=False:=by simp;omega
         clear hel
         go_wp2_with fail
         have hS:(fun w'=>w'.cell? ⟨pd,8,none⟩=some (.slice (some ⟨g,0,none⟩) m cL)∧w'.cell? ⟨pd,6,none⟩=some (.slice aO nO cO)) wr.drew:=⟨h8,h6⟩
         refine till_begin (fun w'=>w'.cell? ⟨pd,8,none⟩=some (.slice (some ⟨g,0,none⟩) m cL)∧w'.cell? ⟨pd,6,none⟩=some (.slice aO nO cO)) 11 (by kernel_rfl) ?_
         refine AnyTill.take 0 (v:=?_) rfl (by kernel_rfl) (by kernel_rfl) (by kernel_rfl) (by kernel_rfl) (fun _ _ _ h=>h) ?_ rfl hS ?_
         rotate_left
         ·intro w hSw
          obtain ⟨s1,s2⟩:=hSw
          go_simp
          all_goals with_reducible rfl
         try simp only[Act.put,List.getElem_toArray,List.getElem_cons_succ,List.getElem_cons_zero,List.setIfInBounds_toArray,List.set_cons_zero,List.set_cons_succ]
         refine AnyTill.take 1 (v:=?_) rfl (by kernel_rfl) (by kernel_rfl) (by kernel_rfl) (by kernel_rfl) (fun _ _ _ h=>h) ?_ rfl hS ?_
         rotate_left
         ·intro w hSw
          obtain ⟨s1,s2⟩:=hSw
          go_simp
          all_goals with_reducible rfl
         try simp only[Act.put,List.getElem_toArray,List.getElem_cons_succ,List.getElem_cons_zero,List.setIfInBounds_toArray,List.set_cons_zero,List.set_cons_succ]
         refine AnyTill.take 2 (v:=?_) rfl (by kernel_rfl) (by kernel_rfl) (by kernel_rfl) (by kernel_rfl) (fun _ _ _ h=>h) ?_ rfl hS ?_
         rotate_left
         ·intro w hSw
          obtain ⟨s1,s2⟩:=hSw
          go_simp
          all_goals with_reducible rfl
         try simp only[Act.put,List.getElem_toArray,List.getElem_cons_succ,List.getElem_cons_zero,List.setIfInBounds_toArray,List.set_cons_zero,List.set_cons_succ]
         refine AnyTill.take 3 (v:=?_) rfl (by kernel_rfl) (by kernel_rfl) (by kernel_rfl) (by kernel_rfl) (fun _ _ _ h=>h) ?_ rfl hS ?_
         rotate_left
         ·intro w hSw
          obtain ⟨s1,s2⟩:=hSw
          go_simp
          all_goals with_reducible rfl
         try simp only[Act.put,List.getElem_toArray,List.getElem_cons_succ,List.getElem_cons_zero,List.setIfInBounds_toArray,List.set_cons_zero,List.set_cons_succ]
         refine AnyTill.take 4 (v:=?_) rfl (by kernel_rfl) (by kernel_rfl) (by kernel_rfl) (by kernel_rfl) (fun _ _ _ h=>h) ?_ rfl hS ?_
         rotate_left
         ·intro w hSw
          obtain ⟨s1,s2⟩:=hSw
          go_simp
          all_goals with_reducible rfl
         try simp only[Act.put,List.getElem_toArray,List.getElem_cons_succ,List.getElem_cons_zero,List.setIfInBounds_toArray,List.set_cons_zero,List.set_cons_succ]
         refine AnyTill.take 5 (v:=?_) rfl (by kernel_rfl) (by kernel_rfl) (by kernel_rfl) (by kernel_rfl) (fun _ _ _ h=>h) ?_ rfl hS ?_
         rotate_left
         ·intro w hSw
          obtain ⟨s1,s2⟩:=hSw
          go_simp
          all_goals with_reducible rfl
         try simp only[Act.put,List.getElem_toArray,List.getElem_cons_succ,List.getElem_cons_zero,List.setIfInBounds_toArray,List.set_cons_zero,List.set_cons_succ]
         refine AnyTill.take 6 (v:=?_) rfl (by kernel_rfl) (by kernel_rfl) (by kernel_rfl) (by kernel_rfl) (fun _ _ _ h=>h) ?_ rfl hS ?_
         rotate_left
         ·intro w hSw
          obtain ⟨s1,s2⟩:=hSw
          go_simp
          all_goals with_reducible rfl
         try simp only[Act.put,List.getElem_toArray,List.getElem_cons_succ,List.getElem_cons_zero,List.setIfInBounds_toArray,List.set_cons_zero,List.set_cons_succ]
         refine AnyTill.take 7 (v:=?_) rfl (by kernel_rfl) (by kernel_rfl) (by kernel_rfl) (by kernel_rfl) (fun _ _ _ h=>h) ?_ rfl hS ?_
         rotate_left
         ·intro w hSw
          obtain ⟨s1,s2⟩:=hSw
          go_simp
          all_goals with_reducible rfl
         try simp only[Act.put,List.getElem_toArray,List.getElem_cons_succ,List.getElem_cons_zero,List.setIfInBounds_toArray,List.set_cons_zero,List.set_cons_succ]
         refine AnyTill.take 8 (v:=?_) rfl (by kernel_rfl) (by kernel_rfl) (by kernel_rfl) (by kernel_rfl) (fun _ _ _ h=>h) ?_ rfl hS ?_
         rotate_left
         ·intro w hSw
          obtain ⟨s1,s2⟩:=hSw
          go_simp
          all_goals with_reducible rfl
         try simp only[Act.put,List.getElem_toArray,List.getElem_cons_succ,List.getElem_cons_zero,List.setIfInBounds_toArray,List.set_cons_zero,List.set_cons_succ]
         refine AnyTill.take 9 (v:=?_) rfl (by kernel_rfl) (by kernel_rfl) (by kernel_rfl) (by kernel_rfl) (fun _ _ _ h=>h) ?_ rfl hS ?_
         rotate_left
         ·intro w hSw
          obtain ⟨s1,s2⟩:=hSw
          go_simp
          all_goals with_reducible rfl
         try simp only[Act.put,List.getElem_toArray,List.getElem_cons_succ,List.getElem_cons_zero,List.setIfInBounds_toArray,List.set_cons_zero,List.set_cons_succ]
         refine AnyTill.one (i:=10) (by kernel_rfl) (AnyTill.op rfl rfl fun K hK=>?_)
         go_simp
         refine hK _ _ (fun _=>hS) ?_
         clear hK K
         try simp only[Act.put,List.getElem_toArray,List.getElem_cons_succ,List.getElem_cons_zero,List.setIfInBounds_toArray,List.set_cons_zero,List.set_cons_succ]
         refine AnyTill.one (i:=11) (by kernel_rfl) (AnyTill.op rfl rfl fun K hK=>?_)
         go_simp
         refine hK _ _ (fun h=>absurd rfl h) ?_
         clear hK K
         try simp only[Act.put,List.getElem_toArray,List.getElem_cons_succ,List.getElem_cons_zero,List.setIfInBounds_toArray,List.set_cons_zero,List.set_cons_succ]
         refine AnyTill.done (by kernel_rfl) ?_
         have H108:=hide (unhide HF0 hqm g wr rfl (unhide hS0) (wr.setCell ⟨g,q,none⟩ (.int .i64 (nO:Nat))).drew ⟨rfl,rfl,rfl,rfl⟩)
         clear HF0 HF1 HAPP HC6 HLO h6 h8 e0 f0 hS
         go_wp2_with fail
         refine (unhide H108).mono ?_
         rintro e w5 ⟨rfl,hfin⟩
         clear H108
         go_wp2_with fail
         all_goals go_ret2
         all_goals exact ⟨topW+q,0,by simp,unhide hfin⟩
        ·have hqm':m=q:=by omega
         subst hqm'
         have dl:decide ((m:Int)<(m:Nat))=false:=decide_eq_false (by omega)
         have dl':decide (m<m)=false:=decide_eq_false (by omega)
         obtain ⟨x1,x2,x3,x4⟩:=unhide HAPP wr (unhide hS0)
         have HROW:=hide x1
         have C1':=hide x3
         have HFIN:=hide x4
         have HF1':=hide (unhide HF1 rfl)
         have d0:((m:Int) == (m:Nat))=true:=by simp
         have i1:(0:Int)≤(m:Nat):=by omega
         have i2:(m:Int)<((m+1:Nat):Int):=by omega
         have i2':(m:Int)<(m:Int)+1:=by omega
         clear x1 x3 x4 hel HF0 HF1 HAPP HC6 HLO w1
         go_wp2_with (refine append_line rfl (.tmp 157) (.tmp 158) 65 rfl 3 i0 (.int .i64 0) 8 Tryz.underlying65 hi hy0 hy1 hy2 rfl (.slice aL m cL) m _ (by simp [Act.eval]) (unhide HROW) wr.heap.size (by simp [Act.eval]) (.int .i64 0) (unhide C1') rfl (by omega) (by omega) ?_)
         intro v9 w9 hl9 hg9
         obtain ⟨k1,k2,⟨a9,cp9,rfl,k3⟩,_,_,hst⟩:=unhide HFIN _ _ hl9 hg9
         have hR:=hst _ rfl rfl rfl rfl
         obtain ⟨g,cp,ev,ho,_⟩:=hR.line.at (by omega)
         cases ev
         obtain ⟨y6,hy⟩:=unhide HF1' _ _ hR
         obtain ⟨y0,yf,hfin'⟩:=hy g ho
         have HFN:=hide hfin'
         clear hl9 hg9 hst hR hfin' hy HF1' HFIN HROW C1' ho x2 h6 h8
         go_wp2_with fail
         generalize hWd:World.setCell w9 _ _=Wd at *
         clear hWd k1 k2
         have h8:=k3
         have h6:=y6
         have hS:(fun w'=>w'.cell? ⟨pd,8,none⟩=some (.slice (some ⟨g,0,none⟩) (m+1) cp9)∧w'.cell? ⟨pd,6,none⟩=some (.slice aO nO cO)) Wd.drew:=⟨h8,h6⟩
         refine till_begin (fun w'=>w'.cell? ⟨pd,8,none⟩=some (.slice (some ⟨g,0,none⟩) (m+1) cp9)∧w'.cell? ⟨pd,6,none⟩=some (.slice aO nO cO)) 11 (by kernel_rfl) ?_
         refine AnyTill.take 0 (v:=?_) rfl (by kernel_rfl) (by kernel_rfl) (by kernel_rfl) (by kernel_rfl) (fun _ _ _ h=>h) ?_ rfl hS ?_
         rotate_left
         ·intro w hSw
          obtain ⟨s1,s2⟩:=hSw
          go_simp
          all_goals with_reducible rfl
         try simp only[Act.put,List.getElem_toArray,List.getElem_cons_succ,List.getElem_cons_zero,List.setIfInBounds_toArray,List.set_cons_zero,List.set_cons_succ]
         refine AnyTill.take 1 (v:=?_) rfl (by kernel_rfl) (by kernel_rfl) (by kernel_rfl) (by kernel_rfl) (fun _ _ _ h=>h) ?_ rfl hS ?_
         rotate_left
         ·intro w hSw
          obtain ⟨s1,s2⟩:=hSw
          go_simp
          all_goals with_reducible rfl
         try simp only[Act.put,List.getElem_toArray,List.getElem_cons_succ,List.getElem_cons_zero,List.setIfInBounds_toArray,List.set_cons_zero,List.set_cons_succ]
         refine AnyTill.take 2 (v:=?_) rfl (by kernel_rfl) (by kernel_rfl) (by kernel_rfl) (by kernel_rfl) (fun _ _ _ h=>h) ?_ rfl hS ?_
         rotate_left
         ·intro w hSw
          obtain ⟨s1,s2⟩:=hSw
          go_simp
          all_goals with_reducible rfl
         try simp only[Act.put,List.getElem_toArray,List.getElem_cons_succ,List.getElem_cons_zero,List.setIfInBounds_toArray,List.set_cons_zero,List.set_cons_succ]
         refine AnyTill.take 3 (v:=?_) rfl (by kernel_rfl) (by kernel_rfl) (by kernel_rfl) (by kernel_rfl) (fun _ _ _ h=>h) ?_ rfl hS ?_
         rotate_left
         ·intro w hSw
          obtain ⟨s1,s2⟩:=hSw
          go_simp
          all_goals with_reducible rfl
         try simp only[Act.put,List.getElem_toArray,List.getElem_cons_succ,List.getElem_cons_zero,List.setIfInBounds_toArray,List.set_cons_zero,List.set_cons_succ]
         refine AnyTill.take 4 (v:=?_) rfl (by kernel_rfl) (by kernel_rfl) (by kernel_rfl) (by kernel_rfl) (fun _ _ _ h=>h) ?_ rfl hS ?_
         rotate_left
         ·intro w hSw
          obtain ⟨s1,s2⟩:=hSw
          go_simp
          all_goals with_reducible rfl
         try simp only[Act.put,List.getElem_toArray,List.getElem_cons_succ,List.getElem_cons_zero,List.setIfInBounds_toArray,List.set_cons_zero,List.set_cons_succ]
         refine AnyTill.take 5 (v:=?_) rfl (by kernel_rfl) (by kernel_rfl) (by kernel_rfl) (by kernel_rfl) (fun _ _ _ h=>h) ?_ rfl hS ?_
         rotate_left
         ·intro w hSw
          obtain ⟨s1,s2⟩:=hSw
          go_simp
          all_goals with_reducible rfl
         try simp only[Act.put,List.getElem_toArray,List.getElem_cons_succ,List.getElem_cons_zero,List.setIfInBounds_toArray,List.set_cons_zero,List.set_cons_succ]
         refine AnyTill.take 6 (v:=?_) rfl (by kernel_rfl) (by kernel_rfl) (by kernel_rfl) (by kernel_rfl) (fun _ _ _ h=>h) ?_ rfl hS ?_
         rotate_left
         ·intro w hSw
          obtain ⟨s1,s2⟩:=hSw
          go_simp
          all_goals with_reducible rfl
         try simp only[Act.put,List.getElem_toArray,List.getElem_cons_succ,List.getElem_cons_zero,List.setIfInBounds_toArray,List.set_cons_zero,List.set_cons_succ]
         refine AnyTill.take 7 (v:=?_) rfl (by kernel_rfl) (by kernel_rfl) (by kernel_rfl) (by kernel_rfl) (fun _ _ _ h=>h) ?_ rfl hS ?_
         rotate_left
         ·intro w hSw
          obtain ⟨s1,s2⟩:=hSw
          go_simp
          all_goals with_reducible rfl
         try simp only[Act.put,List.getElem_toArray,List.getElem_cons_succ,List.getElem_cons_zero,List.setIfInBounds_toArray,List.set_cons_zero,List.set_cons_succ]
         refine AnyTill.take 8 (v:=?_) rfl (by kernel_rfl) (by kernel_rfl) (by kernel_rfl) (by kernel_rfl) (fun _ _ _ h=>h) ?_ rfl hS ?_
         rotate_left
         ·intro w hSw
          obtain ⟨s1,s2⟩:=hSw
          go_simp
          all_goals with_reducible rfl
         try simp only[Act.put,List.getElem_toArray,List.getElem_cons_succ,List.getElem_cons_zero,List.setIfInBounds_toArray,List.set_cons_zero,List.set_cons_succ]
         refine AnyTill.take 9 (v:=?_) rfl (by kernel_rfl) (by kernel_rfl) (by kernel_rfl) (by kernel_rfl) (fun _ _ _ h=>h) ?_ rfl hS ?_
         rotate_left
         ·intro w hSw
          obtain ⟨s1,s2⟩:=hSw
          go_simp
          all_goals with_reducible rfl
         try simp only[Act.put,List.getElem_toArray,List.getElem_cons_succ,List.getElem_cons_zero,List.setIfInBounds_toArray,List.set_cons_zero,List.set_cons_succ]
         refine AnyTill.one (i:=10) (by kernel_rfl) (AnyTill.op rfl rfl fun K hK=>?_)
         go_simp
         refine hK _ _ (fun _=>hS) ?_
         clear hK K
         try simp only[Act.put,List.getElem_toArray,List.getElem_cons_succ,List.getElem_cons_zero,List.setIfInBounds_toArray,List.set_cons_zero,List.set_cons_succ]
         refine AnyTill.one (i:=11) (by kernel_rfl) (AnyTill.op rfl rfl fun K hK=>?_)
         go_simp
         refine hK _ _ (fun h=>absurd rfl h) ?_
         clear hK K
         try simp only[Act.put,List.getElem_toArray,List.getElem_cons_succ,List.getElem_cons_zero,List.setIfInBounds_toArray,List.set_cons_zero,List.set_cons_succ]
         refine AnyTill.done (by kernel_rfl) ?_
         have H108:=hide (unhide HFN Wd (Wd.setCell ⟨g,m,none⟩ (.int .i64 (nO:Nat))).drew (Still.refl _) ⟨rfl,rfl,rfl,rfl⟩)
         clear HFN h6 h8 y0 yf k3 y6 hS
         go_wp2_with fail
         refine (unhide H108).mono ?_
         rintro e w5 ⟨rfl,hfin⟩
         clear H108
         go_wp2_with fail
         all_goals go_ret2
         all_goals exact ⟨topW+m,0,by simp,unhide hfin⟩
set_option maxHeartbeats 1000000
theorem fit_half_le {M:Hp} (s:Nat) (hs:s≤64) (hu:M.used≤1048576) (hh:M.half≤1048576):(fitM M s).half≤100000000:=by
 have e1:=fit_half M s
 obtain ⟨g1,g2,g3,g4⟩:=wantOf_ok (M.used+s) (by omega)
 rw[e1]
 split
 ·split <;> omega
 ·split <;> omega
theorem dblock_any {w:World}{pd sn:Nat}{dt:Nat→Nat}{M:Hp}{C:DC} (h:DAt w pd dt M sn C) (hsn:sn=M.large-M.kept) (wf:HpWf M) (hz:ob M 0=ob0) (hn:M.objs.length≤900000) (h1:1≤M.objs.length) (hrl:M.roots.length≤1000000) (hcl:M.coll≤100000000000) (hrz:M.resz≤10000000000) {k r s:Nat} (hr:r≤1048576) (hs:s≤1048576) (hrs:64<1+r+s):
  Calls Tryz.prog 98 #[.pointer (some ⟨pd,0,none⟩),.int .i64 (k:Nat),.int .i64 (r:Nat),.int .i64 (s:Nat)] w fun e w'=>∃ v x:Nat,e=.returned (.tuple #[.int .u64 (v:Nat),.int .i64 (x:Nat)])∧AllD pd dt M k r s w w' v x:=by
 have nm:=h.nums
 have hu:=wf.ok.u2;have hh:=wf.ok.h2;have hlm:=wf.lm;have hl2:=wf.l2;have hkp:=wf.kp;have hsl:=wf.ok.sl
 by_cases cc:2*M.half+M.large+(2+r+s)≤M.limit∧sn+(2+r+s)≤M.half+M.kept
 ·refine block_test (k:=k) rfl hrs hr hs nm.n0 nm.n1 nm.n2 nm.n3 nm.n4 nm.n5 (by omega) (fun _ _ W st=>?_) cc.1 cc.2
  obtain ⟨cO,cL,n,aO,aL,hT⟩:=tailL_any (k:=k) (M:=M) (M1:=M) (h.still st.below) hsn hkp (Fr.still st) hrs hr hs (.inl ⟨cc.1,by omega,rfl⟩) (.inl ⟨cc.1,rfl⟩) (by omega) hsl h1 hn
  exact ⟨_,cO,_,cL,n,aO,aL,_,hT⟩
 ·refine block_walk (k:=k) rfl hrs hr hs nm.n0 nm.n1 nm.n3 nm.n4 nm.n5 (by omega) (by omega) fun W st=>?_
  refine (dcollect_any (h.still st.below) wf hz (by omega) h1 hrl hcl (by omega)).mono fun e w' ⟨q1,M0,q2,dt',C',q3,q4⟩=>⟨q1,?_⟩
  obtain ⟨b0,b1,b2,b3,b4,b5⟩:=coll_bounds wf q2
  obtain ⟨o1,o2,o3,o4,o5⟩:=fitM_objs M0 0
  obtain ⟨m1,m2,m3⟩:=fitM_more M0 0
  have hhf:=fit_half_le (M:=M0) 0 (by decide) b1 b4
  have hkl:M0.kept=M0.large:=by obtain ⟨t,_,_,_,rfl⟩:=q2;rfl
  have hol:M0.objs.length=M.objs.length:=by obtain ⟨t,_,_,_,rfl⟩:=q2;show ((List.range M.objs.length).map _).length=_;simp
  have hssl:=b0.ok.sl
  have pre:PreL M (fitM M0 0) (2+r+s):=.inr ⟨by omega,M0,q2,rfl⟩
  have nm1:=q3.nums
  have ff:Fr dt dt' w w':=(Fr.still st).trans q4
  refine ⟨(fitM M0 0).limit,(fitM M0 0).half,(fitM M0 0).large,(fitM M0 0).used,nm1.n0,nm1.n1,nm1.n2,nm1.n3,⟨by rw[o3];omega,hhf,by rw[m2];omega,by rw[o4];omega⟩,fun hD W' st'=>?_,fun hN1 hN2 W' st'=>?_,fun hY1 hY2 hY3 hY4 W' st'=>?_⟩
  ·obtain ⟨cO,cL,n,aO,aL,hT⟩:=tailL_any (k:=k) (M:=M) (M1:=fitM M0 0) (q3.still st'.below) (by rw[m2,m3];omega) (by rw[m2,m3];omega) (ff.trans (Fr.still st')) hrs hr hs pre (.inl ⟨hD,rfl⟩) (by rw[m2];omega) (by rw[o5];exact hssl) (by rw[o1];omega) (by rw[o1];omega)
   exact ⟨_,_,cO,_,cL,n,aO,aL,_,hT⟩
  ·exact ⟨fitM M0 0,.inr ⟨hrs,fitM M0 0,pre,.inr ⟨⟨hN1,hN2⟩,rfl,rfl,rfl⟩⟩,dt',C',by rw[m2,m3,hkl,Nat.sub_self];exact q3.still st'.below,ff.trans (Fr.still st')⟩
  ·obtain ⟨p1,p2,p3,p4,p5,p6,p7,p8,p9⟩:=becM_parts (fitM M0 0) (((fitM M0 0).limit-(fitM M0 0).large-(2+r+s)) / 2)
   refine (dbecome_any (q3.still st'.below) _ (by rw[o3,m2];omega) hhf (by have:=(fitM_resz M0 0).1;omega)).mono fun e w'' ⟨z1,⟨C2,z2⟩,z3⟩=>⟨z1,?_⟩
   obtain ⟨cO,cL,n,aO,aL,hT⟩:=tailL_any (k:=k) (M:=M) (M1:=fitM M0 0) z2 (by rw[p6,p9,m2,m3];omega) (by rw[p6,p9,m2,m3];omega) ((ff.trans (Fr.still st')).trans z3) hrs hr hs pre (.inr ⟨hY1,hY2,hY3,hY4,rfl⟩) (by rw[p6,m2];omega) (by rw[p5,o5];exact hssl) (by rw[p1,o1];omega) (by rw[p1,o1];omega)
   rw[p6] at hT
   exact ⟨_,_,cO,_,cL,n,aO,aL,_,hide hT⟩
theorem dalloc_bad {w:World}{pd:Nat}{k r s:Int} (h:¬ Fits k r s):Calls Tryz.prog 44 #[.pointer (some ⟨pd,0,none⟩),.int .i64 k,.int .i64 r,.int .i64 s] w fun e w'=>e=.returned (.tuple #[.int .u64 0,.int .i64 34])∧Still w w':=by
 have HS:=hide (Still.refl w)
 have HF:=hide h
 clear h
 by_cases c1:k<1
 ·have d1:decide (k<1)=true:=decide_eq_true c1
  go_enter Tryz.func44,Tryz.ntmps44
  go_wp2_with fail
  all_goals go_ret2
  all_goals exact ⟨by simp,unhide HS⟩
 have d1:decide (k<1)=false:=decide_eq_false c1
 by_cases c2:255<k
 ·have d2:decide (255<k)=true:=decide_eq_true c2
  go_enter Tryz.func44,Tryz.ntmps44
  go_wp2_with fail
  all_goals go_ret2
  all_goals exact ⟨by simp,unhide HS⟩
 have d2:decide (255<k)=false:=decide_eq_false c2
 by_cases c3:r<0
 ·have d3:decide (r<0)=true:=decide_eq_true c3
  go_enter Tryz.func44,Tryz.ntmps44
  go_wp2_with fail
  all_goals go_ret2
  all_goals exact ⟨by simp,unhide HS⟩
 have d3:decide (r<0)=false:=decide_eq_false c3
 by_cases c4:1048576<r
 ·have d4:decide (1048576<r)=true:=decide_eq_true c4
  go_enter Tryz.func44,Tryz.ntmps44
  go_wp2_with fail
  all_goals go_ret2
  all_goals exact ⟨by simp,unhide HS⟩
 have d4:decide (1048576<r)=false:=decide_eq_false c4
 by_cases c5:s<0
 ·have d5:decide (s<0)=true:=decide_eq_true c5
  go_enter Tryz.func44,Tryz.ntmps44
  go_wp2_with fail
  all_goals go_ret2
  all_goals exact ⟨by simp,unhide HS⟩
 have d5:decide (s<0)=false:=decide_eq_false c5
 have c6:1048576<s:=by
  have:=unhide HF
  unfold Fits at this
  omega
 have d6:decide (1048576<s)=true:=decide_eq_true c6
 go_enter Tryz.func44,Tryz.ntmps44
 go_wp2_with fail
 all_goals go_ret2
 all_goals exact ⟨by simp,unhide HS⟩
theorem dalloc_big {w:World}{pd sn:Nat}{dt:Nat→Nat}{M:Hp}{C:DC} (h:DAt w pd dt M sn C) (hsn:sn=M.large-M.kept) (wf:HpWf M) (hz:ob M 0=ob0) (hn:M.objs.length≤900000) (h1:1≤M.objs.length) (hrl:M.roots.length≤1000000) (hcl:M.coll≤100000000000) (hrz:M.resz≤10000000000) {k r s:Nat} (hk:1≤k∧k≤255) (hr:r≤1048576) (hs:s≤1048576) (hrs:64<1+r+s):
  Calls Tryz.prog 44 #[.pointer (some ⟨pd,0,none⟩),.int .i64 (k:Nat),.int .i64 (r:Nat),.int .i64 (s:Nat)] w fun e w'=>∃ v x:Nat,e=.returned (.tuple #[.int .u64 (v:Nat),.int .i64 (x:Nat)])∧AllD pd dt M k r s w w' v x:=by
 have H105:=hide (dblock_any (k:=k) h hsn wf hz hn h1 hrl hcl hrz hr hs hrs)
 have H104:=hide (fun W=>dSize_any r s (by omega) (by omega) W)
 have d1:decide ((k:Int)<1)=false:=decide_eq_false (by omega)
 have d2:decide ((255:Int)<(k:Nat))=false:=decide_eq_false (by omega)
 have d3:decide ((r:Int)<0)=false:=decide_eq_false (by omega)
 have d4:decide ((1048576:Int)<(r:Nat))=false:=decide_eq_false (by omega)
 have d5:decide ((s:Int)<0)=false:=decide_eq_false (by omega)
 have d6:decide ((1048576:Int)<(s:Nat))=false:=decide_eq_false (by omega)
 obtain ⟨Z,hZ⟩:∃ Z,1+r+s=Z:=⟨_,rfl⟩
 rw[hZ] at H104 hrs
 have d7:decide ((64:Int)<(Z:Nat))=true:=decide_eq_true (by omega)
 clear h wf hz hsn hZ
 go_enter Tryz.func44,Tryz.ntmps44
 go_wp2_with fail
 refine (unhide H104 _).mono ?_
 rintro e w2 ⟨rfl,rfl⟩
 clear H104
 go_wp2_with fail
 refine (unhide H105).mono ?_
 rintro e w3 ⟨v,x,rfl,hA⟩
 have HA:=hide hA
 clear hA H105
 go_wp2_with fail
 all_goals first|go_ret2|skip
 all_goals exact ⟨v,x,by simp,unhide HA⟩
theorem dalloc_any {w:World}{pd sn:Nat}{dt:Nat→Nat}{M:Hp}{C:DC} (h:DAt w pd dt M sn C) (hsn:sn=M.large-M.kept) (wf:HpWf M) (hz:ob M 0=ob0) (hn:M.objs.length≤900000) (h1:1≤M.objs.length) (hrl:M.roots.length≤1000000) (hcl:M.coll≤100000000000) (hrz:M.resz≤10000000000) {k r s:Nat} (hk:1≤k∧k≤255) (hr:r≤1048576) (hs:s≤1048576):
  Calls Tryz.prog 44 #[.pointer (some ⟨pd,0,none⟩),.int .i64 (k:Nat),.int .i64 (r:Nat),.int .i64 (s:Nat)] w fun e w'=>∃ v x:Nat,e=.returned (.tuple #[.int .u64 (v:Nat),.int .i64 (x:Nat)])∧AllD pd dt M k r s w w' v x:=by
 by_cases hrs:1+r+s≤64
 ·exact dalloc_small h hsn wf hz hn h1 hrl hcl (by omega) hk hrs
 ·exact dalloc_big h hsn wf hz hn h1 hrl hcl hrz hk hr hs (by omega)
end Go.Proofs.YtidfllgaeiopjabGreat
