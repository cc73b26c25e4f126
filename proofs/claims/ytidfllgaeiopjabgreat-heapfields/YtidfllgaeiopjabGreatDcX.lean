import Derived.Test.YtidfllgaeiopjabGreatDcV
import Derived.Deep.DeepCutAuto
namespace Go.Proofs.YtidfllgaeiopjabGreat
open Go.ChangeShapes Go.WideShapes Go.ChangeAt Go.RowKit
set_option linter.unusedVariables false
set_option linter.unusedSimpArgs false
set_option maxRecDepth 100000
set_option maxHeartbeats 2000000
def big3 (W:World) (pd lg sn:Nat):World:=(W.setCell ⟨pd,3,none⟩ (.int .i64 (lg:Nat))).setCell ⟨pd,4,none⟩ (.int .i64 (sn:Nat))
structure TailL (pd:Nat) (dt:Nat→Nat) (M:Hp) (k r s:Nat) (w W2:World) (large sn nO cO m cL n:Nat) (aO aL:Option Addr) (sl:Nat→Nat):Prop where
 n3:W2.cell? ⟨pd,3,none⟩=some (.int .i64 (large:Nat))
 n4:W2.cell? ⟨pd,4,none⟩=some (.int .i64 (sn:Nat))
 z3:W2.frozen? ⟨pd,3,none⟩=false
 z4:W2.frozen? ⟨pd,4,none⟩=false
 b:large≤10000000∧sn≤10000000∧nO≤10000000∧m≤10000000
 low:n≤m∧(∀ q,q<n→sl q≠0)∧(n<m→sl n=0)
 c6:∀ W,Still (big3 W2 pd (large+(2+r+s)) (sn+(2+r+s))) W→W.cell? ⟨pd,6,none⟩=some (.slice aO nO cO)∧W.cell? ⟨pd,8,none⟩=some (.slice aL m cL)∧∀ j,j<m→∃ g,aL=some ⟨g,0,none⟩∧W.cell? ⟨g,j,none⟩=some (.int .i64 (sl j:Nat))∧W.frozen? ⟨g,j,none⟩=false
 app:∀ wr,Still (big3 W2 pd (large+(2+r+s)) (sn+(2+r+s))) wr→AppS pd 8 m (fun j=>.int .i64 (sl j:Nat)) (.int .i64 0) aL cL (big3 W2 pd (large+(2+r+s)) (sn+(2+r+s))) wr
 fin0:n<m→∀ g W,aL=some ⟨g,0,none⟩→Still (big3 W2 pd (large+(2+r+s)) (sn+(2+r+s))) W→∀ W',Still (W.setCell ⟨g,n,none⟩ (.int .i64 (nO:Nat))) W'→Calls Tryz.prog 101 #[.pointer (some ⟨pd,0,none⟩),.int .i64 (k:Nat),.int .i64 (r:Nat),.int .i64 (s:Nat),.bool true,.int .i64 (n:Nat)] W' fun e w'=>e=.returned (.int .u64 ((topW+n:Nat):Int))∧Hid (AllD pd dt M k r s w w' (topW+n) 0)
 fin1:n=m→∀ Wd v',AppR pd 8 m (fun j=>.int .i64 (sl j:Nat)) (.int .i64 0) (.slice aL m cL) (big3 W2 pd (large+(2+r+s)) (sn+(2+r+s))) Wd v'→Wd.cell? ⟨pd,6,none⟩=some (.slice aO nO cO)∧∀ g,v'.ownBlock=some g→Wd.cell? ⟨g,m,none⟩=some (.int .i64 0)∧Wd.frozen? ⟨g,m,none⟩=false∧∀ W W',Still Wd W→Still (W.setCell ⟨g,m,none⟩ (.int .i64 (nO:Nat))) W'→Calls Tryz.prog 101 #[.pointer (some ⟨pd,0,none⟩),.int .i64 (k:Nat),.int .i64 (r:Nat),.int .i64 (s:Nat),.bool true,.int .i64 (n:Nat)] W' fun e w'=>e=.returned (.int .u64 ((topW+n:Nat):Int))∧Hid (AllD pd dt M k r s w w' (topW+n) 0)
theorem low_slot (M:Hp):∃ n,LowS M n:=by
 have:∀ l:List Nat,∃ n,l.getD n 0=0∧n≤l.length∧∀ q,q<n→l.getD q 0≠0:=fun l=>by
  induction l with
  | nil=>exact ⟨0,by simp,Nat.le_refl _,fun q hq=>absurd hq (Nat.not_lt_zero _)⟩
  | cons a l ih=>
   by_cases h:a=0
   ·exact ⟨0,by simp [h],Nat.zero_le _,fun q hq=>absurd hq (Nat.not_lt_zero _)⟩
   ·obtain ⟨n,h1,h2,h3⟩:=ih
    refine ⟨n+1,h1,Nat.succ_le_succ h2,fun q hq=>?_⟩
    cases q with
    | zero=>exact h
    | succ q=>exact h3 q (by omega)
 exact this M.slots
theorem set_snoc (l:List Nat) (x y:Nat):(l ++ [x]).set l.length y=l ++ [y]:=by
 rw[List.set_append_right _ _ (Nat.le_refl _),Nat.sub_self]
 rfl
theorem tailL_any {pd sn:Nat}{dt dt1:Nat→Nat}{M M1 M2:Hp}{k r s:Nat}{w W2:World}{C1:DC} (h:DAt W2 pd dt1 M2 sn C1) (hsn:sn=M2.large-M2.kept) (hkp:M2.kept≤M2.large) (f:Fr dt dt1 w W2) (hrs:64<1+r+s) (hr:r≤1048576) (hs:s≤1048576) (pre:PreL M M1 (2+r+s)) (way:WayL M1 M2 (2+r+s)) (hlg:M2.large≤10000000) (hsl:M2.slots.length≤1000000) (h1:1≤M2.objs.length) (hn:M2.objs.length≤900000):
  ∃ cO cL n aO aL,TailL pd dt M k r s w W2 M2.large sn M2.objs.length cO M2.slots.length cL n aO aL (fun j=>M2.slots.getD j 0):=by
 obtain ⟨n,lw⟩:=low_slot M2
 have lw':=lw
 obtain ⟨lw1,lw2,lw3⟩:=lw
 have nm:=h.nums
 -- both numbers are stored
 have hN:DRaw (big3 W2 pd (M2.large+(2+r+s)) (sn+(2+r+s))) pd dt1 (numM { M2 with large:=M2.large+(2+r+s) } (sn+(2+r+s))) M2.objs M2.small M2.slots M2.roots C1:=by
  have a:=DRaw.setN h (i:=3) (by omega) (M2.large+(2+r+s))
  have b:=a.setN (i:=4) (by omega) (sn+(2+r+s))
  refine b.congr fun j hj=>?_
  have:j=0∨j=1∨j=2∨j=3∨j=4∨j=5∨j=10∨j=11∨j=12:=by omega
  rcases this with rfl|rfl|rfl|rfl|rfl|rfl|rfl|rfl|rfl <;> rfl
 have fN:Fr dt dt1 w (big3 W2 pd (M2.large+(2+r+s)) (sn+(2+r+s))):=f.trans ((Fr.set (by rw[h.t1];decide) _ _).trans (Fr.set (by rw[h.t1];decide) _ _))
 obtain ⟨aO,cO,eO⟩:=hN.ob.shape
 obtain ⟨aL,cL,eL,hL⟩:=line_list hN.sl
 have c8:=hN.c8
 have hLL:=hN.sl
 have hap:C1.vL.ownBlock≠some pd:=fun e=>by have:=hN.t4 pd e;rw[hN.t1] at this;cases this
 rw[eL] at c8 hLL hap
 have hfin:∀ (dt2:Nat→Nat) (C2:DC) (W':World) (sl':List Nat),sl'=(addL M2 k r s n).slots→DRaw W' pd dt2 (numM { M2 with large:=M2.large+(2+r+s) } (sn+(2+r+s))) M2.objs M2.small sl' M2.roots C2→Fr dt dt2 w W'→Calls Tryz.prog 101 #[.pointer (some ⟨pd,0,none⟩),.int .i64 (k:Nat),.int .i64 (r:Nat),.int .i64 (s:Nat),.bool true,.int .i64 (n:Nat)] W' fun e w'=>e=.returned (.int .u64 ((topW+n:Nat):Int))∧Hid (AllD pd dt M k r s w w' (topW+n) 0):=fun dt2 C2 W' sl' es d ff=>by
  refine (djoin_any d hn h1 k r s n true hr hs (by omega)).mono fun e w' ⟨z1,dt3,C3,z2,z3⟩=>⟨by rw[z1];simp,hide ⟨addL M2 k r s n,.inr ⟨hrs,M1,pre,.inl ⟨M2,n,way,lw',rfl,rfl,rfl⟩⟩,dt3,C3,?_,ff.trans z3⟩⟩
  rw[es] at z2
  refine DRaw.congr z2 fun j hj=>?_
  have:j=0∨j=1∨j=2∨j=3∨j=4∨j=5∨j=10∨j=11∨j=12:=by omega
  rcases this with rfl|rfl|rfl|rfl|rfl|rfl|rfl|rfl|rfl <;> first|rfl|(show sn+(2+r+s)=M2.large+(2+r+s)-M2.kept;omega)
 have hslots:(addL M2 k r s n).slots=if n<M2.slots.length then M2.slots.set n M2.objs.length else M2.slots ++ [M2.objs.length]:=rfl
 refine ⟨cO,cL,n,aO,aL,nm.n3,nm.n4,h.fz 3 (by decide),h.fz 4 (by decide),⟨hlg,by omega,by omega,by omega⟩,⟨lw2,lw3,fun _=>lw1⟩,fun W st=>⟨?_,?_,fun j hj=>?_⟩,fun wr st=>app_cell c8 (hN.fz 8 (by decide)) hLL hap st,fun hnl g W ea st W' st'=>?_,fun hnm Wd v' ra=>?_⟩
 ·rw[st.cell,hN.c6,eO]
 ·rw[st.cell,hN.c8,eL]
 ·obtain ⟨g,q1,q2,q3,_⟩:=hL j hj
  exact ⟨g,q1,(st.cell _).trans q2,by rw[← q3];simp only[World.frozen?,st.heap]⟩
 ·have hg:C1.vL.ownBlock=some g:=by rw[eL,ea];rfl
  have d:=(hN.still st.below).setL hg hnl M2.objs.length
  exact hfin dt1 C1 W' _ (by rw[hslots,if_pos hnl]) (d.still st'.below) ((fN.trans (Fr.still st)).trans ((Fr.set (by rw[hN.t4 g hg];decide) _ _).trans (Fr.still st')))
 ·rw[← eL] at ra
  obtain ⟨q1,q2⟩:=DRaw.appL hN 0 ra
  have hO:Wd.cell? ⟨pd,6,none⟩=some (.slice aO M2.objs.length cO):=by
   have:=q1.c6
   rw[this]
   exact congrArg some eO
  refine ⟨hO,fun g hg=>?_⟩
  have hlen:M2.slots.length<(M2.slots ++ [0]).length:=by simp
  obtain ⟨a',cap',e',hl'⟩:=line_list q1.sl
  obtain ⟨g',z1,z2,z3,z4⟩:=hl' M2.slots.length hlen
  have hgg:g'=g:=by
   have:v'.ownBlock=some g':=z4
   rw[hg] at this
   exact (Option.some.inj this).symm
  subst hgg
  have hv:numsV (M2.slots ++ [0]) M2.slots.length=.int .i64 0:=by
   unfold numsV
   rw[getD_snocN _ _ _ (by omega),if_neg (by omega)]
   rfl
  rw[hv] at z2
  refine ⟨z2,z3,fun W W' st st'=>?_⟩
  have d:=(q1.still st.below).setL (g:=g') (k:=M2.slots.length) hg hlen M2.objs.length
  rw[set_snoc] at d
  exact hfin _ _ W' _ (by rw[hslots,if_neg (by omega)]) (d.still st'.below) (((fN.trans q2).trans (Fr.still st)).trans ((Fr.set (by rw[q1.t4 g' hg];decide) _ _).trans (Fr.still st')))
set_option maxHeartbeats 4000000
theorem block_test {w:World}{pd:Nat}{dt:Nat→Nat}{M:Hp}{k r s B:Nat} (hB:B=2+r+s) (hrs:64<1+r+s) (hr:r≤1048576) (hs:s≤1048576) {limit half large sn kept used:Nat} (n0:w.cell? ⟨pd,0,none⟩=some (.int .i64 (limit:Nat))) (n1:w.cell? ⟨pd,1,none⟩=some (.int .i64 (half:Nat))) (n2:w.cell? ⟨pd,2,none⟩=some (.int .i64 (used:Nat))) (n3:w.cell? ⟨pd,3,none⟩=some (.int .i64 (large:Nat))) (n4:w.cell? ⟨pd,4,none⟩=some (.int .i64 (sn:Nat))) (n5:w.cell? ⟨pd,5,none⟩=some (.int .i64 (kept:Nat)))
  (bl:limit≤10000000∧half≤100000000∧large≤10000000∧sn≤10000000∧kept≤10000000∧used≤10000000)
  (F1:2*half+large+B≤limit→sn+B≤half+kept→∀ W,Still w W→∃ (nO cO m cL n:Nat) (aO aL:Option Addr) (sl:Nat→Nat),TailL pd dt M k r s w W large sn nO cO m cL n aO aL sl) (cc1:2*half+large+B≤limit) (cc2:sn+B≤half+kept):
  Calls Tryz.prog 98 #[.pointer (some ⟨pd,0,none⟩),.int .i64 (k:Nat),.int .i64 (r:Nat),.int .i64 (s:Nat)] w fun e w'=>∃ v x:Nat,e=.returned (.tuple #[.int .u64 (v:Nat),.int .i64 (x:Nat)])∧AllD pd dt M k r s w w' v x:=by
 have H104:=hide (fun W=>dSize_any r s (by omega) (by omega) W)
 obtain ⟨i0,hi,hy0,hy1,hy2⟩:=info_parts Tryz.info3
 obtain ⟨q1,q2,q3,q4,q5,q6⟩:=bl
 have u1:IntKind.i64.wrap (1+((1+r+s:Nat):Int))=(B:Int):=by rw[show 1+((1+r+s:Nat):Int)=(B:Int) by omega];exact wrap_small _ (by omega) (by omega)
 obtain ⟨Z,hZ⟩:∃ Z,1+r+s=Z:=⟨_,rfl⟩
 rw[hZ] at H104 u1
 have u1':1+(Z:Int)=(B:Int):=by omega
 have u2:IntKind.i64.wrap (2*(half:Int))=2*(half:Int):=wrap_small _ (by omega) (by omega)
 have u3:IntKind.i64.wrap (2*(half:Int)+(large:Int))=2*(half:Int)+(large:Int):=wrap_small _ (by omega) (by omega)
 have u4:IntKind.i64.wrap (2*(half:Int)+(large:Int)+(B:Int))=2*(half:Int)+(large:Int)+(B:Int):=wrap_small _ (by omega) (by omega)
 have u5:IntKind.i64.wrap ((sn:Int)+(B:Int))=(sn:Int)+(B:Int):=wrap_small _ (by omega) (by omega)
 have u6:IntKind.i64.wrap ((half:Int)+(kept:Int))=(half:Int)+(kept:Int):=wrap_small _ (by omega) (by omega)
 have HF1:=hide (F1 cc1 cc2)
 have d1:decide ((limit:Int)<2*(half:Int)+(large:Int)+(B:Int))=false:=decide_eq_false (by omega)
 have d2:decide ((half:Int)+(kept:Int)<(sn:Int)+(B:Int))=false:=decide_eq_false (by omega)
 have HBE:=hide hB
 have hBb:B≤3000000:=by omega
 clear F1 hB
 go_enter Tryz.func98,Tryz.ntmps98
 go_wp2_with fail
 refine (unhide H104 _).mono ?_
 rintro e w2 ⟨rfl,rfl⟩
 clear H104
 go_wp2_with fail
 go_region_held3 (fun W=>W.cell? ⟨pd,0,none⟩=some (.int .i64 (limit:Nat))∧W.cell? ⟨pd,1,none⟩=some (.int .i64 (half:Nat))∧W.cell? ⟨pd,3,none⟩=some (.int .i64 (large:Nat))∧W.cell? ⟨pd,4,none⟩=some (.int .i64 (sn:Nat))∧W.cell? ⟨pd,5,none⟩=some (.int .i64 (kept:Nat))) (go_keep) (fail)
 go_wp2_with fail
 go_region_held3 (fun W=>W.cell? ⟨pd,0,none⟩=some (.int .i64 (limit:Nat))∧W.cell? ⟨pd,1,none⟩=some (.int .i64 (half:Nat))∧W.cell? ⟨pd,3,none⟩=some (.int .i64 (large:Nat))) (go_keep) (fail)
 obtain ⟨nO,cO,m,cL,n,aO,aL,sl,hT⟩:=unhide HF1 w2.drew.drew ⟨rfl,rfl,rfl,rfl⟩
 have HT:=hide hT
 clear hT n0 n1 n2 n3 n4 n5 HF1 u2 u3 u4 u5 u6
 obtain ⟨sn2,hsn2⟩:∃ sn2,sn2=sn:=⟨_,rfl⟩
 rw[← hsn2] at HT
 clear hsn2
 generalize hWW:World.drew (World.drew w2)=W at *
 clear hWW
 obtain ⟨n3,n4,z3,z4,⟨b1,b2,b3,b4⟩,⟨lo1,lo2,lo3⟩,hc6,happ,hf0,hf1⟩:=unhide HT
 have v1:IntKind.i64.wrap ((large:Int)+(B:Int))=(large:Int)+(B:Int):=wrap_small _ (by omega) (by omega)
 have v2:IntKind.i64.wrap ((sn2:Int)+(B:Int))=(sn2:Int)+(B:Int):=wrap_small _ (by omega) (by omega)
 have n4':(W.setCell ⟨pd,3,none⟩ (.int .i64 ((large:Int)+(B:Int)))).cell? ⟨pd,4,none⟩=some (.int .i64 (sn2:Nat)):=(World.cell?_setCell_other _ _ _ _ (by simp)).trans n4
 have z4':(W.setCell ⟨pd,3,none⟩ (.int .i64 ((large:Int)+(B:Int)))).frozen? ⟨pd,4,none⟩=false:=(setCell_froz _ _ _ _).trans z4
 have HB3:Hid (Still (big3 W pd (large+(2+r+s)) (sn2+(2+r+s))) ((W.setCell ⟨pd,3,none⟩ (.int .i64 ((large:Int)+(B:Int)))).setCell ⟨pd,4,none⟩ (.int .i64 ((sn2:Int)+(B:Int))))):=hide (by
  unfold big3
  rw[show (((large+(2+r+s):Nat):Nat):Int)=(large:Int)+(B:Int) by have:=unhide HBE;omega,show (((sn2+(2+r+s):Nat):Nat):Int)=(sn2:Int)+(B:Int) by have:=unhide HBE;omega]
  exact Still.refl _)
 have HC6:=hide hc6
 have HAPP:=hide happ
 have HF0:=hide hf0
 have HF1:=hide hf1
 have HLO:=hide (⟨lo2,lo3⟩:_∧_)
 clear hc6 happ hf0 hf1 lo2 lo3 HT
 go_wp2_with fail
 clear n3 n4 z3 z4 n4' z4' v1 v2
 generalize hBB:big3 W pd (large+(2+r+s)) (sn2+(2+r+s))=B3 at *
 generalize hW3:World.setCell (World.setCell W _ _) _ _=W3 at *
 clear hBB hW3
 go_loopw [12] (fun av wr=>∃ q:Nat,av=.int .i64 (q:Nat)∧q≤n∧Hid (Still B3 wr)) (fun av _=>n-(intOf av).toNat)
 case atStart=>exact ⟨0,rfl,Nat.zero_le _,HB3⟩
 case round=>
  clear HB3
  obtain ⟨q,rfl,hqn,hS0⟩:=hrel
  obtain ⟨h6,h8,hel⟩:=unhide HC6 _ (unhide hS0)
  have w1:IntKind.i64.wrap ((q:Int)+1)=(q:Int)+1:=wrap_small _ (by omega) (by omega)
  by_cases hq:q<n
  ·have dl:decide ((q:Int)<(m:Nat))=true:=decide_eq_true (by omega)
   have dl':decide (q<m)=true:=decide_eq_true (by omega)
   obtain ⟨g,rfl,e0,_⟩:=hel q (by omega)
   have i1:(0:Int)≤(q:Nat):=by omega
   have i2:(q:Int)<(m:Nat):=by omega
   have hne:=(unhide HLO).1 q hq
   obtain ⟨S,hS⟩:∃ S,sl q=S:=⟨_,rfl⟩
   rw[hS] at e0 hne
   have dn:((S:Int) != 0)=true:=by simp;omega
   clear hel hS
   go_wp2_with fail
   all_goals go_roundw
   all_goals first|exact ⟨q+1,by simp,by omega,hS0⟩|(simp [intOf];omega)
  ·have hqe:q=n:=by omega
   subst hqe
   by_cases hqm:q<m
   ·have dl:decide ((q:Int)<(m:Nat))=true:=decide_eq_true (by omega)
    have dl':decide (q<m)=true:=decide_eq_true (by omega)
    obtain ⟨g,rfl,e0,f0⟩:=hel q (by omega)
    have i1:(0:Int)≤(q:Nat):=by omega
    have i2:(q:Int)<(m:Nat):=by omega
    rw[(unhide HLO).2 hqm] at e0
    have d0:((q:Int) == (m:Nat))=false:=by simp;omega
    have d0':((q:Int)=(m:Nat))=False:=by simp;omega
    have d0'':(q=m)=False:=by simp;omega
    clear hel
    go_wp2_with fail
    have hS:(fun w'=>w'.cell? ⟨pd,8,none⟩=some (.slice (some ⟨g,0,none⟩) m cL)∧w'.cell? ⟨pd,6,none⟩=some (.slice aO nO cO)) wr.drew:=⟨h8,h6⟩
    refine till_begin (fun w'=>w'.cell? ⟨pd,8,none⟩=some (.slice (some ⟨g,0,none⟩) m cL)∧w'.cell? ⟨pd,6,none⟩=some (.slice aO nO cO)) 11 (by kernel_rfl) ?_
    refine AnyTill.take 0 (v:=?_) rfl (by kernel_rfl) (by kernel_rfl) (by kernel_rfl) (by kernel_rfl) (fun _ _ _ h=>h) ?_ rfl hS ?_
    rotate_left
    ·intro w hSw
     obtain ⟨s1,s2⟩:=hSw
     go_simp
     all_goals with_reducible rfl
    try simp only[Act.put,List.getElem_toArray,List.getElem_cons_succ,List.getElem_cons_zero,List.setIfInBounds_toArray,List.set_cons_zero,List.set_cons_succ]
    refine AnyTill.take 1 (v:=?_) rfl (by kernel_rfl) (by kernel_rfl) (by kernel_rfl) (by kernel_rfl) (fun _ _ _ h=>h) ?_ rfl hS ?_
    rotate_left
    ·intro w hSw
     obtain ⟨s1,s2⟩:=hSw
     go_simp
     all_goals with_reducible rfl
    try simp only[Act.put,List.getElem_toArray,List.getElem_cons_succ,List.getElem_cons_zero,List.setIfInBounds_toArray,List.set_cons_zero,List.set_cons_succ]
    refine AnyTill.take 2 (v:=?_) rfl (by kernel_rfl) (by kernel_rfl) (by kernel_rfl) (by kernel_rfl) (fun _ _ _ h=>h) ?_ rfl hS ?_
    rotate_left
    ·intro w hSw
     obtain ⟨s1,s2⟩:=hSw
     go_simp
     all_goals with_reducible rfl
    try simp only[Act.put,List.getElem_toArray,List.getElem_cons_succ,List.getElem_cons_zero,List.setIfInBounds_toArray,List.set_cons_zero,List.set_cons_succ]
    refine AnyTill.take 3 (v:=?_) rfl (by kernel_rfl) (by kernel_rfl) (by kernel_rfl) (by kernel_rfl) (fun _ _ _ h=>h) ?_ rfl hS ?_
    rotate_left
    ·intro w hSw
     obtain ⟨s1,s2⟩:=hSw
     go_simp
     all_goals with_reducible rfl
    try simp only[Act.put,List.getElem_toArray,List.getElem_cons_succ,List.getElem_cons_zero,List.setIfInBounds_toArray,List.set_cons_zero,List.set_cons_succ]
    refine AnyTill.take 4 (v:=?_) rfl (by kernel_rfl) (by kernel_rfl) (by kernel_rfl) (by kernel_rfl) (fun _ _ _ h=>h) ?_ rfl hS ?_
    rotate_left
    ·intro w hSw
     obtain ⟨s1,s2⟩:=hSw
     go_simp
     all_goals with_reducible rfl
    try simp only[Act.put,List.getElem_toArray,List.getElem_cons_succ,List.getElem_cons_zero,List.setIfInBounds_toArray,List.set_cons_zero,List.set_cons_succ]
    refine AnyTill.take 5 (v:=?_) rfl (by kernel_rfl) (by kernel_rfl) (by kernel_rfl) (by kernel_rfl) (fun _ _ _ h=>h) ?_ rfl hS ?_
    rotate_left
    ·intro w hSw
     obtain ⟨s1,s2⟩:=hSw
     go_simp
     all_goals with_reducible rfl
    try simp only[Act.put,List.getElem_toArray,List.getElem_cons_succ,List.getElem_cons_zero,List.setIfInBounds_toArray,List.set_cons_zero,List.set_cons_succ]
    refine AnyTill.take 6 (v:=?_) rfl (by kernel_rfl) (by kernel_rfl) (by kernel_rfl) (by kernel_rfl) (fun _ _ _ h=>h) ?_ rfl hS ?_
    rotate_left
    ·intro w hSw
     obtain ⟨s1,s2⟩:=hSw
     go_simp
     all_goals with_reducible rfl
    try simp only[Act.put,List.getElem_toArray,List.getElem_cons_succ,List.getElem_cons_zero,List.setIfInBounds_toArray,List.set_cons_zero,List.set_cons_succ]
    refine AnyTill.take 7 (v:=?_) rfl (by kernel_rfl) (by kernel_rfl) (by kernel_rfl) (by kernel_rfl) (fun _ _ _ h=>h) ?_ rfl hS ?_
    rotate_left
    ·intro w hSw
     obtain ⟨s1,s2⟩:=hSw
     go_simp
     all_goals with_reducible rfl
    try simp only[Act.put,List.getElem_toArray,List.getElem_cons_succ,List.getElem_cons_zero,List.setIfInBounds_toArray,List.set_cons_zero,List.set_cons_succ]
    refine AnyTill.take 8 (v:=?_) rfl (by kernel_rfl) (by kernel_rfl) (by kernel_rfl) (by kernel_rfl) (fun _ _ _ h=>h) ?_ rfl hS ?_
    rotate_left
    ·intro w hSw
     obtain ⟨s1,s2⟩:=hSw
     go_simp
     all_goals with_reducible rfl
    try simp only[Act.put,List.getElem_toArray,List.getElem_cons_succ,List.getElem_cons_zero,List.setIfInBounds_toArray,List.set_cons_zero,List.set_cons_succ]
    refine AnyTill.take 9 (v:=?_) rfl (by kernel_rfl) (by kernel_rfl) (by kernel_rfl) (by kernel_rfl) (fun _ _ _ h=>h) ?_ rfl hS ?_
    rotate_left
    ·intro w hSw
     obtain ⟨s1,s2⟩:=hSw
     go_simp
     all_goals with_reducible rfl
    try simp only[Act.put,List.getElem_toArray,List.getElem_cons_succ,List.getElem_cons_zero,List.setIfInBounds_toArray,List.set_cons_zero,List.set_cons_succ]
    refine AnyTill.one (i:=10) (by kernel_rfl) (AnyTill.op rfl rfl fun K hK=>?_)
    go_simp
    refine hK _ _ (fun _=>hS) ?_
    clear hK K
    try simp only[Act.put,List.getElem_toArray,List.getElem_cons_succ,List.getElem_cons_zero,List.setIfInBounds_toArray,List.set_cons_zero,List.set_cons_succ]
    refine AnyTill.one (i:=11) (by kernel_rfl) (AnyTill.op rfl rfl fun K hK=>?_)
    go_simp
    refine hK _ _ (fun h=>absurd rfl h) ?_
    clear hK K
    try simp only[Act.put,List.getElem_toArray,List.getElem_cons_succ,List.getElem_cons_zero,List.setIfInBounds_toArray,List.set_cons_zero,List.set_cons_succ]
    refine AnyTill.done (by kernel_rfl) ?_
    have H108:=hide (unhide HF0 hqm g wr rfl (unhide hS0) (wr.setCell ⟨g,q,none⟩ (.int .i64 (nO:Nat))).drew ⟨rfl,rfl,rfl,rfl⟩)
    clear HF0 HF1 HAPP HC6 HLO h6 h8 e0 f0 hS
    go_wp2_with fail
    refine (unhide H108).mono ?_
    rintro e w5 ⟨rfl,hfin⟩
    clear H108
    go_wp2_with fail
    all_goals go_ret2
    all_goals exact ⟨topW+q,0,by simp,unhide hfin⟩
   ·have hqm':m=q:=by omega
    subst hqm'
    have dl:decide ((m:Int)<(m:Nat))=false:=decide_eq_false (by omega)
    have dl':decide (m<m)=false:=decide_eq_false (by omega)
    obtain ⟨x1,x2,x3,x4⟩:=unhide HAPP wr (unhide hS0)
    have HROW:=hide x1
    have C1':=hide x3
    have HFIN:=hide x4
    have HF1':=hide (unhide HF1 rfl)
    have d0:((m:Int) == (m:Nat))=true:=by simp
    have i1:(0:Int)≤(m:Nat):=by omega
    have i2:(m:Int)<((m+1:Nat):Int):=by omega
    have i2':(m:Int)<(m:Int)+1:=by omega
    clear x1 x3 x4 hel HF0 HF1 HAPP HC6 HLO w1
    go_wp2_with (refine append_line rfl (.tmp 157) (.tmp 158) 65 rfl 3 i0 (.int .i64 0) 8 Tryz.underlying65 hi hy0 hy1 hy2 rfl (.slice aL m cL) m _ (by simp [Act.eval]) (unhide HROW) wr.heap.size (by simp [Act.eval]) (.int .i64 0) (unhide C1') rfl (by omega) (by omega) ?_)
    intro v9 w9 hl9 hg9
    obtain ⟨k1,k2,⟨a9,cp9,rfl,k3⟩,_,_,hst⟩:=unhide HFIN _ _ hl9 hg9
    have hR:=hst _ rfl rfl rfl rfl
    obtain ⟨g,cp,ev,ho,_⟩:=hR.line.at (by omega)
    cases ev
    obtain ⟨y6,hy⟩:=unhide HF1' _ _ hR
    obtain ⟨y0,yf,hfin'⟩:=hy g ho
    have HFN:=hide hfin'
    clear hl9 hg9 hst hR hfin' hy HF1' HFIN HROW C1' ho x2 h6 h8
    go_wp2_with fail
    generalize hWd:World.setCell w9 _ _=Wd at *
    clear hWd k1 k2
    have h8:=k3
    have h6:=y6
    have hS:(fun w'=>w'.cell? ⟨pd,8,none⟩=some (.slice (some ⟨g,0,none⟩) (m+1) cp9)∧w'.cell? ⟨pd,6,none⟩=some (.slice aO nO cO)) Wd.drew:=⟨h8,h6⟩
    refine till_begin (fun w'=>w'.cell? ⟨pd,8,none⟩=some (.slice (some ⟨g,0,none⟩) (m+1) cp9)∧w'.cell? ⟨pd,6,none⟩=some (.slice aO nO cO)) 11 (by kernel_rfl) ?_
    refine AnyTill.take 0 (v:=?_) rfl (by kernel_rfl) (by kernel_rfl) (by kernel_rfl) (by kernel_rfl) (fun _ _ _ h=>h) ?_ rfl hS ?_
    rotate_left
    ·intro w hSw
     obtain ⟨s1,s2⟩:=hSw
     go_simp
     all_goals with_reducible rfl
    try simp only[Act.put,List.getElem_toArray,List.getElem_cons_succ,List.getElem_cons_zero,List.setIfInBounds_toArray,List.set_cons_zero,List.set_cons_succ]
    refine AnyTill.take 1 (v:=?_) rfl (by kernel_rfl) (by kernel_rfl) (by kernel_rfl) (by kernel_rfl) (fun _ _ _ h=>h) ?_ rfl hS ?_
    rotate_left
    ·intro w hSw
     obtain ⟨s1,s2⟩:=hSw
     go_simp
     all_goals with_reducible rfl
    try simp only[Act.put,List.getElem_toArray,List.getElem_cons_succ,List.getElem_cons_zero,List.setIfInBounds_toArray,List.set_cons_zero,List.set_cons_succ]
    refine AnyTill.take 2 (v:=?_) rfl (by kernel_rfl) (by kernel_rfl) (by kernel_rfl) (by kernel_rfl) (fun _ _ _ h=>h) ?_ rfl hS ?_
    rotate_left
    ·intro w hSw
     obtain ⟨s1,s2⟩:=hSw
     go_simp
     all_goals with_reducible rfl
    try simp only[Act.put,List.getElem_toArray,List.getElem_cons_succ,List.getElem_cons_zero,List.setIfInBounds_toArray,List.set_cons_zero,List.set_cons_succ]
    refine AnyTill.take 3 (v:=?_) rfl (by kernel_rfl) (by kernel_rfl) (by kernel_rfl) (by kernel_rfl) (fun _ _ _ h=>h) ?_ rfl hS ?_
    rotate_left
    ·intro w hSw
     obtain ⟨s1,s2⟩:=hSw
     go_simp
     all_goals with_reducible rfl
    try simp only[Act.put,List.getElem_toArray,List.getElem_cons_succ,List.getElem_cons_zero,List.setIfInBounds_toArray,List.set_cons_zero,List.set_cons_succ]
    refine AnyTill.take 4 (v:=?_) rfl (by kernel_rfl) (by kernel_rfl) (by kernel_rfl) (by kernel_rfl) (fun _ _ _ h=>h) ?_ rfl hS ?_
    rotate_left
    ·intro w hSw
     obtain ⟨s1,s2⟩:=hSw
     go_simp
     all_goals with_reducible rfl
    try simp only[Act.put,List.getElem_toArray,List.getElem_cons_succ,List.getElem_cons_zero,List.setIfInBounds_toArray,List.set_cons_zero,List.set_cons_succ]
    refine AnyTill.take 5 (v:=?_) rfl (by kernel_rfl) (by kernel_rfl) (by kernel_rfl) (by kernel_rfl) (fun _ _ _ h=>h) ?_ rfl hS ?_
    rotate_left
    ·intro w hSw
     obtain ⟨s1,s2⟩:=hSw
     go_simp
     all_goals with_reducible rfl
    try simp only[Act.put,List.getElem_toArray,List.getElem_cons_succ,List.getElem_cons_zero,List.setIfInBounds_toArray,List.set_cons_zero,List.set_cons_succ]
    refine AnyTill.take 6 (v:=?_) rfl (by kernel_rfl) (by kernel_rfl) (by kernel_rfl) (by kernel_rfl) (fun _ _ _ h=>h) ?_ rfl hS ?_
    rotate_left
    ·intro w hSw
     obtain ⟨s1,s2⟩:=hSw
     go_simp
     all_goals with_reducible rfl
    try simp only[Act.put,List.getElem_toArray,List.getElem_cons_succ,List.getElem_cons_zero,List.setIfInBounds_toArray,List.set_cons_zero,List.set_cons_succ]
    refine AnyTill.take 7 (v:=?_) rfl (by kernel_rfl) (by kernel_rfl) (by kernel_rfl) (by kernel_rfl) (fun _ _ _ h=>h) ?_ rfl hS ?_
    rotate_left
    ·intro w hSw
     obtain ⟨s1,s2⟩:=hSw
     go_simp
     all_goals with_reducible rfl
    try simp only[Act.put,List.getElem_toArray,List.getElem_cons_succ,List.getElem_cons_zero,List.setIfInBounds_toArray,List.set_cons_zero,List.set_cons_succ]
    refine AnyTill.take 8 (v:=?_) rfl (by kernel_rfl) (by kernel_rfl) (by kernel_rfl) (by kernel_rfl) (fun _ _ _ h=>h) ?_ rfl hS ?_
    rotate_left
    ·intro w hSw
     obtain ⟨s1,s2⟩:=hSw
     go_simp
     all_goals with_reducible rfl
    try simp only[Act.put,List.getElem_toArray,List.getElem_cons_succ,List.getElem_cons_zero,List.setIfInBounds_toArray,List.set_cons_zero,List.set_cons_succ]
    refine AnyTill.take 9 (v:=?_) rfl (by kernel_rfl) (by kernel_rfl) (by kernel_rfl) (by kernel_rfl) (fun _ _ _ h=>h) ?_ rfl hS ?_
    rotate_left
    ·intro w hSw
     obtain ⟨s1,s2⟩:=hSw
     go_simp
     all_goals with_reducible rfl
    try simp only[Act.put,List.getElem_toArray,List.getElem_cons_succ,List.getElem_cons_zero,List.setIfInBounds_toArray,List.set_cons_zero,List.set_cons_succ]
    refine AnyTill.one (i:=10) (by kernel_rfl) (AnyTill.op rfl rfl fun K hK=>?_)
    go_simp
    refine hK _ _ (fun _=>hS) ?_
    clear hK K
    try simp only[Act.put,List.getElem_toArray,List.getElem_cons_succ,List.getElem_cons_zero,List.setIfInBounds_toArray,List.set_cons_zero,List.set_cons_succ]
    refine AnyTill.one (i:=11) (by kernel_rfl) (AnyTill.op rfl rfl fun K hK=>?_)
    go_simp
    refine hK _ _ (fun h=>absurd rfl h) ?_
    clear hK K
    try simp only[Act.put,List.getElem_toArray,List.getElem_cons_succ,List.getElem_cons_zero,List.setIfInBounds_toArray,List.set_cons_zero,List.set_cons_succ]
    refine AnyTill.done (by kernel_rfl) ?_
    have H108:=hide (unhide HFN Wd (Wd.setCell ⟨g,m,none⟩ (.int .i64 (nO:Nat))).drew (Still.refl _) ⟨rfl,rfl,rfl,rfl⟩)
    clear HFN h6 h8 y0 yf k3 y6 hS
    go_wp2_with fail
    refine (unhide H108).mono ?_
    rintro e w5 ⟨rfl,hfin⟩
    clear H108
    go_wp2_with fail
    all_goals go_ret2
    all_goals exact ⟨topW+m,0,by simp,unhide hfin⟩
end Go.Proofs.YtidfllgaeiopjabGreat
