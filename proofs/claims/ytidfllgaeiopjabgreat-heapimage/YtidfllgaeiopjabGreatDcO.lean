import Derived.Test.YtidfllgaeiopjabGreatDcM
import Derived.Test.YtidfllgaeiopjabGreatPool3
import Derived.Deep.RegionHeld3
namespace Go.Proofs.YtidfllgaeiopjabGreat
open Go.ChangeShapes Go.WideShapes Go.ChangeAt Go.RowKit
set_option linter.unusedVariables false
set_option linter.unusedSimpArgs false
set_option maxRecDepth 100000
set_option maxHeartbeats 2000000
structure CX where
 pw:Nat
 aC:Option Addr
 cC:Nat
 aD:Option Addr
 cD:Nat
def clr6 (w:World) (g o:Nat):World:=(((((w.setCell ⟨g,o,none⟩ (.int .i64 0)).setCell ⟨g,o+1,none⟩ (.slice none 0 0)).setCell ⟨g,o+2,none⟩ (.slice none 0 0)).setCell ⟨g,o+3,none⟩ (.bool false)).setCell ⟨g,o+4,none⟩ (.bool false)).setCell ⟨g,o+5,none⟩ (.int .i64 0)
structure CollP (pd gO nO cO n m cL L cl U:Nat) (aL:Option Addr) (id pl sz sz' sl lg:Nat→Nat) (dn:Nat→Bool) (P1 Q1 P3 P4:CX→Nat→World→Prop) (R:World→Prop):Prop where
 a1:∀ x i W,P1 x i W→W.cell? ⟨x.pw,1,none⟩=some (.slice x.aC n x.cC)
 f1:∀ x i W,P1 x i W→i<n→(W.cell? ⟨pd,6,none⟩=some (.slice (some ⟨gO,0,none⟩) nO cO)∧(∃ g,x.aC=some ⟨g,0,none⟩∧W.cell? ⟨g,i,none⟩=some (.int .i64 (id i:Nat)))∧W.cell? ⟨pd,2,none⟩=some (.int .i64 (pl i:Nat))∧(∃ y,W.cell? ⟨gO,id i*6+5,none⟩=some y)∧W.frozen? ⟨gO,id i*6+5,none⟩=false)∧∀ W',Still (W.setCell ⟨gO,id i*6+5,none⟩ (.int .i64 (pl i:Nat))) W'→Q1 x i W'
 s1:∀ x i W W',P1 x i W→Still W W'→P1 x i W'
 f2:∀ x i W,Q1 x i W→i<n→(W.cell? ⟨x.pw,1,none⟩=some (.slice x.aC n x.cC)∧(∃ g,x.aC=some ⟨g,0,none⟩∧W.cell? ⟨g,i,none⟩=some (.int .i64 (id i:Nat)))∧W.cell? ⟨pd,2,none⟩=some (.int .i64 (pl i:Nat))∧W.frozen? ⟨pd,2,none⟩=false)∧(∀ W',Still W W'→Calls Tryz.prog 156 #[.pointer (some ⟨pd,0,none⟩),.int .i64 (id i:Nat)] W' fun e w'=>e=.returned (.int .i64 (sz i:Nat))∧Still W' w')∧∀ W',Still (W.setCell ⟨pd,2,none⟩ (.int .i64 (pl (i+1):Nat))) W'→P1 x (i+1) W'
 b2:∀ i,i<n→id i<nO∧pl (i+1)=pl i+sz i∧pl i≤10000000∧sz i≤10000000
 f3:∀ x W,P1 x n W→(∃ y,W.cell? ⟨pd,7,none⟩=some y)∧W.frozen? ⟨pd,7,none⟩=false∧(∃ y,W.cell? ⟨pd,3,none⟩=some y)∧W.frozen? ⟨pd,3,none⟩=false∧∀ W',Still ((W.setCell ⟨pd,7,none⟩ (.slice x.aC n x.cC)).setCell ⟨pd,3,none⟩ (.int .i64 0)) W'→P3 x 0 W'
 a3:∀ x i W,P3 x i W→W.cell? ⟨pd,8,none⟩=some (.slice aL m cL)
 f4:∀ x i W,P3 x i W→i<m→(∃ g,aL=some ⟨g,0,none⟩∧W.cell? ⟨g,i,none⟩=some (.int .i64 (sl i:Nat))∧W.frozen? ⟨g,i,none⟩=false∧(sl i=0∨dn (sl i)=false→∀ W',Still (W.setCell ⟨g,i,none⟩ (.int .i64 0)) W'→P3 x (i+1) W'))∧(sl i≠0→sl i<nO∧W.cell? ⟨x.pw,0,none⟩=some (.slice x.aD nO x.cD)∧(∃ g,x.aD=some ⟨g,0,none⟩∧W.cell? ⟨g,sl i,none⟩=some (.bool (dn (sl i)))))∧(sl i≠0→dn (sl i)=true→W.cell? ⟨pd,3,none⟩=some (.int .i64 (lg i:Nat))∧W.frozen? ⟨pd,3,none⟩=false∧lg (i+1)=lg i+1+sz' (sl i)∧lg i≤10000000∧sz' (sl i)≤10000000∧(∀ W',Still W W'→Calls Tryz.prog 156 #[.pointer (some ⟨pd,0,none⟩),.int .i64 (sl i:Nat)] W' fun e w'=>e=.returned (.int .i64 (sz' (sl i):Nat))∧Still W' w')∧∀ W',Still (W.setCell ⟨pd,3,none⟩ (.int .i64 (lg (i+1):Nat))) W'→P3 x (i+1) W')
 f5:∀ x W,P3 x m W→P4 x 1 W
 a4:∀ x i W,P4 x i W→W.cell? ⟨pd,6,none⟩=some (.slice (some ⟨gO,0,none⟩) nO cO)
 f6:∀ x i W,P4 x i W→i<nO→(W.cell? ⟨x.pw,0,none⟩=some (.slice x.aD nO x.cD)∧(∃ g,x.aD=some ⟨g,0,none⟩∧W.cell? ⟨g,i,none⟩=some (.bool (dn i))))∧(dn i=true→P4 x (i+1) W)∧(dn i=false→(∀ c,c<6→(∃ y,W.cell? ⟨gO,i*6+c,none⟩=some y)∧W.frozen? ⟨gO,i*6+c,none⟩=false)∧∀ W',Still (clr6 W gO (i*6)) W'→P4 x (i+1) W')
 f7:∀ x W,P4 x nO W→(∃ y,W.cell? ⟨pd,4,none⟩=some y)∧W.cell? ⟨pd,3,none⟩=some (.int .i64 (L:Nat))∧(∃ y,W.cell? ⟨pd,5,none⟩=some y)∧W.cell? ⟨pd,10,none⟩=some (.int .i64 (cl:Nat))∧W.cell? ⟨pd,2,none⟩=some (.int .i64 (U:Nat))∧(∃ y,W.cell? ⟨pd,12,none⟩=some y)∧(∀ c,c<13→W.frozen? ⟨pd,c,none⟩=false)∧∀ W',Still ((((W.setCell ⟨pd,4,none⟩ (.int .i64 0)).setCell ⟨pd,5,none⟩ (.int .i64 (L:Nat))).setCell ⟨pd,10,none⟩ (.int .i64 ((cl+1:Nat):Int))).setCell ⟨pd,12,none⟩ (.int .i64 ((U-1:Nat):Int))) W'→R W'
theorem coll_walk {w:World}{pd gO nO cO n m cL L cl U:Nat}{aL:Option Addr}{id pl sz sz' sl lg:Nat→Nat}{dn:Nat→Bool}{P0:CX→World→Prop}{P1 Q1 P3 P4:CX→Nat→World→Prop}{R:World→Prop} (c:CollP pd gO nO cO n m cL L cl U aL id pl sz sz' sl lg dn P1 Q1 P3 P4 R)
  (hn:n≤10000000) (hm:m≤10000000) (hO:nO≤10000000) (hO1:1≤nO) (hcl:cl≤100000000000) (hU:1≤U∧U≤10000000) (hL:L≤10000000)
  (H138:Calls Tryz.prog 155 #[.pointer (some ⟨pd,0,none⟩)] w fun e w'=>∃ x:CX,e=.returned (.pointer (some ⟨x.pw,0,none⟩))∧P0 x w')
  (f0:∀ x W,P0 x W→(∃ y,W.cell? ⟨pd,2,none⟩=some y)∧W.frozen? ⟨pd,2,none⟩=false∧∀ W',Still (W.setCell ⟨pd,2,none⟩ (.int .i64 1)) W'→P1 x 0 W'):
  Calls Tryz.prog 99 #[.pointer (some ⟨pd,0,none⟩)] w fun e w'=>e=.returned (.tuple #[])∧R w':=by
 have HC:=hide c
 have H1:=hide H138
 have F0:=hide f0
 clear c H138 f0
 go_enter Tryz.func99,Tryz.ntmps99
 go_wp2_with fail
 refine (unhide H1).mono ?_
 rintro e w1 ⟨⟨pw,aC,cC,aD,cD⟩,rfl,hP⟩
 obtain ⟨⟨y0,c0⟩,z0,hnx⟩:=unhide F0 _ _ hP
 have HN:=hide hnx
 clear hnx hP F0 H1
 go_wp2_with fail
 have HP1:Hid (P1 ⟨pw,aC,cC,aD,cD⟩ 0 (w1.setCell ⟨pd,2,none⟩ (.int .i64 1))):=hide (unhide HN _ (Still.refl _))
 clear HN c0 z0
 generalize hW:World.setCell w1 _ _=W1 at *
 clear hW
 go_loopw [3] (fun iv wr=>∃ i:Nat,iv=.int .i64 (i:Nat)∧i≤n∧Hid (P1 ⟨pw,aC,cC,aD,cD⟩ i wr)) (fun iv _=>n-(intOf iv).toNat)
 case atStart=>exact ⟨0,rfl,Nat.zero_le _,HP1⟩
 case round=>
  clear HP1
  obtain ⟨i,rfl,hin,hP⟩:=hrel
  have c1:=(unhide HC).a1 _ _ _ (unhide hP)
  dsimp only at c1
  have w1':IntKind.i64.wrap ((i:Int)+1)=(i:Int)+1:=wrap_small _ (by omega) (by omega)
  by_cases hi:i<n
  ·obtain ⟨⟨c6,⟨g,hg,e0⟩,c2,⟨y5,e5⟩,z5⟩,hnx⟩:=(unhide HC).f1 _ _ _ (unhide hP) hi
   dsimp only at hg
   subst hg
   obtain ⟨b1,b2,b3,b4⟩:=(unhide HC).b2 i hi
   have dl:decide ((i:Int)<(n:Nat))=true:=decide_eq_true (by omega)
   have i1:(0:Int)≤(i:Nat):=by omega
   have i2:(i:Int)<(n:Nat):=by omega
   have i3:(0:Int)≤(id i:Nat):=by omega
   have i4:(id i:Int)<(nO:Nat):=by omega
   have HX:=hide (⟨b2,b3,b4⟩:_∧_∧_)
   have HNX:=hide hnx
   clear hnx b2 b3 b4
   go_wp2_with fail
   have hSd:(fun w'=>w'.cell? ⟨pd,6,none⟩=some (.slice (some ⟨gO,0,none⟩) nO cO)∧w'.cell? ⟨pw,1,none⟩=some (.slice (some ⟨g,0,none⟩) n cC)∧w'.cell? ⟨g,i,none⟩=some (.int .i64 (id i:Nat))∧w'.cell? ⟨pd,2,none⟩=some (.int .i64 (pl i:Nat))) wr.drew:=⟨c6,c1,e0,c2⟩
   refine till_begin (fun w'=>w'.cell? ⟨pd,6,none⟩=some (.slice (some ⟨gO,0,none⟩) nO cO)∧w'.cell? ⟨pw,1,none⟩=some (.slice (some ⟨g,0,none⟩) n cC)∧w'.cell? ⟨g,i,none⟩=some (.int .i64 (id i:Nat))∧w'.cell? ⟨pd,2,none⟩=some (.int .i64 (pl i:Nat))) 17 (by kernel_rfl) ?_
   refine AnyTill.take 0 (v:=?_) rfl (by kernel_rfl) (by kernel_rfl) (by kernel_rfl) (by kernel_rfl) (fun _ _ _ h=>h) ?_ rfl hSd ?_
   rotate_left
   ·intro w hSw
    obtain ⟨s1,s2,s3,s4⟩:=hSw
    go_simp
    all_goals with_reducible rfl
   try simp only[Act.put,List.getElem_toArray,List.getElem_cons_succ,List.getElem_cons_zero,List.setIfInBounds_toArray,List.set_cons_zero,List.set_cons_succ]
   refine AnyTill.take 1 (v:=?_) rfl (by kernel_rfl) (by kernel_rfl) (by kernel_rfl) (by kernel_rfl) (fun _ _ _ h=>h) ?_ rfl hSd ?_
   rotate_left
   ·intro w hSw
    obtain ⟨s1,s2,s3,s4⟩:=hSw
    go_simp
    all_goals with_reducible rfl
   try simp only[Act.put,List.getElem_toArray,List.getElem_cons_succ,List.getElem_cons_zero,List.setIfInBounds_toArray,List.set_cons_zero,List.set_cons_succ]
   refine AnyTill.take 2 (v:=?_) rfl (by kernel_rfl) (by kernel_rfl) (by kernel_rfl) (by kernel_rfl) (fun _ _ _ h=>h) ?_ rfl hSd ?_
   rotate_left
   ·intro w hSw
    obtain ⟨s1,s2,s3,s4⟩:=hSw
    go_simp
    all_goals with_reducible rfl
   try simp only[Act.put,List.getElem_toArray,List.getElem_cons_succ,List.getElem_cons_zero,List.setIfInBounds_toArray,List.set_cons_zero,List.set_cons_succ]
   refine AnyTill.take 3 (v:=?_) rfl (by kernel_rfl) (by kernel_rfl) (by kernel_rfl) (by kernel_rfl) (fun _ _ _ h=>h) ?_ rfl hSd ?_
   rotate_left
   ·intro w hSw
    obtain ⟨s1,s2,s3,s4⟩:=hSw
    go_simp
    all_goals with_reducible rfl
   try simp only[Act.put,List.getElem_toArray,List.getElem_cons_succ,List.getElem_cons_zero,List.setIfInBounds_toArray,List.set_cons_zero,List.set_cons_succ]
   refine AnyTill.take 4 (v:=?_) rfl (by kernel_rfl) (by kernel_rfl) (by kernel_rfl) (by kernel_rfl) (fun _ _ _ h=>h) ?_ rfl hSd ?_
   rotate_left
   ·intro w hSw
    obtain ⟨s1,s2,s3,s4⟩:=hSw
    go_simp
    all_goals with_reducible rfl
   try simp only[Act.put,List.getElem_toArray,List.getElem_cons_succ,List.getElem_cons_zero,List.setIfInBounds_toArray,List.set_cons_zero,List.set_cons_succ]
   refine AnyTill.take 5 (v:=?_) rfl (by kernel_rfl) (by kernel_rfl) (by kernel_rfl) (by kernel_rfl) (fun _ _ _ h=>h) ?_ rfl hSd ?_
   rotate_left
   ·intro w hSw
    obtain ⟨s1,s2,s3,s4⟩:=hSw
    go_simp
    all_goals with_reducible rfl
   try simp only[Act.put,List.getElem_toArray,List.getElem_cons_succ,List.getElem_cons_zero,List.setIfInBounds_toArray,List.set_cons_zero,List.set_cons_succ]
   refine AnyTill.take 6 (v:=?_) rfl (by kernel_rfl) (by kernel_rfl) (by kernel_rfl) (by kernel_rfl) (fun _ _ _ h=>h) ?_ rfl hSd ?_
   rotate_left
   ·intro w hSw
    obtain ⟨s1,s2,s3,s4⟩:=hSw
    go_simp
    all_goals with_reducible rfl
   try simp only[Act.put,List.getElem_toArray,List.getElem_cons_succ,List.getElem_cons_zero,List.setIfInBounds_toArray,List.set_cons_zero,List.set_cons_succ]
   refine AnyTill.take 7 (v:=?_) rfl (by kernel_rfl) (by kernel_rfl) (by kernel_rfl) (by kernel_rfl) (fun _ _ _ h=>h) ?_ rfl hSd ?_
   rotate_left
   ·intro w hSw
    obtain ⟨s1,s2,s3,s4⟩:=hSw
    go_simp
    all_goals with_reducible rfl
   try simp only[Act.put,List.getElem_toArray,List.getElem_cons_succ,List.getElem_cons_zero,List.setIfInBounds_toArray,List.set_cons_zero,List.set_cons_succ]
   refine AnyTill.take 8 (v:=?_) rfl (by kernel_rfl) (by kernel_rfl) (by kernel_rfl) (by kernel_rfl) (fun _ _ _ h=>h) ?_ rfl hSd ?_
   rotate_left
   ·intro w hSw
    obtain ⟨s1,s2,s3,s4⟩:=hSw
    go_simp
    all_goals with_reducible rfl
   try simp only[Act.put,List.getElem_toArray,List.getElem_cons_succ,List.getElem_cons_zero,List.setIfInBounds_toArray,List.set_cons_zero,List.set_cons_succ]
   refine AnyTill.take 9 (v:=?_) rfl (by kernel_rfl) (by kernel_rfl) (by kernel_rfl) (by kernel_rfl) (fun _ _ _ h=>h) ?_ rfl hSd ?_
   rotate_left
   ·intro w hSw
    obtain ⟨s1,s2,s3,s4⟩:=hSw
    go_simp
    all_goals with_reducible rfl
   try simp only[Act.put,List.getElem_toArray,List.getElem_cons_succ,List.getElem_cons_zero,List.setIfInBounds_toArray,List.set_cons_zero,List.set_cons_succ]
   refine AnyTill.take 10 (v:=?_) rfl (by kernel_rfl) (by kernel_rfl) (by kernel_rfl) (by kernel_rfl) (fun _ _ _ h=>h) ?_ rfl hSd ?_
   rotate_left
   ·intro w hSw
    obtain ⟨s1,s2,s3,s4⟩:=hSw
    go_simp
    all_goals with_reducible rfl
   try simp only[Act.put,List.getElem_toArray,List.getElem_cons_succ,List.getElem_cons_zero,List.setIfInBounds_toArray,List.set_cons_zero,List.set_cons_succ]
   refine AnyTill.take 11 (v:=?_) rfl (by kernel_rfl) (by kernel_rfl) (by kernel_rfl) (by kernel_rfl) (fun _ _ _ h=>h) ?_ rfl hSd ?_
   rotate_left
   ·intro w hSw
    obtain ⟨s1,s2,s3,s4⟩:=hSw
    go_simp
    all_goals with_reducible rfl
   try simp only[Act.put,List.getElem_toArray,List.getElem_cons_succ,List.getElem_cons_zero,List.setIfInBounds_toArray,List.set_cons_zero,List.set_cons_succ]
   refine AnyTill.take 12 (v:=?_) rfl (by kernel_rfl) (by kernel_rfl) (by kernel_rfl) (by kernel_rfl) (fun _ _ _ h=>h) ?_ rfl hSd ?_
   rotate_left
   ·intro w hSw
    obtain ⟨s1,s2,s3,s4⟩:=hSw
    go_simp
    all_goals with_reducible rfl
   try simp only[Act.put,List.getElem_toArray,List.getElem_cons_succ,List.getElem_cons_zero,List.setIfInBounds_toArray,List.set_cons_zero,List.set_cons_succ]
   refine AnyTill.take 13 (v:=?_) rfl (by kernel_rfl) (by kernel_rfl) (by kernel_rfl) (by kernel_rfl) (fun _ _ _ h=>h) ?_ rfl hSd ?_
   rotate_left
   ·intro w hSw
    obtain ⟨s1,s2,s3,s4⟩:=hSw
    go_simp
    all_goals with_reducible rfl
   try simp only[Act.put,List.getElem_toArray,List.getElem_cons_succ,List.getElem_cons_zero,List.setIfInBounds_toArray,List.set_cons_zero,List.set_cons_succ]
   refine AnyTill.take 14 (v:=?_) rfl (by kernel_rfl) (by kernel_rfl) (by kernel_rfl) (by kernel_rfl) (fun _ _ _ h=>h) ?_ rfl hSd ?_
   rotate_left
   ·intro w hSw
    obtain ⟨s1,s2,s3,s4⟩:=hSw
    go_simp
    all_goals with_reducible rfl
   try simp only[Act.put,List.getElem_toArray,List.getElem_cons_succ,List.getElem_cons_zero,List.setIfInBounds_toArray,List.set_cons_zero,List.set_cons_succ]
   refine AnyTill.one (i:=15) (by kernel_rfl) ?_
   refine AnyTill.op rfl rfl fun K hK=>?_
   go_simp
   refine hK _ _ (fun _=>hSd) ?_
   clear hK K
   try simp only[Act.put,List.getElem_toArray,List.getElem_cons_succ,List.getElem_cons_zero,List.setIfInBounds_toArray,List.set_cons_zero,List.set_cons_succ]
   refine AnyTill.one (i:=16) (by kernel_rfl) ?_
   refine AnyTill.op rfl rfl fun K hK=>?_
   go_simp
   refine hK _ _ (fun _=>hSd) ?_
   clear hK K
   try simp only[Act.put,List.getElem_toArray,List.getElem_cons_succ,List.getElem_cons_zero,List.setIfInBounds_toArray,List.set_cons_zero,List.set_cons_succ]
   refine AnyTill.one (i:=17) (by kernel_rfl) ?_
   refine AnyTill.op rfl rfl fun K hK=>?_
   go_simp
   refine hK _ _ (fun h=>absurd rfl h) ?_
   clear hK K
   try simp only[Act.put,List.getElem_toArray,List.getElem_cons_succ,List.getElem_cons_zero,List.setIfInBounds_toArray,List.set_cons_zero,List.set_cons_succ]
   refine AnyTill.done (by kernel_rfl) ?_
   go_wp2_with fail
   have hQ:Q1 _ i ((wr.setCell ⟨gO,id i*6+5,none⟩ (.int .i64 (pl i:Nat))).drew):=unhide HNX _ ⟨rfl,rfl,rfl,rfl⟩
   obtain ⟨⟨k1,⟨g',hg',k2⟩,k3,k4⟩,h139',hnx⟩:=(unhide HC).f2 _ _ _ hQ hi
   cases hg'
   dsimp only at k1
   have h139:=hide h139'
   have HNX2:=hide hnx
   clear hnx HNX hQ h139' c1 c6 e0 c2 e5 z5 hP
   generalize hW:World.drew (World.setCell wr _ _)=W5 at *
   clear hW
   have hSd:(fun w'=>w'.cell? ⟨pw,1,none⟩=some (.slice (some ⟨g,0,none⟩) n cC)∧w'.cell? ⟨g,i,none⟩=some (.int .i64 (id i:Nat))∧w'.cell? ⟨pd,2,none⟩=some (.int .i64 (pl i:Nat))) W5.drew:=⟨k1,k2,k3⟩
   refine till_begin (fun w'=>w'.cell? ⟨pw,1,none⟩=some (.slice (some ⟨g,0,none⟩) n cC)∧w'.cell? ⟨g,i,none⟩=some (.int .i64 (id i:Nat))∧w'.cell? ⟨pd,2,none⟩=some (.int .i64 (pl i:Nat))) 17 (by kernel_rfl) ?_
   refine AnyTill.take 0 (v:=?_) rfl (by kernel_rfl) (by kernel_rfl) (by kernel_rfl) (by kernel_rfl) (fun _ _ _ h=>h) ?_ rfl hSd ?_
   rotate_left
   ·intro w hSw
    obtain ⟨s1,s2,s3⟩:=hSw
    go_simp
    all_goals with_reducible rfl
   try simp only[Act.put,List.getElem_toArray,List.getElem_cons_succ,List.getElem_cons_zero,List.setIfInBounds_toArray,List.set_cons_zero,List.set_cons_succ]
   refine AnyTill.take 1 (v:=?_) rfl (by kernel_rfl) (by kernel_rfl) (by kernel_rfl) (by kernel_rfl) (fun _ _ _ h=>h) ?_ rfl hSd ?_
   rotate_left
   ·intro w hSw
    obtain ⟨s1,s2,s3⟩:=hSw
    go_simp
    all_goals with_reducible rfl
   try simp only[Act.put,List.getElem_toArray,List.getElem_cons_succ,List.getElem_cons_zero,List.setIfInBounds_toArray,List.set_cons_zero,List.set_cons_succ]
   refine AnyTill.take 2 (v:=?_) rfl (by kernel_rfl) (by kernel_rfl) (by kernel_rfl) (by kernel_rfl) (fun _ _ _ h=>h) ?_ rfl hSd ?_
   rotate_left
   ·intro w hSw
    obtain ⟨s1,s2,s3⟩:=hSw
    go_simp
    all_goals with_reducible rfl
   try simp only[Act.put,List.getElem_toArray,List.getElem_cons_succ,List.getElem_cons_zero,List.setIfInBounds_toArray,List.set_cons_zero,List.set_cons_succ]
   refine AnyTill.take 3 (v:=?_) rfl (by kernel_rfl) (by kernel_rfl) (by kernel_rfl) (by kernel_rfl) (fun _ _ _ h=>h) ?_ rfl hSd ?_
   rotate_left
   ·intro w hSw
    obtain ⟨s1,s2,s3⟩:=hSw
    go_simp
    all_goals with_reducible rfl
   try simp only[Act.put,List.getElem_toArray,List.getElem_cons_succ,List.getElem_cons_zero,List.setIfInBounds_toArray,List.set_cons_zero,List.set_cons_succ]
   refine AnyTill.take 4 (v:=?_) rfl (by kernel_rfl) (by kernel_rfl) (by kernel_rfl) (by kernel_rfl) (fun _ _ _ h=>h) ?_ rfl hSd ?_
   rotate_left
   ·intro w hSw
    obtain ⟨s1,s2,s3⟩:=hSw
    go_simp
    all_goals with_reducible rfl
   try simp only[Act.put,List.getElem_toArray,List.getElem_cons_succ,List.getElem_cons_zero,List.setIfInBounds_toArray,List.set_cons_zero,List.set_cons_succ]
   refine AnyTill.take 5 (v:=?_) rfl (by kernel_rfl) (by kernel_rfl) (by kernel_rfl) (by kernel_rfl) (fun _ _ _ h=>h) ?_ rfl hSd ?_
   rotate_left
   ·intro w hSw
    obtain ⟨s1,s2,s3⟩:=hSw
    go_simp
    all_goals with_reducible rfl
   try simp only[Act.put,List.getElem_toArray,List.getElem_cons_succ,List.getElem_cons_zero,List.setIfInBounds_toArray,List.set_cons_zero,List.set_cons_succ]
   refine AnyTill.take 6 (v:=?_) rfl (by kernel_rfl) (by kernel_rfl) (by kernel_rfl) (by kernel_rfl) (fun _ _ _ h=>h) ?_ rfl hSd ?_
   rotate_left
   ·intro w hSw
    obtain ⟨s1,s2,s3⟩:=hSw
    go_simp
    all_goals with_reducible rfl
   try simp only[Act.put,List.getElem_toArray,List.getElem_cons_succ,List.getElem_cons_zero,List.setIfInBounds_toArray,List.set_cons_zero,List.set_cons_succ]
   refine AnyTill.take 7 (v:=?_) rfl (by kernel_rfl) (by kernel_rfl) (by kernel_rfl) (by kernel_rfl) (fun _ _ _ h=>h) ?_ rfl hSd ?_
   rotate_left
   ·intro w hSw
    obtain ⟨s1,s2,s3⟩:=hSw
    go_simp
    all_goals with_reducible rfl
   try simp only[Act.put,List.getElem_toArray,List.getElem_cons_succ,List.getElem_cons_zero,List.setIfInBounds_toArray,List.set_cons_zero,List.set_cons_succ]
   refine AnyTill.take 8 (v:=?_) rfl (by kernel_rfl) (by kernel_rfl) (by kernel_rfl) (by kernel_rfl) (fun _ _ _ h=>h) ?_ rfl hSd ?_
   rotate_left
   ·intro w hSw
    obtain ⟨s1,s2,s3⟩:=hSw
    go_simp
    all_goals with_reducible rfl
   try simp only[Act.put,List.getElem_toArray,List.getElem_cons_succ,List.getElem_cons_zero,List.setIfInBounds_toArray,List.set_cons_zero,List.set_cons_succ]
   refine AnyTill.take 9 (v:=?_) rfl (by kernel_rfl) (by kernel_rfl) (by kernel_rfl) (by kernel_rfl) (fun _ _ _ h=>h) ?_ rfl hSd ?_
   rotate_left
   ·intro w hSw
    obtain ⟨s1,s2,s3⟩:=hSw
    go_simp
    all_goals with_reducible rfl
   try simp only[Act.put,List.getElem_toArray,List.getElem_cons_succ,List.getElem_cons_zero,List.setIfInBounds_toArray,List.set_cons_zero,List.set_cons_succ]
   refine AnyTill.take 10 (v:=?_) rfl (by kernel_rfl) (by kernel_rfl) (by kernel_rfl) (by kernel_rfl) (fun _ _ _ h=>h) ?_ rfl hSd ?_
   rotate_left
   ·intro w hSw
    obtain ⟨s1,s2,s3⟩:=hSw
    go_simp
    all_goals with_reducible rfl
   try simp only[Act.put,List.getElem_toArray,List.getElem_cons_succ,List.getElem_cons_zero,List.setIfInBounds_toArray,List.set_cons_zero,List.set_cons_succ]
   refine AnyTill.take 11 (v:=?_) rfl (by kernel_rfl) (by kernel_rfl) (by kernel_rfl) (by kernel_rfl) (fun _ _ _ h=>h) ?_ rfl hSd ?_
   rotate_left
   ·intro w hSw
    obtain ⟨s1,s2,s3⟩:=hSw
    go_simp
    all_goals with_reducible rfl
   try simp only[Act.put,List.getElem_toArray,List.getElem_cons_succ,List.getElem_cons_zero,List.setIfInBounds_toArray,List.set_cons_zero,List.set_cons_succ]
   refine AnyTill.take 12 (v:=?_) rfl (by kernel_rfl) (by kernel_rfl) (by kernel_rfl) (by kernel_rfl) (fun _ _ _ h=>h) ?_ rfl hSd ?_
   rotate_left
   ·intro w hSw
    obtain ⟨s1,s2,s3⟩:=hSw
    go_simp
    all_goals with_reducible rfl
   try simp only[Act.put,List.getElem_toArray,List.getElem_cons_succ,List.getElem_cons_zero,List.setIfInBounds_toArray,List.set_cons_zero,List.set_cons_succ]
   refine AnyTill.one (i:=13) (by kernel_rfl) ?_
   refine AnyTill.op rfl rfl fun K hK=>?_
   go_simp
   refine (unhide h139 W5.drew (⟨rfl,rfl,rfl,rfl⟩)).mono ?_
   rintro e w6 ⟨rfl,st5⟩
   try go_wp2_with fail
   refine hK _ _ (fun _=>⟨(st5.cell _).trans k1,(st5.cell _).trans k2,(st5.cell _).trans k3⟩) ?_
   clear hK K
   try simp only[Act.put,List.getElem_toArray,List.getElem_cons_succ,List.getElem_cons_zero,List.setIfInBounds_toArray,List.set_cons_zero,List.set_cons_succ]
   have hS6:(fun w'=>w'.cell? ⟨pw,1,none⟩=some (.slice (some ⟨g,0,none⟩) n cC)∧w'.cell? ⟨g,i,none⟩=some (.int .i64 (id i:Nat))∧w'.cell? ⟨pd,2,none⟩=some (.int .i64 (pl i:Nat))) w6:=⟨(st5.cell _).trans k1,(st5.cell _).trans k2,(st5.cell _).trans k3⟩
   obtain ⟨b2,b3,b4⟩:=unhide HX
   have s9:IntKind.i64.wrap ((pl i:Int)+(sz i:Int))=((pl (i+1):Nat):Int):=by rw[b2];rw[show (pl i:Int)+(sz i:Int)=((pl i+sz i:Nat):Int) by omega];exact wrap_nat _ (by omega)
   have k3':=(st5.cell _).trans k3
   have k4':w6.frozen? ⟨pd,2,none⟩=false:=by rw[← k4];simp only[World.frozen?,st5.heap];rfl
   refine AnyTill.take 14 (v:=?_) rfl (by kernel_rfl) (by kernel_rfl) (by kernel_rfl) (by kernel_rfl) (fun _ _ _ h=>h) ?_ rfl hS6 ?_
   rotate_left
   ·intro w hSw
    obtain ⟨s1,s2,s3⟩:=hSw
    go_simp
    all_goals with_reducible rfl
   try simp only[Act.put,List.getElem_toArray,List.getElem_cons_succ,List.getElem_cons_zero,List.setIfInBounds_toArray,List.set_cons_zero,List.set_cons_succ]
   refine AnyTill.one (i:=15) (by kernel_rfl) ?_
   refine AnyTill.op rfl rfl fun K hK=>?_
   go_simp
   refine hK _ _ (fun _=>hS6) ?_
   clear hK K
   try simp only[Act.put,List.getElem_toArray,List.getElem_cons_succ,List.getElem_cons_zero,List.setIfInBounds_toArray,List.set_cons_zero,List.set_cons_succ]
   refine AnyTill.one (i:=16) (by kernel_rfl) ?_
   refine AnyTill.op rfl rfl fun K hK=>?_
   go_simp
   refine hK _ _ (fun _=>hS6) ?_
   clear hK K
   try simp only[Act.put,List.getElem_toArray,List.getElem_cons_succ,List.getElem_cons_zero,List.setIfInBounds_toArray,List.set_cons_zero,List.set_cons_succ]
   refine AnyTill.one (i:=17) (by kernel_rfl) ?_
   refine AnyTill.op rfl rfl fun K hK=>?_
   go_simp
   refine hK _ _ (fun h=>absurd rfl h) ?_
   clear hK K
   try simp only[Act.put,List.getElem_toArray,List.getElem_cons_succ,List.getElem_cons_zero,List.setIfInBounds_toArray,List.set_cons_zero,List.set_cons_succ]
   refine AnyTill.done (by kernel_rfl) ?_
   have hP2:Hid (P1 ⟨pw,some ⟨g,0,none⟩,cC,aD,cD⟩ (i+1) (w6.setCell ⟨pd,2,none⟩ (.int .i64 ((pl i:Int)+(sz i:Int))))):=by
    rw[show (pl i:Int)+(sz i:Int)=((pl (i+1):Nat):Int) by rw[b2];push_cast;rfl]
    exact hide (unhide HNX2 _ (Still.setC (w:=W5) ⟨st5.os,st5.tape,st5.output,st5.heap⟩ _ _))
   clear HNX2 h139 HX b2 b3 b4 s9 k1 k2 k3 k3' k4 k4' hS6 hSd
   go_wp2_with fail
   all_goals go_roundw
   all_goals first|exact ⟨i+1,by simp,by omega,hP2⟩|(simp [intOf];omega)
  ·have hie:i=n:=by omega
   subst hie
   have dl:decide ((i:Int)<(i:Nat))=false:=decide_eq_false (by omega)
   obtain ⟨⟨y7,c7⟩,z7,⟨y3,c3⟩,z3,hnx⟩:=(unhide HC).f3 _ _ (unhide hP)
   dsimp only at hnx
   have HNX:=hide hnx
   have c3':(wr.setCell ⟨pd,7,none⟩ (.slice aC i cC)).cell? ⟨pd,3,none⟩=some y3:=(World.cell?_setCell_other _ _ _ _ (by simp)).trans c3
   have z3':(wr.setCell ⟨pd,7,none⟩ (.slice aC i cC)).frozen? ⟨pd,3,none⟩=false:=(setCell_froz _ _ _ _).trans z3
   clear hnx hP
   go_wp2_with fail
   have HP3:Hid (P3 ⟨pw,aC,cC,aD,cD⟩ 0 ((wr.setCell ⟨pd,7,none⟩ (.slice aC i cC)).setCell ⟨pd,3,none⟩ (.int .i64 0))):=hide (unhide HNX _ (Still.refl _))
   clear HNX c7 z7 c3 z3 c3' z3' c1
   generalize hW:World.setCell (World.setCell wr _ _) _ _=W2 at *
   clear hW dl w1'
   rename World=>wq
   go_loopw [4] (fun iv wr=>∃ q:Nat,iv=.int .i64 (q:Nat)∧q≤m∧Hid (P3 ⟨pw,aC,cC,aD,cD⟩ q wr)) (fun iv _=>m-(intOf iv).toNat)
   case atStart=>exact ⟨0,rfl,Nat.zero_le _,HP3⟩
   case round=>
    clear HP3
    obtain ⟨i,rfl,hin,hP⟩:=hrel
    have c8:=(unhide HC).a3 _ _ _ (unhide hP)
    have w1':IntKind.i64.wrap ((i:Int)+1)=(i:Int)+1:=wrap_small _ (by omega) (by omega)
    by_cases hi:i<m
    ·obtain ⟨⟨g,hg,e0,z0,hno⟩,hdone,hyes⟩:=(unhide HC).f4 _ _ _ (unhide hP) hi
     subst hg
     have dl:decide ((i:Int)<(m:Nat))=true:=decide_eq_true (by omega)
     have i1:(0:Int)≤(i:Nat):=by omega
     have i2:(i:Int)<(m:Nat):=by omega
     by_cases hs0:sl i=0
     ·have HNX:=hide (hno (.inl hs0))
      rw[hs0] at e0
      clear hno hdone hyes
      go_wp2_with fail
      all_goals go_roundw
      all_goals first|exact ⟨i+1,by simp,by omega,hide (unhide HNX _ (Still.refl _))⟩|(simp [intOf];omega)
     ·obtain ⟨hsO,c0,gD,hgD,e1⟩:=hdone hs0
      dsimp only at c0 hgD
      subst hgD
      have d1:decide ((0:Int)<(sl i:Nat))=true:=decide_eq_true (by omega)
      have i3:(0:Int)≤(sl i:Nat):=by omega
      have i4:(sl i:Int)<(nO:Nat):=by omega
      cases hd:dn (sl i) with
      | false=>
       rw[hd] at e1
       have HNX:=hide (hno (.inr hd))
       clear hno hyes hdone
       go_wp2_with fail
       all_goals go_roundw
       all_goals first|exact ⟨i+1,by simp,by omega,hide (unhide HNX _ (Still.refl _))⟩|(simp [intOf];omega)
      | true=>
       rw[hd] at e1
       obtain ⟨k3,k4,b2,b3,b4,h139',hnx⟩:=hyes hs0 hd
       have h139:=hide h139'
       have HNX2:=hide hnx
       have HX:=hide (⟨b2,b3,b4⟩:_∧_∧_)
       have s8:IntKind.i64.wrap ((lg i:Int)+1)=(lg i:Int)+1:=wrap_small _ (by omega) (by omega)
       clear hno hdone hyes hnx h139' b2 b3 b4
       go_wp2_with fail
       have hSd:(fun w'=>w'.cell? ⟨pd,3,none⟩=some (.int .i64 (lg i:Nat))) wr.drew:=k3
       refine till_begin (fun w'=>w'.cell? ⟨pd,3,none⟩=some (.int .i64 (lg i:Nat))) 12 (by kernel_rfl) ?_
       refine AnyTill.take 0 (v:=?_) rfl (by kernel_rfl) (by kernel_rfl) (by kernel_rfl) (by kernel_rfl) (fun _ _ _ h=>h) ?_ rfl hSd ?_
       rotate_left
       ·intro w hSw
        have s1:=hSw
        try dsimp only at s1
        go_simp
        all_goals with_reducible rfl
       try simp only[Act.put,List.getElem_toArray,List.getElem_cons_succ,List.getElem_cons_zero,List.setIfInBounds_toArray,List.set_cons_zero,List.set_cons_succ]
       refine AnyTill.take 1 (v:=?_) rfl (by kernel_rfl) (by kernel_rfl) (by kernel_rfl) (by kernel_rfl) (fun _ _ _ h=>h) ?_ rfl hSd ?_
       rotate_left
       ·intro w hSw
        have s1:=hSw
        try dsimp only at s1
        go_simp
        all_goals with_reducible rfl
       try simp only[Act.put,List.getElem_toArray,List.getElem_cons_succ,List.getElem_cons_zero,List.setIfInBounds_toArray,List.set_cons_zero,List.set_cons_succ]
       refine AnyTill.take 2 (v:=?_) rfl (by kernel_rfl) (by kernel_rfl) (by kernel_rfl) (by kernel_rfl) (fun _ _ _ h=>h) ?_ rfl hSd ?_
       rotate_left
       ·intro w hSw
        have s1:=hSw
        try dsimp only at s1
        go_simp
        all_goals with_reducible rfl
       try simp only[Act.put,List.getElem_toArray,List.getElem_cons_succ,List.getElem_cons_zero,List.setIfInBounds_toArray,List.set_cons_zero,List.set_cons_succ]
       refine AnyTill.take 3 (v:=?_) rfl (by kernel_rfl) (by kernel_rfl) (by kernel_rfl) (by kernel_rfl) (fun _ _ _ h=>h) ?_ rfl hSd ?_
       rotate_left
       ·intro w hSw
        have s1:=hSw
        try dsimp only at s1
        go_simp
        all_goals with_reducible rfl
       try simp only[Act.put,List.getElem_toArray,List.getElem_cons_succ,List.getElem_cons_zero,List.setIfInBounds_toArray,List.set_cons_zero,List.set_cons_succ]
       refine AnyTill.take 4 (v:=?_) rfl (by kernel_rfl) (by kernel_rfl) (by kernel_rfl) (by kernel_rfl) (fun _ _ _ h=>h) ?_ rfl hSd ?_
       rotate_left
       ·intro w hSw
        have s1:=hSw
        try dsimp only at s1
        go_simp
        all_goals with_reducible rfl
       try simp only[Act.put,List.getElem_toArray,List.getElem_cons_succ,List.getElem_cons_zero,List.setIfInBounds_toArray,List.set_cons_zero,List.set_cons_succ]
       refine AnyTill.take 5 (v:=?_) rfl (by kernel_rfl) (by kernel_rfl) (by kernel_rfl) (by kernel_rfl) (fun _ _ _ h=>h) ?_ rfl hSd ?_
       rotate_left
       ·intro w hSw
        have s1:=hSw
        try dsimp only at s1
        go_simp
        all_goals with_reducible rfl
       try simp only[Act.put,List.getElem_toArray,List.getElem_cons_succ,List.getElem_cons_zero,List.setIfInBounds_toArray,List.set_cons_zero,List.set_cons_succ]
       refine AnyTill.take 6 (v:=?_) rfl (by kernel_rfl) (by kernel_rfl) (by kernel_rfl) (by kernel_rfl) (fun _ _ _ h=>h) ?_ rfl hSd ?_
       rotate_left
       ·intro w hSw
        have s1:=hSw
        try dsimp only at s1
        go_simp
        all_goals with_reducible rfl
       try simp only[Act.put,List.getElem_toArray,List.getElem_cons_succ,List.getElem_cons_zero,List.setIfInBounds_toArray,List.set_cons_zero,List.set_cons_succ]
       refine AnyTill.take 7 (v:=?_) rfl (by kernel_rfl) (by kernel_rfl) (by kernel_rfl) (by kernel_rfl) (fun _ _ _ h=>h) ?_ rfl hSd ?_
       rotate_left
       ·intro w hSw
        have s1:=hSw
        try dsimp only at s1
        go_simp
        all_goals with_reducible rfl
       try simp only[Act.put,List.getElem_toArray,List.getElem_cons_succ,List.getElem_cons_zero,List.setIfInBounds_toArray,List.set_cons_zero,List.set_cons_succ]
       refine AnyTill.one (i:=8) (by kernel_rfl) ?_
       refine AnyTill.op rfl rfl fun K hK=>?_
       go_simp
       refine (unhide h139 wr.drew (⟨rfl,rfl,rfl,rfl⟩)).mono ?_
       rintro e w6 ⟨rfl,st5⟩
       try go_wp2_with fail
       refine hK _ _ (fun _=>(st5.cell _).trans k3) ?_
       clear hK K
       try simp only[Act.put,List.getElem_toArray,List.getElem_cons_succ,List.getElem_cons_zero,List.setIfInBounds_toArray,List.set_cons_zero,List.set_cons_succ]
       have hS6:(fun w'=>w'.cell? ⟨pd,3,none⟩=some (.int .i64 (lg i:Nat))) w6:=(st5.cell _).trans k3
       obtain ⟨b2,b3,b4⟩:=unhide HX
       have s9:IntKind.i64.wrap ((lg i:Int)+1+(sz' (sl i):Int))=(lg i:Int)+1+(sz' (sl i):Int):=wrap_small _ (by omega) (by omega)
       have k3':=(st5.cell _).trans k3
       have k4':w6.frozen? ⟨pd,3,none⟩=false:=by rw[← k4];simp only[World.frozen?,st5.heap];rfl
       refine AnyTill.take 9 (v:=?_) rfl (by kernel_rfl) (by kernel_rfl) (by kernel_rfl) (by kernel_rfl) (fun _ _ _ h=>h) ?_ rfl hS6 ?_
       rotate_left
       ·intro w hSw
        have s1:=hSw
        try dsimp only at s1
        go_simp
        all_goals with_reducible rfl
       try simp only[Act.put,List.getElem_toArray,List.getElem_cons_succ,List.getElem_cons_zero,List.setIfInBounds_toArray,List.set_cons_zero,List.set_cons_succ]
       refine AnyTill.one (i:=10) (by kernel_rfl) ?_
       refine AnyTill.op rfl rfl fun K hK=>?_
       go_simp
       refine hK _ _ (fun _=>hS6) ?_
       clear hK K
       try simp only[Act.put,List.getElem_toArray,List.getElem_cons_succ,List.getElem_cons_zero,List.setIfInBounds_toArray,List.set_cons_zero,List.set_cons_succ]
       refine AnyTill.one (i:=11) (by kernel_rfl) ?_
       refine AnyTill.op rfl rfl fun K hK=>?_
       go_simp
       refine hK _ _ (fun _=>hS6) ?_
       clear hK K
       try simp only[Act.put,List.getElem_toArray,List.getElem_cons_succ,List.getElem_cons_zero,List.setIfInBounds_toArray,List.set_cons_zero,List.set_cons_succ]
       refine AnyTill.one (i:=12) (by kernel_rfl) ?_
       refine AnyTill.op rfl rfl fun K hK=>?_
       go_simp
       refine hK _ _ (fun h=>absurd rfl h) ?_
       clear hK K
       try simp only[Act.put,List.getElem_toArray,List.getElem_cons_succ,List.getElem_cons_zero,List.setIfInBounds_toArray,List.set_cons_zero,List.set_cons_succ]
       refine AnyTill.done (by kernel_rfl) ?_
       have hP2:Hid (P3 ⟨pw,aC,cC,some ⟨gD,0,none⟩,cD⟩ (i+1) (w6.setCell ⟨pd,3,none⟩ (.int .i64 ((lg i:Int)+1+(sz' (sl i):Int))))):=by
        rw[show (lg i:Int)+1+(sz' (sl i):Int)=((lg (i+1):Nat):Int) by rw[b2];push_cast;rfl]
        exact hide (unhide HNX2 _ (Still.setC (w:=wr) ⟨st5.os,st5.tape,st5.output,st5.heap⟩ _ _))
       clear HNX2 h139 HX b2 b3 b4 s9 k3 k3' k4 k4' hS6 hSd hP
       go_wp2_with fail
       all_goals go_roundw
       all_goals first|exact ⟨i+1,by simp,by omega,hP2⟩|(simp [intOf];omega)
    ·have hie:i=m:=by omega
     subst hie
     have dl:decide ((i:Int)<(i:Nat))=false:=decide_eq_false (by omega)
     have HP4:=hide ((unhide HC).f5 _ _ (unhide hP))
     clear hP
     go_wp2_with fail
     clear dl w1' c8
     rename World=>wq2
     go_loopw [6] (fun iv wr=>∃ q:Nat,iv=.int .i64 (q:Nat)∧1≤q∧q≤nO∧Hid (P4 ⟨pw,aC,cC,aD,cD⟩ q wr)) (fun iv _=>nO-(intOf iv).toNat)
     case atStart=>exact ⟨1,rfl,Nat.le_refl _,hO1,HP4⟩
     case round=>
      clear HP4
      obtain ⟨q,rfl,hq1,hqn,hP⟩:=hrel
      have c6:=(unhide HC).a4 _ _ _ (unhide hP)
      have w1':IntKind.i64.wrap ((q:Int)+1)=(q:Int)+1:=wrap_small _ (by omega) (by omega)
      by_cases hq:q<nO
      ·obtain ⟨⟨c0,gD,hgD,e1⟩,hyes,hno⟩:=(unhide HC).f6 _ _ _ (unhide hP) hq
       dsimp only at c0 hgD
       subst hgD
       have dl:decide ((q:Int)<(nO:Nat))=true:=decide_eq_true (by omega)
       have i1:(0:Int)≤(q:Nat):=by omega
       have i2:(q:Int)<(nO:Nat):=by omega
       cases hd:dn q with
       | true=>
        rw[hd] at e1
        have HNX:=hide (hyes hd)
        clear hyes hno hP
        go_wp2_with fail
        all_goals go_roundw
        all_goals first|exact ⟨q+1,by simp,by omega,by omega,HNX⟩|(simp [intOf];omega)
       | false=>
        rw[hd] at e1
        obtain ⟨hcs,hnx⟩:=hno hd
        have HNX:=hide hnx
        obtain ⟨⟨x0,o0⟩,z0⟩:=hcs 0 (by decide)
        obtain ⟨⟨x1,o1⟩,z1⟩:=hcs 1 (by decide)
        obtain ⟨⟨x2,o2⟩,z2⟩:=hcs 2 (by decide)
        obtain ⟨⟨x3,o3⟩,z3⟩:=hcs 3 (by decide)
        obtain ⟨⟨x4,o4⟩,z4⟩:=hcs 4 (by decide)
        obtain ⟨⟨x5,o5⟩,z5⟩:=hcs 5 (by decide)
        rw[Nat.add_zero] at o0 z0
        unfold clr6 at HNX
        clear hyes hno hP hcs hnx
        go_wp2_with fail
        all_goals go_roundw
        all_goals first|exact ⟨q+1,by simp,by omega,by omega,hide (unhide HNX _ (Still.refl _))⟩|(simp [intOf];omega)
      ·have hqe:q=nO:=by omega
       subst hqe
       have dl:decide ((q:Int)<(q:Nat))=false:=decide_eq_false (by omega)
       obtain ⟨⟨y4,k4⟩,k3,⟨y5,k5⟩,k10,k2,⟨y12,k12⟩,hz,hfin⟩:=(unhide HC).f7 _ _ (unhide hP)
       have z4:=hz 4 (by decide)
       have z5:=hz 5 (by decide)
       have z10:=hz 10 (by decide)
       have z12:=hz 12 (by decide)
       have HFIN:=hide hfin
       have s1:IntKind.i64.wrap ((cl:Int)+1)=(cl:Int)+1:=wrap_small _ (by omega) (by omega)
       have s2:IntKind.i64.wrap ((U:Int)-1)=((U-1:Nat):Int):=by rw[show (U:Int)-1=((U-1:Nat):Int) by omega];exact wrap_nat _ (by omega)
       clear hz hfin hP
       go_wp2_with fail
       all_goals go_end0
       all_goals exact ⟨rfl,unhide HFIN _ (Still.refl _)⟩
set_option maxHeartbeats 1000000
theorem list_ext_ob {l m:List Ob} (hl:l.length=m.length) (h:∀ j,j<l.length→l.getD j ob0=m.getD j ob0):l=m:=by
 apply List.ext_getElem hl
 intro i h1 h2
 have:=h i h1
 rw[List.getD_eq_getElem?_getD,List.getElem?_eq_getElem h1,List.getD_eq_getElem?_getD,List.getElem?_eq_getElem h2] at this
 exact this
theorem getD_range_map (n:Nat) (f:Nat→Ob) (j:Nat) (hj:j<n):((List.range n).map f).getD j ob0=f j:=by
 rw[List.getD_eq_getElem?_getD,List.getElem?_map,List.getElem?_range hj]
 rfl
def atOl (M:Hp) (cop:List Nat) (i:Nat):List Ob:=(List.range M.objs.length).map fun j=>if j∈cop.take i then { ob M j with at':=addr M cop j } else ob M j
theorem atOl_len (M:Hp) (cop:List Nat) (i:Nat):(atOl M cop i).length=M.objs.length:=by unfold atOl;simp
theorem atOl_get (M:Hp) (cop:List Nat) (i:Nat) {j:Nat} (hj:j<M.objs.length):(atOl M cop i).getD j ob0=if j∈cop.take i then { ob M j with at':=addr M cop j } else ob M j:=getD_range_map _ _ j hj
theorem atOl_zero (M:Hp) (cop:List Nat):atOl M cop 0=M.objs:=by
 refine list_ext_ob (atOl_len _ _ _) fun j hj=>?_
 rw[atOl_len] at hj
 rw[atOl_get _ _ _ hj,if_neg (by simp)]
 rfl
theorem atOl_same (M:Hp) (cop:List Nat) (i:Nat) {j:Nat} (hj:j<M.objs.length):((atOl M cop i).getD j ob0).refs=(ob M j).refs∧((atOl M cop i).getD j ob0).raws=(ob M j).raws:=by
 rw[atOl_get _ _ _ hj]
 split <;> exact ⟨rfl,rfl⟩
theorem atOl_osz (M:Hp) (cop:List Nat) (i:Nat) {j:Nat} (hj:j<M.objs.length):osz ((atOl M cop i).getD j ob0)=osz (ob M j):=by
 obtain ⟨h1,h2⟩:=atOl_same M cop i hj
 unfold osz
 rw[h1,h2]
theorem mem_take_more {l:List Nat}{i:Nat} (hi:i<l.length) (j:Nat):j∈l.take (i+1)↔j∈l.take i∨j=l.getD i 0:=by
 rw[take_more i hi,List.mem_append,List.mem_singleton]
theorem not_taken {l:List Nat} (hn:l.Nodup) {i:Nat} (hi:i<l.length):l.getD i 0 ∉ l.take i:=by
 intro h
 obtain ⟨q,hq,e⟩:=List.getElem_of_mem h
 rw[List.length_take] at hq
 rw[List.getElem_take] at e
 have e2:l.getD i 0=l[i]:=by rw[List.getD_eq_getElem?_getD,List.getElem?_eq_getElem hi];rfl
 rw[e2] at e
 have:=(List.getElem_inj hn).1 e
 omega
theorem atOl_step {M:Hp}{cop:List Nat} (hn:cop.Nodup) {i:Nat} (hi:i<cop.length) (hc:cop.getD i 0<M.objs.length):(atOl M cop i).set (cop.getD i 0) { (atOl M cop i).getD (cop.getD i 0) ob0 with at':=place (shapes M cop) i } = atOl M cop (i+1):=by
 refine list_ext_ob (by rw[List.length_set,atOl_len,atOl_len]) fun j hj=>?_
 rw[List.length_set,atOl_len] at hj
 rw[ob_set _ _ _ _ (by rw[atOl_len];exact hc),atOl_get _ _ _ hj,atOl_get _ _ _ hj,atOl_get _ _ _ hc,if_neg (not_taken hn hi)]
 by_cases e:j=cop.getD i 0
 ·rw[if_pos e,if_pos ((mem_take_more hi j).2 (.inr e)),e,addr_at M cop hn i hi]
 ·rw[if_neg e]
  by_cases q:j∈cop.take i
  ·rw[if_pos q,if_pos ((mem_take_more hi j).2 (.inl q))]
  ·rw[if_neg q,if_neg (fun z=>((mem_take_more hi j).1 z).elim q e)]
def clOl (M:Hp) (k:Wk) (q:Nat):List Ob:=(List.range M.objs.length).map fun j=>if 1≤j∧j<q∧¬ (j∈k.cop∨j∈k.lin) then ob0 else (atOl M k.cop k.cop.length).getD j ob0
theorem clOl_len (M:Hp) (k:Wk) (q:Nat):(clOl M k q).length=M.objs.length:=by unfold clOl;simp
theorem clOl_get (M:Hp) (k:Wk) (q:Nat) {j:Nat} (hj:j<M.objs.length):(clOl M k q).getD j ob0=if 1≤j∧j<q∧¬ (j∈k.cop∨j∈k.lin) then ob0 else (atOl M k.cop k.cop.length).getD j ob0:=getD_range_map _ _ j hj
theorem clOl_one (M:Hp) (k:Wk):clOl M k 1=atOl M k.cop k.cop.length:=by
 refine list_ext_ob (by rw[clOl_len,atOl_len]) fun j hj=>?_
 rw[clOl_len] at hj
 rw[clOl_get _ _ _ hj,if_neg (by omega)]
theorem clOl_yes (M:Hp) (k:Wk) {q:Nat} (h:q∈k.cop∨q∈k.lin):clOl M k (q+1)=clOl M k q:=by
 refine list_ext_ob (by rw[clOl_len,clOl_len]) fun j hj=>?_
 rw[clOl_len] at hj
 rw[clOl_get _ _ _ hj,clOl_get _ _ _ hj]
 by_cases e:j=q
 ·subst e
  rw[if_neg (fun z=>z.2.2 h),if_neg (fun z=>z.2.2 h)]
 ·by_cases z:1≤j∧j<q∧¬ (j∈k.cop∨j∈k.lin)
  ·rw[if_pos z,if_pos ⟨z.1,by omega,z.2.2⟩]
  ·rw[if_neg z,if_neg (fun y=>z ⟨y.1,by omega,y.2.2⟩)]
theorem clOl_no (M:Hp) (k:Wk) {q:Nat} (h1:1≤q) (hq:q<M.objs.length) (h:¬ (q∈k.cop∨q∈k.lin)):(clOl M k q).set q ob0=clOl M k (q+1):=by
 refine list_ext_ob (by rw[List.length_set,clOl_len,clOl_len]) fun j hj=>?_
 rw[List.length_set,clOl_len] at hj
 rw[ob_set _ _ _ _ (by rw[clOl_len];exact hq),clOl_get _ _ _ hj,clOl_get _ _ _ hj]
 by_cases e:j=q
 ·subst e
  rw[if_pos rfl,if_pos ⟨h1,Nat.lt_succ_self _,h⟩]
 ·rw[if_neg e]
  by_cases z:1≤j∧j<q∧¬ (j∈k.cop∨j∈k.lin)
  ·rw[if_pos z,if_pos ⟨z.1,by omega,z.2.2⟩]
  ·rw[if_neg z,if_neg (fun y=>z ⟨y.1,by omega,y.2.2⟩)]
theorem clOl_end {M:Hp}{k:Wk} (hz:ob M 0=ob0) (h0:¬ (0∈k.cop∨0∈k.lin)) (hd:∀ i,i∈k.lin→i ∉ k.cop):clOl M k M.objs.length=(List.range M.objs.length).map (obC M k):=by
 refine list_ext_ob (by rw[clOl_len];simp) fun j hj=>?_
 rw[clOl_len] at hj
 rw[clOl_get _ _ _ hj,getD_range_map _ _ j hj,atOl_get _ _ _ hj,List.take_length]
 unfold obC
 by_cases hc:j∈k.cop
 ·rw[if_pos hc,if_neg (fun z=>z.2.2 (.inl hc)),if_pos hc]
 ·rw[if_neg hc,if_neg hc]
  by_cases hl:j∈k.lin
  ·rw[if_pos hl,if_neg (fun z=>z.2.2 (.inr hl))]
  ·rw[if_neg hl]
   by_cases e:1≤j
   ·rw[if_pos ⟨e,hj,fun z=>z.elim hc hl⟩]
   ·rw[if_neg (fun z=>e z.1),show j=0 by omega,hz]
def slE (M:Hp) (k:Wk) (i:Nat):List Nat:=(slC M k).take i++M.slots.drop i
theorem slC_len (M:Hp) (k:Wk):(slC M k).length=M.slots.length:=by unfold slC;simp
theorem slE_len (M:Hp) (k:Wk) {i:Nat} (hi:i≤M.slots.length):(slE M k i).length=M.slots.length:=by
 unfold slE
 rw[List.length_append,List.length_take,slC_len,List.length_drop]
 omega
theorem slE_at (M:Hp) (k:Wk) {i:Nat} (hi:i<M.slots.length):(slE M k i).getD i 0=M.slots.getD i 0:=by
 unfold slE
 rw[List.getD_eq_getElem?_getD,List.getElem?_append_right (by rw[List.length_take,slC_len];omega),List.length_take,slC_len,List.getElem?_drop,List.getD_eq_getElem?_getD]
 congr 2
 omega
theorem slE_step (M:Hp) (k:Wk) {i:Nat} (hi:i<M.slots.length):(slE M k i).set i ((slC M k).getD i 0)=slE M k (i+1):=by
 unfold slE
 have e1:((slC M k).take i).length=i:=by rw[List.length_take,slC_len];omega
 rw[List.set_append_right _ _ (by omega),e1,Nat.sub_self,List.drop_eq_getElem_cons hi,List.set_cons_zero,take_more i (by rw[slC_len];exact hi),List.append_assoc]
 rfl
theorem slE_keep (M:Hp) (k:Wk) {i:Nat} (hi:i<M.slots.length) (h:(slC M k).getD i 0=M.slots.getD i 0):slE M k (i+1)=slE M k i:=by
 rw[← slE_step M k hi,h]
 have hl:=slE_len M k (Nat.le_of_lt hi)
 have e:=slE_at M k hi
 apply List.ext_getElem?
 intro j
 rw[List.getElem?_set]
 by_cases q:i=j
 ·subst q
  rw[if_pos rfl,if_pos (by omega),← e,List.getD_eq_getElem?_getD,List.getElem?_eq_getElem (by omega)]
  rfl
 ·rw[if_neg q]
theorem DRaw.setAt {w:World}{pd:Nat}{dt:Nat→Nat}{N:Nat→Nat}{ol:List Ob}{sm sl:List Nat}{rt:List (Option Nat)}{C:DC} (h:DRaw w pd dt N ol sm sl rt C) {g i:Nat} (hg:C.vO.ownBlock=some g) (hi:i<ol.length) (x:Nat):
  ∃ C',DRaw (w.setCell ⟨g,i*6+5,none⟩ (.int .i64 (x:Nat))) pd dt N (ol.set i { ol.getD i ob0 with at':=x }) sm sl rt C'∧C'.vO=C.vO∧C'.vL=C.vL:=by
 have hgt:=h.t2 g hg
 have hb:∀ q,dt q≠2→(w.setCell ⟨g,i*6+5,none⟩ (.int .i64 (x:Nat))).heap[q]?=w.heap[q]?:=fun q hq=>setCell_else _ _ _ _ _ (by rintro rfl;exact hq hgt)
 refine ⟨_,h.rewrite hi { ol.getD i ob0 with at':=x } (C.rf i) (C.rw i) (by rw[World.size_setCell];exact Nat.le_refl _) (fun q _ h2 _ _=>hb q h2) ?_ ((h.rf i hi).same fun q e=>hb q (by rw[h.t6 i q hi e];omega)) ((h.rw i hi).same fun q e=>hb q (by rw[h.t7 i q hi e];omega)) (fun q e=>h.t6 i q hi e) (fun q e=>h.t7 i q hi e),rfl,rfl⟩
 refine (h.ob.put hg (i*6+5) _ (by omega)).congr fun q hq=>?_
 by_cases e:q / 6=i
 ·rw[if_pos e]
  unfold obField
  dsimp only
  by_cases e5:q=i*6+5
  ·rw[if_pos e5]
   have h5:q%6=5:=by omega
   rw[h5]
   rfl
  ·rw[if_neg e5]
   have h6:q%6≠5:=by omega
   unfold obCell obField
   rw[e]
   by_cases z0:q%6=0
   ·rw[if_pos z0,if_pos z0];rfl
   ·rw[if_neg z0,if_neg z0]
    by_cases z1:q%6=1
    ·rw[if_pos z1,if_pos z1]
    ·rw[if_neg z1,if_neg z1]
     by_cases z2:q%6=2
     ·rw[if_pos z2,if_pos z2]
     ·rw[if_neg z2,if_neg z2]
      by_cases z3:q%6=3
      ·rw[if_pos z3,if_pos z3];rfl
      ·rw[if_neg z3,if_neg z3]
       have z4:q%6=4:=by omega
       rw[if_pos z4,if_pos z4];rfl
 ·rw[if_neg e,if_neg (by omega)]
theorem DRaw.clear {w:World}{pd:Nat}{dt:Nat→Nat}{N:Nat→Nat}{ol:List Ob}{sm sl:List Nat}{rt:List (Option Nat)}{C:DC} (h:DRaw w pd dt N ol sm sl rt C) {g i:Nat} (hg:C.vO.ownBlock=some g) (hi:i<ol.length):
  ∃ C',DRaw (clr6 w g (i*6)) pd dt N (ol.set i ob0) sm sl rt C'∧C'.vO=C.vO∧C'.vL=C.vL:=by
 have hgt:=h.t2 g hg
 have hb:∀ q,dt q≠2→(clr6 w g (i*6)).heap[q]?=w.heap[q]?:=fun q hq=>by
  have hne:q≠g:=by rintro rfl;exact hq hgt
  unfold clr6
  rw[setCell_else _ _ _ _ _ hne,setCell_else _ _ _ _ _ hne,setCell_else _ _ _ _ _ hne,setCell_else _ _ _ _ _ hne,setCell_else _ _ _ _ _ hne,setCell_else _ _ _ _ _ hne]
 have hnn:∀ g,(Value.slice none 0 0).ownBlock≠some g:=fun g=>by simp [Value.ownBlock]
 refine ⟨_,h.rewrite hi ob0 (.slice none 0 0) (.slice none 0 0) (by unfold clr6;simp only[World.size_setCell];exact Nat.le_refl _) (fun q _ h2 _ _=>hb q h2) ?_ (.inl ⟨rfl,rfl⟩) (.inl ⟨rfl,rfl⟩) (fun q e=>absurd e (hnn q)) (fun q e=>absurd e (hnn q)),rfl,rfl⟩
 unfold clr6
 have h0:=h.ob.put hg (i*6) (.int .i64 0) (by omega)
 have h1:=h0.put hg (i*6+1) (.slice none 0 0) (by omega)
 have h2:=h1.put hg (i*6+2) (.slice none 0 0) (by omega)
 have h3:=h2.put hg (i*6+3) (.bool false) (by omega)
 have h4:=h3.put hg (i*6+4) (.bool false) (by omega)
 have h5:=h4.put hg (i*6+5) (.int .i64 0) (by omega)
 refine h5.congr fun q hq=>?_
 try dsimp only
 by_cases e:q / 6=i
 ·rw[if_pos e]
  have hc:q=i*6+q%6:=by omega
  have hm:q%6<6:=Nat.mod_lt _ (by decide)
  generalize q%6=c at *
  subst hc
  have:c=0∨c=1∨c=2∨c=3∨c=4∨c=5:=by omega
  rcases this with rfl|rfl|rfl|rfl|rfl|rfl <;> (simp;rfl)
 ·rw[if_neg e,if_neg (by omega),if_neg (by omega),if_neg (by omega),if_neg (by omega),if_neg (by omega),if_neg (by omega)]
theorem WkAt.same {w w':World}{b0 pw N:Nat}{k:Wk}{V:WkC} (h:WkAt w b0 pw N k V) (hb:∀ q,b0≤q→w'.heap[q]?=w.heap[q]?):WkAt w' b0 pw N k V:=by
 have hp:=hb pw h.lo.1
 exact ⟨(cell_like hp _).trans h.c0,(cell_like hp _).trans h.c1,(cell_like hp _).trans h.c2,fun i hi=>(froz_like hp _).trans (h.fz i hi),h.d.same fun g e=>hb g (h.lo.2 g (.inl e)).1,h.c.same fun g e=>hb g (h.lo.2 g (.inr (.inl e))).1,h.l.same fun g e=>hb g (h.lo.2 g (.inr (.inr e))).1,h.lo,h.d1,h.d2,h.d3⟩
end Go.Proofs.YtidfllgaeiopjabGreat
