import Derived.Test.YtidfllgaeiopjabGreatDcT
import Derived.Test.YtidfllgaeiopjabGreatRootM
import Derived.Test.YtidfllgaeiopjabGreatDcM
namespace Go.Proofs.YtidfllgaeiopjabGreat
open Go.ChangeShapes Go.WideShapes Go.ChangeAt Go.RowKit
set_option linter.unusedVariables false
set_option linter.unusedSimpArgs false
set_option maxRecDepth 100000
set_option maxHeartbeats 1000000
theorem dnew_bad {w:World}{n:Int} (h:n<128∨1048576<n):
  Calls Tryz.prog 39 #[.int .i64 n] w fun e w'=>e=.returned (.tuple #[.pointer none,.int .i64 30])∧Still w w':=by
 by_cases h1:n<128
 ·have d1:decide (n<128)=true:=decide_eq_true h1
  go_enter Tryz.func39,Tryz.ntmps39
  go_wp2_with fail
  all_goals go_ret2
  all_goals exact ⟨rfl,Still.refl _⟩
 ·have d1:decide (n<128)=false:=decide_eq_false h1
  have d2:decide (1048576<n)=true:=decide_eq_true (by omega)
  go_enter Tryz.func39,Tryz.ntmps39
  go_wp2_with fail
  all_goals go_ret2
  all_goals exact ⟨rfl,Still.refl _⟩
def newB (n:Nat):Obj:=.cells #[.int .i64 (n:Nat),.int .i64 64,.int .i64 1,.int .i64 0,.int .i64 0,.int .i64 0,.slice none 0 0,.slice none 0 0,.slice none 0 0,.slice none 0 0,.int .i64 0,.int .i64 0,.int .i64 0] 166
def obB:Obj:=.cells #[.int .i64 0,.slice none 0 0,.slice none 0 0,.bool false,.bool false,.int .i64 0] 168
theorem dnew_any {w:World} (n:Nat) (h1:128≤n) (h2:n≤1048576):
  Calls Tryz.prog 39 #[.int .i64 (n:Nat)] w fun e w'=>∃ pd dt C,e=.returned (.tuple #[.pointer (some ⟨pd,0,none⟩),.int .i64 0])∧DAt w' pd dt (newM n) 0 C∧(∀ g,dt g≠0→w.heap.size≤g)∧Below w.heap.size w w':=by
 have d1:decide ((n:Int)<128)=false:=decide_eq_false (by omega)
 have d2:decide ((1048576:Int)<(n:Nat))=false:=decide_eq_false (by omega)
 obtain ⟨i0,hi,hy0,hy1,hy2⟩:=info_parts Tryz.info168
 have HW:Hid (Wide ((w.alloc (newB n)).alloc obB) 168 6 (.slice none 0 0) 0 (fun _=>undef)):=hide (.inl ⟨rfl,rfl⟩)
 have hsz1:(w.alloc (newB n)).heap.size=w.heap.size+1:=by simp
 have HC:Hid (∀ j x,[Value.int .i64 0,.slice none 0 0,.slice none 0 0,.bool false,.bool false,.int .i64 0][j]?=some x→((w.alloc (newB n)).alloc obB).cell? ⟨w.heap.size+1,j,none⟩=some x):=hide (fun j x hx=>by
  have hb:((w.alloc (newB n)).alloc obB).heap[w.heap.size+1]?=some obB:=by rw[← hsz1];exact heap_alloc_new _ _
  have hj:j=0∨j=1∨j=2∨j=3∨j=4∨j=5:=by
   have:=(List.getElem?_eq_some_iff.1 hx).1
   simp at this
   omega
  unfold obB at hb ⊢
  rcases hj with rfl|rfl|rfl|rfl|rfl|rfl <;> (cases hx;simp only[World.cell?,hb];rfl))
 have HFIN:Hid (∀ v' w',Wide w' 168 6 v' (0+1) (fun j=>if j<0*6 then undef else [Value.int .i64 0,.slice none 0 0,.slice none 0 0,.bool false,.bool false,.int .i64 0].getD (j-0*6) undef)→w'.os=((w.alloc (newB n)).alloc obB).os∧w'.tape=((w.alloc (newB n)).alloc obB).tape∧w'.output=((w.alloc (newB n)).alloc obB).output→v'.ownBlock=some (w.heap.size+1+1)→w'.heap.size=w.heap.size+1+1+1→(∀ k,k<w.heap.size+1+1→w'.heap[k]?=((w.alloc (newB n)).alloc obB).heap[k]?)→
   w'.cell? ⟨w.heap.size,6,none⟩=some (.slice none 0 0)∧w'.frozen? ⟨w.heap.size,6,none⟩=false∧Hid (∀ W,Still (w'.setCell ⟨w.heap.size,6,none⟩ v') W→∃ dt C,DAt W w.heap.size dt (newM n) 0 C∧(∀ g,dt g≠0→w.heap.size≤g)∧Below w.heap.size w W)):=hide (fun v' w' hl ho hv hz hb=>by
  have hp:w'.heap[w.heap.size]?=some (newB n):=by
   rw[hb _ (by omega),heap_alloc_old _ _ (by rw[hsz1];omega)]
   exact heap_alloc_new _ _
  have hx:∀ i v,[Value.int .i64 (n:Nat),.int .i64 64,.int .i64 1,.int .i64 0,.int .i64 0,.int .i64 0,.slice none 0 0,.slice none 0 0,.slice none 0 0,.slice none 0 0,.int .i64 0,.int .i64 0,.int .i64 0][i]?=some v→w'.cell? ⟨w.heap.size,i,none⟩=some v:=fun i v e=>by
   unfold newB at hp
   simp only[World.cell?,hp]
   rw[← e]
   simp
  have hfz:∀ i,w'.frozen? ⟨w.heap.size,i,none⟩=false:=fun i=>by
   unfold newB at hp
   simp [World.frozen?,hp]
  refine ⟨hx 6 _ rfl,hfz 6,hide (fun W s=>?_)⟩
  have hcs:∀ i v,i≠6→w'.cell? ⟨w.heap.size,i,none⟩=some v→W.cell? ⟨w.heap.size,i,none⟩=some v:=fun i v hi e=>by
   rw[s.cell,World.cell?_setCell_other _ _ _ _ (by intro q;cases q;exact hi rfl)];exact e
  have hvl:∀ g,v'.ownBlock=some g→g=w.heap.size+1+1:=fun g e=>by rw[hv] at e;cases e;rfl
  refine ⟨fun g=>if g=w.heap.size then 1 else if g=w.heap.size+1+1 then 2 else 0,⟨v',.slice none 0 0,.slice none 0 0,.slice none 0 0,fun _=>.slice none 0 0,fun _=>.slice none 0 0⟩,{
   num:=fun i hi=>?_,c6:=?_,c7:=hcs 7 _ (by decide) (hx 7 _ rfl),c8:=hcs 8 _ (by decide) (hx 8 _ rfl),c9:=hcs 9 _ (by decide) (hx 9 _ rfl)
   fz:=fun i _=>?_,ob:=?_,sm:=.inl ⟨rfl,rfl⟩,sl:=.inl ⟨rfl,rfl⟩,rt:=.inl ⟨rfl,rfl⟩
   rf:=fun j hj=>?_,rw:=fun j hj=>?_
   t1:=if_pos rfl,t2:=fun g e=>?_,t3:=fun g e=>(by cases e),t4:=fun g e=>(by cases e),t5:=fun g e=>(by cases e),t6:=fun j g _ e=>(by cases e),t7:=fun j g _ e=>(by cases e)
   un:=fun g e=>?_ },fun g e=>?_,?_⟩
  ·have hi2:i=0∨i=1∨i=2∨i=3∨i=4∨i=5∨i=10∨i=11∨i=12:=by omega
   rcases hi2 with rfl|rfl|rfl|rfl|rfl|rfl|rfl|rfl|rfl <;> exact hcs _ _ (by decide) (hx _ _ rfl)
  ·rw[s.cell]
   exact World.cell?_setCell_same' w' ⟨w.heap.size,6,none⟩ v' (by rw[hx 6 _ rfl];rfl)
  ·rw[← hfz i,← setCell_froz w' ⟨w.heap.size,6,none⟩ ⟨w.heap.size,i,none⟩ v']
   simp only[World.frozen?,s.heap]
  ·refine (hl.same (w':=W) fun g e=>?_).congr fun j hj=>?_
   ·rw[s.heap,setCell_else _ _ _ _ _ (by rw[hvl g e];omega)]
   ·have hj2:j=0∨j=1∨j=2∨j=3∨j=4∨j=5:=by omega
    rcases hj2 with rfl|rfl|rfl|rfl|rfl|rfl <;> rfl
  ·have hj:j<1:=hj
   have:j=0:=by omega
   subst this
   exact .inl ⟨rfl,rfl⟩
  ·have hj:j<1:=hj
   have:j=0:=by omega
   subst this
   exact .inl ⟨rfl,rfl⟩
  ·have:=hvl g e
   subst this
   show (if w.heap.size+1+1=w.heap.size then 1 else if w.heap.size+1+1=w.heap.size+1+1 then 2 else 0)=2
   rw[if_neg (by omega),if_pos rfl]
  ·rw[s.heap,World.size_setCell,hz]
   by_cases q1:g=w.heap.size
   ·omega
   ·by_cases q2:g=w.heap.size+1+1
    ·omega
    ·exact absurd (show (if g=w.heap.size then 1 else if g=w.heap.size+1+1 then 2 else 0)=0 by rw[if_neg q1,if_neg q2]) e
  ·by_cases q1:g=w.heap.size
   ·omega
   ·by_cases q2:g=w.heap.size+1+1
    ·omega
    ·exact absurd (show (if g=w.heap.size then 1 else if g=w.heap.size+1+1 then 2 else 0)=0 by rw[if_neg q1,if_neg q2]) e
  ·refine ⟨s.os.trans ho.1,s.tape.trans ho.2.1,s.output.trans ho.2.2,by rw[s.heap,World.size_setCell,hz];omega,fun k hk=>?_⟩
   rw[s.heap,setCell_else _ _ _ _ _ (by omega),hb k (by omega),heap_alloc_old _ _ (by rw[hsz1];omega),heap_alloc_old _ _ hk])
 unfold newB obB at HW HC HFIN
 go_enter Tryz.func39,Tryz.ntmps39
 go_wp2_with (refine append_wide rfl (.tmp 18) (.tmp 20) 164 rfl 168 i0 (.agg #[.int .i64 0,.slice none 0 0,.slice none 0 0,.bool false,.bool false,.int .i64 0]) 6 72 Tryz.underlying164 hi hy0 hy1 hy2 rfl (.slice none 0 0) 0 (fun _=>undef) (by simp [Act.eval]) (unhide HW) (w.heap.size+1) (by simp [Act.eval]) [.int .i64 0,.slice none 0 0,.slice none 0 0,.bool false,.bool false,.int .i64 0] rfl (unhide HC) (by intro x hx';simp only[List.mem_cons,List.not_mem_nil,or_false] at hx';rcases hx' with rfl|rfl|rfl|rfl|rfl|rfl <;> rfl) (by omega) (by omega) ?_)
 intro v9 w9 hl9 ho1 ho2 ho3 hg9
 obtain ⟨a9,c9,rfl⟩:=hl9.shape
 have hX:=hg9.resolve_left (fun ⟨g,q,_⟩=>by cases q)
 obtain ⟨k1,k2,HF⟩:=unhide HFIN _ _ hl9 ⟨ho1,ho2,ho3⟩ hX.1 hX.2.1 hX.2.2
 clear hX
 clear hl9 ho1 ho2 ho3 hg9
 go_wp2_with fail
 all_goals go_ret2
 all_goals (obtain ⟨dt,C,z1,z2,z3⟩:=unhide HF _ (Still.refl _);exact ⟨_,dt,C,rfl,z1,z2,z3⟩)
structure Bare (w:World) (ps:Nat):Prop where
 c0:w.cell? ⟨ps,0,none⟩=some (.pointer none)
 c1:w.cell? ⟨ps,1,none⟩=some (.pointer none)
 c2:w.cell? ⟨ps,2,none⟩=some (.slice none 0 0)
 fz:∀ o,o<3→w.frozen? ⟨ps,o,none⟩=false
theorem Bare.like {w w':World}{ps:Nat} (h:Bare w ps) (hp:w'.heap[ps]?=w.heap[ps]?):Bare w' ps:=⟨(cell_like hp _).trans h.c0,(cell_like hp _).trans h.c1,(cell_like hp _).trans h.c2,fun o ho=>(froz_like hp _).trans (h.fz o ho)⟩
theorem begin_walk {w:World}{ps:Nat}{n:Int}{p1 p2:Option Addr}{x:Int}{same:Bool}{G1 G2:World→Prop}{R:World→Prop}
  (b:Bare w ps) (hsame:(p1.isNone == p2.isNone)=true)
  (H24:Calls Tryz.prog 15 #[.int .i64 n] w fun e w'=>e=.returned (.tuple #[.pointer p1,.int .i64 x])∧w'.heap[ps]?=w.heap[ps]?∧G1 w')
  (H71:∀ W,G1 W→Calls Tryz.prog 39 #[.int .i64 n] W fun e w'=>e=.returned (.tuple #[.pointer p2,.int .i64 x])∧w'.heap[ps]?=W.heap[ps]?∧G2 w')
  (HR:∀ W,G2 W→Bare W ps→R ((W.setCell ⟨ps,0,none⟩ (.pointer p1)).setCell ⟨ps,1,none⟩ (.pointer p2))):
  Calls Tryz.prog 14 #[.pointer (some ⟨ps,0,none⟩),.int .i64 n] w fun e w'=>e=.returned (.bool true)∧R w':=by
 have A1:=hide H24
 have A2:=hide H71
 have A3:=hide HR
 have B:=hide b
 clear H24 H71 HR b
 go_enter Tryz.func14,Tryz.ntmps14
 go_wp2_with fail
 refine (unhide A1).mono ?_
 rintro e w2 ⟨rfl,hp2,g1⟩
 have A4:=hide (unhide A2 _ g1)
 have B2:=hide ((unhide B).like hp2)
 clear hp2 g1 A1 A2 B
 go_wp2_with fail
 refine (unhide A4).mono ?_
 rintro e w3 ⟨rfl,hp3,g2⟩
 have B3:=(unhide B2).like hp3
 have A5:=hide (unhide A3 _ g2 B3)
 obtain ⟨c0,c1,c2,fz⟩:=B3
 have f0:=fz 0 (by decide)
 have f1:=fz 1 (by decide)
 clear fz hp3 g2 A3 A4 B2
 cases p1 with
 | none=>
  cases p2 with
  | none=>
   go_wp2_with fail
   all_goals go_ret
   all_goals exact ⟨rfl,unhide A5⟩
  | some q=>cases hsame
 | some p=>
  cases p2 with
  | none=>cases hsame
  | some q=>
   go_wp2_with fail
   all_goals go_ret
   all_goals exact ⟨rfl,unhide A5⟩
theorem begin_some {w:World}{ps:Nat}{n:Int}{G1:Nat→World→Prop}{G2:Nat→Nat→World→Prop}{R:World→Prop}
  (b:Bare w ps)
  (H24:Calls Tryz.prog 15 #[.int .i64 n] w fun e w'=>∃ ph,e=.returned (.tuple #[.pointer (some ⟨ph,0,none⟩),.int .i64 0])∧w'.heap[ps]?=w.heap[ps]?∧G1 ph w')
  (H71:∀ W ph,G1 ph W→Calls Tryz.prog 39 #[.int .i64 n] W fun e w'=>∃ pd,e=.returned (.tuple #[.pointer (some ⟨pd,0,none⟩),.int .i64 0])∧w'.heap[ps]?=W.heap[ps]?∧G2 ph pd w')
  (HR:∀ W ph pd,G2 ph pd W→Bare W ps→R ((W.setCell ⟨ps,0,none⟩ (.pointer (some ⟨ph,0,none⟩))).setCell ⟨ps,1,none⟩ (.pointer (some ⟨pd,0,none⟩)))):
  Calls Tryz.prog 14 #[.pointer (some ⟨ps,0,none⟩),.int .i64 n] w fun e w'=>e=.returned (.bool true)∧R w':=by
 have A1:=hide H24
 have A2:=hide H71
 have A3:=hide HR
 have B:=hide b
 clear H24 H71 HR b
 go_enter Tryz.func14,Tryz.ntmps14
 go_wp2_with fail
 refine (unhide A1).mono ?_
 rintro e w2 ⟨ph,rfl,hp2,g1⟩
 have A4:=hide (unhide A2 _ _ g1)
 have B2:=hide ((unhide B).like hp2)
 clear hp2 g1 A1 A2 B
 go_wp2_with fail
 refine (unhide A4).mono ?_
 rintro e w3 ⟨pd,rfl,hp3,g2⟩
 have B3:=(unhide B2).like hp3
 have A5:=hide (unhide A3 _ _ _ g2 B3)
 obtain ⟨c0,c1,c2,fz⟩:=B3
 have f0:=fz 0 (by decide)
 have f1:=fz 1 (by decide)
 clear fz hp3 g2 A3 A4 B2
 go_wp2_with fail
 all_goals go_ret
 all_goals exact ⟨rfl,unhide A5⟩
theorem hnew_none {w:World}{n:Int} (h:n<128∨1048576<n):Calls Tryz.prog 15 #[.int .i64 n] w fun e w'=>e=.returned (.tuple #[.pointer none,.int .i64 30])∧Below w.heap.size w w':=by
 refine (hnew_bad h).mono ?_
 rintro e w' ⟨h1,h2⟩
 exact ⟨h1,by rw[h2];exact Below.refl _ _⟩
theorem begin_no {w:World}{ps:Nat}{n:Int} (b:Bare w ps) (h:n<128∨1048576<n):
  Calls Tryz.prog 14 #[.pointer (some ⟨ps,0,none⟩),.int .i64 n] w fun e w'=>e=.returned (.bool true)∧Bare w' ps∧But [ps] w w':=by
 have hpl:ps<w.heap.size:=block_lt_of_cell b.c0
 refine begin_walk (p1:=none) (p2:=none) (x:=30) (same:=true) (G1:=fun W=>Below w.heap.size w W) (G2:=fun W=>Below w.heap.size w W) b rfl ((hnew_none h).mono fun e w' ⟨q1,q2⟩=>⟨q1,q2.block ps hpl,q2⟩) (fun W k=>(dnew_bad h).mono fun e w' ⟨q1,q2⟩=>⟨q1,by rw[q2.heap],k.trans (q2.below.mono k.size)⟩) (fun W k B=>?_)
 have e0:(W.setCell ⟨ps,0,none⟩ (.pointer none)).cell? ⟨ps,0,none⟩=some (.pointer none):=World.cell?_setCell_same' W ⟨ps,0,none⟩ _ (by rw[B.c0];rfl)
 have e1:(W.setCell ⟨ps,0,none⟩ (.pointer none)).cell? ⟨ps,1,none⟩=some (.pointer none):=by rw[World.cell?_setCell_other _ _ _ _ (by intro q;cases q)];exact B.c1
 refine ⟨⟨?_,?_,?_,fun o ho=>?_⟩,⟨k.os,k.tape,k.output,by rw[World.size_setCell,World.size_setCell];exact k.size,fun g hg hn=>?_⟩⟩
 ·rw[World.cell?_setCell_other _ _ _ _ (by intro q;cases q)];exact e0
 ·exact World.cell?_setCell_same' _ ⟨ps,1,none⟩ _ (by rw[e1];rfl)
 ·rw[World.cell?_setCell_other _ _ _ _ (by intro q;cases q),World.cell?_setCell_other _ _ _ _ (by intro q;cases q)];exact B.c2
 ·rw[setCell_froz,setCell_froz];exact B.fz o ho
 ·have hne:g≠ps:=fun q=>hn (by rw[q];exact List.mem_singleton.2 rfl)
  rw[setCell_else _ _ _ _ _ hne,setCell_else _ _ _ _ _ hne]
  exact k.block g hg
theorem begin_yes {w:World}{ps:Nat} (n:Nat) (b:Bare w ps) (h1:128≤n) (h2:n≤1048576):
  Calls Tryz.prog 14 #[.pointer (some ⟨ps,0,none⟩),.int .i64 (n:Nat)] w fun e w'=>e=.returned (.bool true)∧∃ ph pd tag dt H C,SideAt w' ps ph pd tag dt (newM n) (newM n) H C (.slice none 0 0) []∧But [ps] w w'∧∀ g,ownS ps tag dt (.slice none 0 0) g≠0→g=ps∨w.heap.size≤g:=by
 have hpl:ps<w.heap.size:=block_lt_of_cell b.c0
 refine begin_some (G1:=fun ph W=>∃ tag H,HAt W ph tag (newM n) H∧(∀ g,tag g≠0→w.heap.size≤g)∧Below w.heap.size w W) (G2:=fun ph pd W=>∃ tag dt H C,HAt W ph tag (newM n) H∧(∀ g,tag g≠0→w.heap.size≤g)∧DAt W pd dt (newM n) 0 C∧(∀ g,dt g≠0→w.heap.size≤g∧tag g=0)∧Below w.heap.size w W) b ((hnew_any n h1 h2).mono fun e w' ⟨ph,tag,H,q1,q2,q3,q4⟩=>⟨ph,q1,q4.block ps hpl,tag,H,q2,q3,q4⟩) (fun W ph ⟨tag,H,q2,q3,q4⟩=>(dnew_any n h1 h2).mono fun e w' ⟨pd,dt,C,z1,z2,z3,z4⟩=>⟨pd,z1,z4.block ps (Nat.lt_of_lt_of_le hpl q4.size),tag,dt,H,C,q2.samew z4.size (fun g e=>z4.block g (q2.raw.un g e)),q3,z2,fun g e=>⟨Nat.le_trans q4.size (z3 g e),?_⟩,q4.trans (z4.mono q4.size)⟩) (fun W ph pd ⟨tag,dt,H,C,q1,q2,q3,q4,k⟩ B=>?_)
 ·by_cases q:tag g=0
  ·exact q
  ·have:=q2.raw.un g q
   have:=z3 g e
   omega
 ·have e0:(W.setCell ⟨ps,0,none⟩ (.pointer (some ⟨ph,0,none⟩))).cell? ⟨ps,0,none⟩=some (.pointer (some ⟨ph,0,none⟩)):=World.cell?_setCell_same' W ⟨ps,0,none⟩ _ (by rw[B.c0];rfl)
  have e1:(W.setCell ⟨ps,0,none⟩ (.pointer (some ⟨ph,0,none⟩))).cell? ⟨ps,1,none⟩=some (.pointer none):=by rw[World.cell?_setCell_other _ _ _ _ (by intro q;cases q)];exact B.c1
  have t0:tag ps=0:=by
   by_cases q:tag ps=0
   ·exact q
   ·have:=q2 ps q;omega
  have d0:dt ps=0:=by
   by_cases q:dt ps=0
   ·exact q
   ·have:=(q4 ps q).1;omega
  have hb:∀ g,g≠ps→((W.setCell ⟨ps,0,none⟩ (.pointer (some ⟨ph,0,none⟩))).setCell ⟨ps,1,none⟩ (.pointer (some ⟨pd,0,none⟩))).heap[g]?=W.heap[g]?:=fun g hne=>by rw[setCell_else _ _ _ _ _ hne,setCell_else _ _ _ _ _ hne]
  have hsz:W.heap.size≤((W.setCell ⟨ps,0,none⟩ (.pointer (some ⟨ph,0,none⟩))).setCell ⟨ps,1,none⟩ (.pointer (some ⟨pd,0,none⟩))).heap.size:=by rw[World.size_setCell,World.size_setCell];exact Nat.le_refl _
  refine ⟨ph,pd,tag,dt,H,C,{ c0:=?_,c1:=?_,c2:=?_,fz:=fun o ho=>?_,he:=q1.samew hsz (fun g e=>hb g (by rintro rfl;exact e t0)),dc:=DRaw.same q3 hsz (fun g e=>hb g (by rintro rfl;exact e d0)),rg:=.inl ⟨rfl,rfl⟩,wl:=fun i=>by simp,p1:=⟨t0,d0,fun q=>by cases q⟩,p2:=fun g e=>?_,p3:=fun g e=>by cases e },⟨k.os,k.tape,k.output,Nat.le_trans k.size hsz,fun g hg hn=>?_⟩,fun g e=>?_⟩
  ·rw[World.cell?_setCell_other _ _ _ _ (by intro q;cases q)];exact e0
  ·exact World.cell?_setCell_same' _ ⟨ps,1,none⟩ _ (by rw[e1];rfl)
  ·rw[World.cell?_setCell_other _ _ _ _ (by intro q;cases q),World.cell?_setCell_other _ _ _ _ (by intro q;cases q)];exact B.c2
  ·rw[setCell_froz,setCell_froz];exact B.fz o ho
  ·by_cases q:dt g=0
   ·exact q
   ·exact absurd (q4 g q).2 e
  ·rw[hb g (fun q=>hn (by rw[q];exact List.mem_singleton.2 rfl))]
   exact k.block g hg
  ·by_cases r1:g=ps
   ·exact .inl r1
   ·refine .inr ?_
    by_cases r2:tag g=0
    ·by_cases r3:dt g=0
     ·exact absurd (zero_ownS r1 r2 r3 (fun q=>by cases q)) e
     ·exact (q4 g r3).1
    ·exact q2 g r2
def opC (on dd A B Cc r v:Int) (raw wv:Nat) (dv:Value):Array Value:=#[.int .i64 on,.int .i64 dd,.int .i64 A,.int .i64 B,.int .i64 Cc,.int .i64 r,.int .i64 v,.int .u64 (raw:Nat),.int .u64 (wv:Nat),dv]
structure LimbO (ps ph pd b:Nat) (on dd A B Cc r v:Int) (raw wv:Nat) (dv:Value) (W:World):Prop where
 c0:W.cell? ⟨ps,0,none⟩=some (.pointer (some ⟨ph,0,none⟩))
 c1:W.cell? ⟨ps,1,none⟩=some (.pointer (some ⟨pd,0,none⟩))
 m0:W.cell? ⟨b,0,none⟩=some (.int .i64 on)
 m1:W.cell? ⟨b,1,none⟩=some (.int .i64 dd)
 m2:W.cell? ⟨b,2,none⟩=some (.int .i64 A)
 m3:W.cell? ⟨b,3,none⟩=some (.int .i64 B)
 m4:W.cell? ⟨b,4,none⟩=some (.int .i64 Cc)
 m5:W.cell? ⟨b,5,none⟩=some (.int .i64 r)
 m6:W.cell? ⟨b,6,none⟩=some (.int .i64 v)
 m7:W.cell? ⟨b,7,none⟩=some (.int .u64 (raw:Nat))
 m8:W.cell? ⟨b,8,none⟩=some (.int .u64 (wv:Nat))
 m9:W.cell? ⟨b,9,none⟩=some dv
theorem LimbO.like {ps ph pd b:Nat}{on dd A B Cc r v:Int}{raw wv:Nat}{dv:Value}{W W':World} (h:LimbO ps ph pd b on dd A B Cc r v raw wv dv W) (e1:W'.heap[ps]?=W.heap[ps]?) (e2:W'.heap[b]?=W.heap[b]?):LimbO ps ph pd b on dd A B Cc r v raw wv dv W':=
 ⟨(cell_like e1 _).trans h.c0,(cell_like e1 _).trans h.c1,(cell_like e2 _).trans h.m0,(cell_like e2 _).trans h.m1,(cell_like e2 _).trans h.m2,(cell_like e2 _).trans h.m3,(cell_like e2 _).trans h.m4,(cell_like e2 _).trans h.m5,(cell_like e2 _).trans h.m6,(cell_like e2 _).trans h.m7,(cell_like e2 _).trans h.m8,(cell_like e2 _).trans h.m9⟩
theorem LimbO.new {w:World}{ps ph pd:Nat} (c0:w.cell? ⟨ps,0,none⟩=some (.pointer (some ⟨ph,0,none⟩))) (c1:w.cell? ⟨ps,1,none⟩=some (.pointer (some ⟨pd,0,none⟩))) (on dd A B Cc r v:Int) (raw wv:Nat) (dv:Value):
  LimbO ps ph pd w.heap.size on dd A B Cc r v raw wv dv (w.alloc (.cells (opC on dd A B Cc r v raw wv dv) 44)):=by
 have hpl:ps<w.heap.size:=block_lt_of_cell c0
 have hb:Below w.heap.size w (w.alloc (.cells (opC on dd A B Cc r v raw wv dv) 44)):=(Below.refl _ _).alloc (Nat.le_refl _) _
 have hx:∀ i u,(opC on dd A B Cc r v raw wv dv)[i]?=some u→(w.alloc (.cells (opC on dd A B Cc r v raw wv dv) 44)).cell? ⟨w.heap.size,i,none⟩=some u:=fun i u e=>by
  simp only[World.cell?,heap_alloc_new]
  exact e
 exact ⟨(hb.cell (p:=⟨ps,0,none⟩) hpl).trans c0,(hb.cell (p:=⟨ps,1,none⟩) hpl).trans c1,hx 0 _ rfl,hx 1 _ rfl,hx 2 _ rfl,hx 3 _ rfl,hx 4 _ rfl,hx 5 _ rfl,hx 6 _ rfl,hx 7 _ rfl,hx 8 _ rfl,hx 9 _ rfl⟩
theorem plays_alloc {w:World}{ps ph pd:Nat} (on A B Cc r v:Int) (raw wv:Nat) (dv:Value) (c0:w.cell? ⟨ps,0,none⟩=some (.pointer (some ⟨ph,0,none⟩))) (c1:w.cell? ⟨ps,1,none⟩=some (.pointer (some ⟨pd,0,none⟩))) {G1:Nat→Nat→World→Prop}{G2:Nat→Nat→World→Prop}{R:World→Prop}
  (H25:∀ W,Still (w.alloc (.cells (opC on 1 A B Cc r v raw wv dv) 44)) W→Calls Tryz.prog 16 #[.pointer (some ⟨ph,0,none⟩),.int .i64 A,.int .i64 B,.int .i64 Cc] W fun e w'=>∃ y x:Nat,e=.returned (.tuple #[.int .u64 (y:Nat),.int .i64 (x:Nat)])∧w'.heap[ps]?=W.heap[ps]?∧w'.heap[w.heap.size]?=W.heap[w.heap.size]?∧G1 y x w')
  (H72:∀ W W' y x,G1 y x W→Still W W'→Calls Tryz.prog 44 #[.pointer (some ⟨pd,0,none⟩),.int .i64 A,.int .i64 B,.int .i64 Cc] W' fun e w'=>e=.returned (.tuple #[.int .u64 (y:Nat),.int .i64 (x:Nat)])∧w'.heap[ps]?=W'.heap[ps]?∧w'.heap[w.heap.size]?=W'.heap[w.heap.size]?∧G2 y x w')
  (H73:∀ W W' y x,G2 y x W→Still W W'→Calls Tryz.prog 45 #[.pointer (some ⟨ps,0,none⟩),.int .u64 (y:Nat)] W' fun e w'=>e=.returned (.tuple #[])∧R w'):
  Calls Tryz.prog 17 #[.pointer (some ⟨ps,0,none⟩),.agg (opC on 1 A B Cc r v raw wv dv)] w fun e w'=>e=.returned (.bool true)∧R w':=by
 have L0:=LimbO.new c0 c1 on 1 A B Cc r v raw wv dv
 have A1:Hid (∀ W,Still (w.alloc (.cells (opC on 1 A B Cc r v raw wv dv) 44)) W→Calls Tryz.prog 16 #[.pointer (some ⟨ph,0,none⟩),.int .i64 A,.int .i64 B,.int .i64 Cc] W fun e w'=>∃ y x:Nat,e=.returned (.tuple #[.int .u64 (y:Nat),.int .i64 (x:Nat)])∧LimbO ps ph pd w.heap.size on 1 A B Cc r v raw wv dv w'∧Hid (G1 y x w')):=hide (fun W s=>(H25 W s).mono fun e w' ⟨y,x,q1,q2,q3,q4⟩=>⟨y,x,q1,L0.like (by rw[q2,s.heap]) (by rw[q3,s.heap]),hide q4⟩)
 have A2:Hid (∀ W W' y x,LimbO ps ph pd w.heap.size on 1 A B Cc r v raw wv dv W→Hid (G1 y x W)→Still W W'→Calls Tryz.prog 44 #[.pointer (some ⟨pd,0,none⟩),.int .i64 A,.int .i64 B,.int .i64 Cc] W' fun e w'=>e=.returned (.tuple #[.int .u64 (y:Nat),.int .i64 (x:Nat)])∧LimbO ps ph pd w.heap.size on 1 A B Cc r v raw wv dv w'∧Hid (G2 y x w')):=hide (fun W W' y x L g s=>(H72 W W' y x (unhide g) s).mono fun e w' ⟨q1,q2,q3,q4⟩=>⟨q1,L.like (by rw[q2,s.heap]) (by rw[q3,s.heap]),hide q4⟩)
 have A3:=hide H73
 have HS0:=hide (Still.refl (w.alloc (.cells (opC on 1 A B Cc r v raw wv dv) 44)))
 have HL0:=hide L0
 obtain ⟨c0,c1,m0,m1,m2,m3,m4,m5,m6,m7,m8,m9⟩:=L0
 clear H25 H72 H73
 unfold opC at *
 generalize hW:World.alloc w _=W0 at *
 generalize hB:w.heap.size=b at *
 go_enter Tryz.func17,Tryz.ntmps17
 go_wp2_with fail
 (try rw[hW]);(try rw[hB])
 go_wp2_with fail
 go_region_held3 (fun W=>W.cell? ⟨ps,0,none⟩=some (.pointer (some ⟨ph,0,none⟩))∧W.cell? ⟨b,2,none⟩=some (.int .i64 A)∧W.cell? ⟨b,3,none⟩=some (.int .i64 B)∧W.cell? ⟨b,4,none⟩=some (.int .i64 Cc)) (go_keep) (first|(go_at_call 16;refine (unhide A1 _ ((unhide HS0).drew _)).mono ?_;rintro e w2 ⟨y,x,rfl,⟨c0,c1,m0,m1,m2,m3,m4,m5,m6,m7,m8,m9⟩,g1⟩))
 all_goals go_wp2_with fail
 have HL2:Hid (LimbO ps ph pd b on 1 A B Cc r v raw wv dv w2):=hide ⟨c0,c1,m0,m1,m2,m3,m4,m5,m6,m7,m8,m9⟩
 go_region_held3 (fun W=>W.cell? ⟨ps,1,none⟩=some (.pointer (some ⟨pd,0,none⟩))∧W.cell? ⟨b,2,none⟩=some (.int .i64 A)∧W.cell? ⟨b,3,none⟩=some (.int .i64 B)∧W.cell? ⟨b,4,none⟩=some (.int .i64 Cc)) (go_keep) (first|(go_at_call 44;refine (unhide A2 _ _ y x (unhide HL2) g1 (by first|exact Still.refl _|exact (Still.refl _).drew _)).mono ?_;rintro e w3 ⟨rfl,⟨c0,c1,m0,m1,m2,m3,m4,m5,m6,m7,m8,m9⟩,g2⟩))
 all_goals go_wp2_with fail
 all_goals refine (unhide A3 _ _ y x (unhide g2) (by first|exact Still.refl _|exact (Still.refl _).drew _)).mono ?_
 all_goals rintro e w4 ⟨rfl,hR⟩
 all_goals have HR4:=hide hR
 all_goals clear hR
 all_goals go_wp2_with fail
 all_goals go_ret
 all_goals exact ⟨by simp,unhide HR4⟩
theorem fields_setbytes {w:World}{ps ph pd ref:Nat} (on A B Cc r v:Int) (raw wv:Nat) (dv:Value) (c0:w.cell? ⟨ps,0,none⟩=some (.pointer (some ⟨ph,0,none⟩))) (c1:w.cell? ⟨ps,1,none⟩=some (.pointer (some ⟨pd,0,none⟩))) {G0:Value→World→Prop}{G1 G2:Int→World→Prop}{R:World→Prop}
  (H109:∀ W,Still (w.alloc (.cells (opC on 6 A B Cc r v raw wv dv) 44)) W→Calls Tryz.prog 102 #[.pointer (some ⟨ps,0,none⟩),.int .i64 r,.int .u64 (raw:Nat)] W fun e w'=>e=.returned (.int .u64 (ref:Nat))∧Still W w')
  (H94:∀ W,Still (w.alloc (.cells (opC on 6 A B Cc r v raw wv dv) 44)) W→Calls Tryz.prog 107 #[dv] W fun e w'=>∃ y,e=.returned y∧w'.heap[ps]?=W.heap[ps]?∧w'.heap[w.heap.size]?=W.heap[w.heap.size]?∧G0 y w')
  (HP:∀ W W' y,G0 y W→Still W W'→Calls Tryz.prog 37 #[.pointer (some ⟨ph,0,none⟩),.int .u64 (ref:Nat),.int .i64 A,y] W' fun e w'=>∃ x,e=.returned (.int .i64 x)∧w'.heap[ps]?=W'.heap[ps]?∧w'.heap[w.heap.size]?=W'.heap[w.heap.size]?∧G1 x w')
  (HD:∀ W W' x,G1 x W→Still W W'→Calls Tryz.prog 108 #[.pointer (some ⟨pd,0,none⟩),.int .u64 (ref:Nat),.int .i64 A,dv] W' fun e w'=>e=.returned (.int .i64 x)∧w'.heap[ps]?=W'.heap[ps]?∧w'.heap[w.heap.size]?=W'.heap[w.heap.size]?∧G2 x w')
  (HR:∀ W W' x,G2 x W→Still W W'→R W'):
  Calls Tryz.prog 46 #[.pointer (some ⟨ps,0,none⟩),.agg (opC on 6 A B Cc r v raw wv dv)] w fun e w'=>e=.returned (.bool true)∧R w':=by
 have L0:=LimbO.new c0 c1 on 6 A B Cc r v raw wv dv
 have A0:Hid (∀ W,Still (w.alloc (.cells (opC on 6 A B Cc r v raw wv dv) 44)) W→Calls Tryz.prog 102 #[.pointer (some ⟨ps,0,none⟩),.int .i64 r,.int .u64 (raw:Nat)] W fun e w'=>e=.returned (.int .u64 (ref:Nat))∧LimbO ps ph pd w.heap.size on 6 A B Cc r v raw wv dv w'∧Hid (Still (w.alloc (.cells (opC on 6 A B Cc r v raw wv dv) 44)) w')):=hide (fun W s=>(H109 W s).mono fun e w' ⟨q1,q2⟩=>⟨q1,L0.like (by rw[q2.heap,s.heap]) (by rw[q2.heap,s.heap]),hide (s.trans q2)⟩)
 have A1:Hid (∀ W,Still (w.alloc (.cells (opC on 6 A B Cc r v raw wv dv) 44)) W→Calls Tryz.prog 107 #[dv] W fun e w'=>∃ y,e=.returned y∧LimbO ps ph pd w.heap.size on 6 A B Cc r v raw wv dv w'∧Hid (G0 y w'∧LimbO ps ph pd w.heap.size on 6 A B Cc r v raw wv dv w')):=hide (fun W s=>(H94 W s).mono fun e w' ⟨y,q1,q2,q3,q4⟩=>by
  have L:=L0.like (W':=w') (by rw[q2,s.heap]) (by rw[q3,s.heap])
  exact ⟨y,q1,L,hide ⟨q4,L⟩⟩)
 have A1b:Hid (∀ W W' y,Hid (G0 y W∧LimbO ps ph pd w.heap.size on 6 A B Cc r v raw wv dv W)→Still W W'→Calls Tryz.prog 37 #[.pointer (some ⟨ph,0,none⟩),.int .u64 (ref:Nat),.int .i64 A,y] W' fun e w'=>∃ x,e=.returned (.int .i64 x)∧LimbO ps ph pd w.heap.size on 6 A B Cc r v raw wv dv w'∧Hid (G1 x w')):=hide (fun W W' y g s=>(HP W W' y (unhide g).1 s).mono fun e w' ⟨x,q1,q2,q3,q4⟩=>⟨x,q1,(unhide g).2.like (by rw[q2,s.heap]) (by rw[q3,s.heap]),hide q4⟩)
 have A2:Hid (∀ W W' x,LimbO ps ph pd w.heap.size on 6 A B Cc r v raw wv dv W→Hid (G1 x W)→Still W W'→Calls Tryz.prog 108 #[.pointer (some ⟨pd,0,none⟩),.int .u64 (ref:Nat),.int .i64 A,dv] W' fun e w'=>e=.returned (.int .i64 x)∧LimbO ps ph pd w.heap.size on 6 A B Cc r v raw wv dv w'∧Hid (G2 x w')):=hide (fun W W' x L g s=>(HD W W' x (unhide g) s).mono fun e w' ⟨q1,q2,q3,q4⟩=>⟨q1,L.like (by rw[q2,s.heap]) (by rw[q3,s.heap]),hide q4⟩)
 have A3:=hide HR
 have HS0:=hide (Still.refl (w.alloc (.cells (opC on 6 A B Cc r v raw wv dv) 44)))
 obtain ⟨c0,c1,m0,m1,m2,m3,m4,m5,m6,m7,m8,m9⟩:=L0
 clear H109 H94 HP HD HR
 unfold opC at *
 generalize hW:World.alloc w _=W0 at *
 generalize hB:w.heap.size=b at *
 go_enter Tryz.func46,Tryz.ntmps46
 go_wp2_with fail
 (try rw[hW]);(try rw[hB])
 go_wp2_with fail
 refine (unhide A0 _ (by first|exact unhide HS0|exact (unhide HS0).drew _)).mono ?_
 rintro e w1 ⟨rfl,⟨c0,c1,m0,m1,m2,m3,m4,m5,m6,m7,m8,m9⟩,HS1⟩
 go_wp2_with fail
 go_region_held3 (fun W=>W.cell? ⟨ps,0,none⟩=some (.pointer (some ⟨ph,0,none⟩))∧W.cell? ⟨b,2,none⟩=some (.int .i64 A)∧W.cell? ⟨b,9,none⟩=some dv) (go_keep) (first|(go_at_call 107;refine (unhide A1 _ (by first|exact unhide HS1|exact (unhide HS1).drew _)).mono ?_;rintro e w2 ⟨y,rfl,⟨c0,c1,m0,m1,m2,m3,m4,m5,m6,m7,m8,m9⟩,g0⟩)|(go_at_call 37;refine (unhide A1b _ _ y g0 (by first|exact Still.refl _|exact (Still.refl _).drew _)).mono ?_;rintro e w3 ⟨x,rfl,⟨c0,c1,m0,m1,m2,m3,m4,m5,m6,m7,m8,m9⟩,g1⟩))
 all_goals go_wp2_with fail
 have HL2:Hid (LimbO ps ph pd b on 6 A B Cc r v raw wv dv w3):=hide ⟨c0,c1,m0,m1,m2,m3,m4,m5,m6,m7,m8,m9⟩
 go_region_held3 (fun W=>W.cell? ⟨ps,1,none⟩=some (.pointer (some ⟨pd,0,none⟩))∧W.cell? ⟨b,2,none⟩=some (.int .i64 A)∧W.cell? ⟨b,9,none⟩=some dv) (go_keep) (first|(go_at_call 108;refine (unhide A2 _ _ x (unhide HL2) g1 (by first|exact Still.refl _|exact (Still.refl _).drew _)).mono ?_;rintro e w4 ⟨rfl,⟨c0,c1,m0,m1,m2,m3,m4,m5,m6,m7,m8,m9⟩,g2⟩))
 all_goals go_wp2_with fail
 all_goals go_ret
 all_goals exact ⟨by simp,unhide A3 _ _ x (unhide g2) (by first|exact Still.refl _|exact (Still.refl _).drew _)⟩
theorem fields_bytes {w:World}{ps ph pd ref val:Nat} (on A B Cc r v:Int) (raw wv:Nat) (dv:Value) (c0:w.cell? ⟨ps,0,none⟩=some (.pointer (some ⟨ph,0,none⟩))) (c1:w.cell? ⟨ps,1,none⟩=some (.pointer (some ⟨pd,0,none⟩))) {G1:Value→Int→World→Prop}{G2:Value→Value→Int→World→Prop}{R:World→Prop}
  (H109:∀ W,Still (w.alloc (.cells (opC on 5 A B Cc r v raw wv dv) 44)) W→Calls Tryz.prog 102 #[.pointer (some ⟨ps,0,none⟩),.int .i64 r,.int .u64 (raw:Nat)] W fun e w'=>e=.returned (.int .u64 (ref:Nat))∧Still W w')
  (HP:∀ W,Still (w.alloc (.cells (opC on 5 A B Cc r v raw wv dv) 44)) W→Calls Tryz.prog 33 #[.pointer (some ⟨ph,0,none⟩),.int .u64 (ref:Nat),.int .i64 A,.int .i64 B] W fun e w'=>∃ y x,e=.returned (.tuple #[y,.int .i64 x])∧w'.heap[ps]?=W.heap[ps]?∧w'.heap[w.heap.size]?=W.heap[w.heap.size]?∧G1 y x w')
  (HD:∀ W W' y x,G1 y x W→Still W W'→Calls Tryz.prog 106 #[.pointer (some ⟨pd,0,none⟩),.int .u64 (ref:Nat),.int .i64 A,.int .i64 B] W' fun e w'=>∃ z,e=.returned (.tuple #[z,.int .i64 x])∧w'.heap[ps]?=W'.heap[ps]?∧w'.heap[w.heap.size]?=W'.heap[w.heap.size]?∧G2 y z x w')
  (H73:∀ W W' y z x,G2 y z x W→Still W W'→Calls Tryz.prog 34 #[y,z] W' fun e w'=>e=.returned (.bool true)∧R w'):
  Calls Tryz.prog 46 #[.pointer (some ⟨ps,0,none⟩),.agg (opC on 5 A B Cc r v raw wv dv)] w fun e w'=>e=.returned (.bool true)∧R w':=by
 have L0:=LimbO.new c0 c1 on 5 A B Cc r v raw wv dv
 have A0:Hid (∀ W,Still (w.alloc (.cells (opC on 5 A B Cc r v raw wv dv) 44)) W→Calls Tryz.prog 102 #[.pointer (some ⟨ps,0,none⟩),.int .i64 r,.int .u64 (raw:Nat)] W fun e w'=>e=.returned (.int .u64 (ref:Nat))∧LimbO ps ph pd w.heap.size on 5 A B Cc r v raw wv dv w'∧Hid (Still (w.alloc (.cells (opC on 5 A B Cc r v raw wv dv) 44)) w')):=hide (fun W s=>(H109 W s).mono fun e w' ⟨q1,q2⟩=>⟨q1,L0.like (by rw[q2.heap,s.heap]) (by rw[q2.heap,s.heap]),hide (s.trans q2)⟩)
 have A1:Hid (∀ W,Still (w.alloc (.cells (opC on 5 A B Cc r v raw wv dv) 44)) W→Calls Tryz.prog 33 #[.pointer (some ⟨ph,0,none⟩),.int .u64 (ref:Nat),.int .i64 A,.int .i64 B] W fun e w'=>∃ y x,e=.returned (.tuple #[y,.int .i64 x])∧LimbO ps ph pd w.heap.size on 5 A B Cc r v raw wv dv w'∧Hid (G1 y x w')):=hide (fun W s=>(HP W s).mono fun e w' ⟨y,x,q1,q2,q3,q4⟩=>⟨y,x,q1,L0.like (by rw[q2,s.heap]) (by rw[q3,s.heap]),hide q4⟩)
 have A2:Hid (∀ W W' y x,LimbO ps ph pd w.heap.size on 5 A B Cc r v raw wv dv W→Hid (G1 y x W)→Still W W'→Calls Tryz.prog 106 #[.pointer (some ⟨pd,0,none⟩),.int .u64 (ref:Nat),.int .i64 A,.int .i64 B] W' fun e w'=>∃ z,e=.returned (.tuple #[z,.int .i64 x])∧LimbO ps ph pd w.heap.size on 5 A B Cc r v raw wv dv w'∧Hid (G2 y z x w')):=hide (fun W W' y x L g s=>(HD W W' y x (unhide g) s).mono fun e w' ⟨z,q1,q2,q3,q4⟩=>⟨z,q1,L.like (by rw[q2,s.heap]) (by rw[q3,s.heap]),hide q4⟩)
 have A3:=hide H73
 have HS0:=hide (Still.refl (w.alloc (.cells (opC on 5 A B Cc r v raw wv dv) 44)))
 obtain ⟨c0,c1,m0,m1,m2,m3,m4,m5,m6,m7,m8,m9⟩:=L0
 clear H109 HP HD H73
 unfold opC at *
 generalize hW:World.alloc w _=W0 at *
 generalize hB:w.heap.size=b at *
 go_enter Tryz.func46,Tryz.ntmps46
 go_wp2_with fail
 (try rw[hW]);(try rw[hB])
 go_wp2_with fail
 refine (unhide A0 _ (by first|exact unhide HS0|exact (unhide HS0).drew _)).mono ?_
 rintro e w1 ⟨rfl,⟨c0,c1,m0,m1,m2,m3,m4,m5,m6,m7,m8,m9⟩,HS1⟩
 go_wp2_with fail
 go_region_held3 (fun W=>W.cell? ⟨ps,0,none⟩=some (.pointer (some ⟨ph,0,none⟩))∧W.cell? ⟨b,2,none⟩=some (.int .i64 A)∧W.cell? ⟨b,3,none⟩=some (.int .i64 B)) (go_keep) (first|(go_at_call 33;refine (unhide A1 _ (by first|exact unhide HS1|exact (unhide HS1).drew _)).mono ?_;rintro e w2 ⟨y,x,rfl,⟨c0,c1,m0,m1,m2,m3,m4,m5,m6,m7,m8,m9⟩,g1⟩))
 all_goals go_wp2_with fail
 have HL2:Hid (LimbO ps ph pd b on 5 A B Cc r v raw wv dv w2):=hide ⟨c0,c1,m0,m1,m2,m3,m4,m5,m6,m7,m8,m9⟩
 go_region_held3 (fun W=>W.cell? ⟨ps,1,none⟩=some (.pointer (some ⟨pd,0,none⟩))∧W.cell? ⟨b,2,none⟩=some (.int .i64 A)∧W.cell? ⟨b,3,none⟩=some (.int .i64 B)) (go_keep) (first|(go_at_call 106;refine (unhide A2 _ _ y x (unhide HL2) g1 (by first|exact Still.refl _|exact (Still.refl _).drew _)).mono ?_;rintro e w3 ⟨z,rfl,⟨c0,c1,m0,m1,m2,m3,m4,m5,m6,m7,m8,m9⟩,g2⟩))
 all_goals go_wp2_with fail
 all_goals refine (unhide A3 _ _ y z x (unhide g2) (by first|exact Still.refl _|exact (Still.refl _).drew _)).mono ?_
 all_goals rintro e w4 ⟨rfl,hR⟩
 all_goals have HR4:=hide hR
 all_goals clear hR
 all_goals go_wp2_with fail
 all_goals go_ret
 all_goals exact ⟨by simp,unhide HR4⟩
theorem fields_object {w:World}{ps ph pd ref val:Nat} (on A B Cc r v:Int) (raw wv:Nat) (dv:Value) (c0:w.cell? ⟨ps,0,none⟩=some (.pointer (some ⟨ph,0,none⟩))) (c1:w.cell? ⟨ps,1,none⟩=some (.pointer (some ⟨pd,0,none⟩))) {G1 G2:Int→Int→Int→Int→World→Prop}{R:World→Prop}
  (H109:∀ W,Still (w.alloc (.cells (opC on 2 A B Cc r v raw wv dv) 44)) W→Calls Tryz.prog 102 #[.pointer (some ⟨ps,0,none⟩),.int .i64 r,.int .u64 (raw:Nat)] W fun e w'=>e=.returned (.int .u64 (ref:Nat))∧Still W w')
  (HP:∀ W,Still (w.alloc (.cells (opC on 2 A B Cc r v raw wv dv) 44)) W→Calls Tryz.prog 18 #[.pointer (some ⟨ph,0,none⟩),.int .u64 (ref:Nat)] W fun e w'=>∃ y z u x:Int,e=.returned (.tuple #[.int .i64 y,.int .i64 z,.int .i64 u,.int .i64 x])∧w'.heap[ps]?=W.heap[ps]?∧w'.heap[w.heap.size]?=W.heap[w.heap.size]?∧G1 y z u x w')
  (HD:∀ W W' y z u x,G1 y z u x W→Still W W'→Calls Tryz.prog 103 #[.pointer (some ⟨pd,0,none⟩),.int .u64 (ref:Nat)] W' fun e w'=>e=.returned (.tuple #[.int .i64 y,.int .i64 z,.int .i64 u,.int .i64 x])∧w'.heap[ps]?=W'.heap[ps]?∧w'.heap[w.heap.size]?=W'.heap[w.heap.size]?∧G2 y z u x w')
  (HR:∀ W W' y z u x,G2 y z u x W→Still W W'→R W'):
  Calls Tryz.prog 46 #[.pointer (some ⟨ps,0,none⟩),.agg (opC on 2 A B Cc r v raw wv dv)] w fun e w'=>e=.returned (.bool true)∧R w':=by
 have L0:=LimbO.new c0 c1 on 2 A B Cc r v raw wv dv
 have A0:Hid (∀ W,Still (w.alloc (.cells (opC on 2 A B Cc r v raw wv dv) 44)) W→Calls Tryz.prog 102 #[.pointer (some ⟨ps,0,none⟩),.int .i64 r,.int .u64 (raw:Nat)] W fun e w'=>e=.returned (.int .u64 (ref:Nat))∧LimbO ps ph pd w.heap.size on 2 A B Cc r v raw wv dv w'∧Hid (Still (w.alloc (.cells (opC on 2 A B Cc r v raw wv dv) 44)) w')):=hide (fun W s=>(H109 W s).mono fun e w' ⟨q1,q2⟩=>⟨q1,L0.like (by rw[q2.heap,s.heap]) (by rw[q2.heap,s.heap]),hide (s.trans q2)⟩)
 have A1:Hid (∀ W,Still (w.alloc (.cells (opC on 2 A B Cc r v raw wv dv) 44)) W→Calls Tryz.prog 18 #[.pointer (some ⟨ph,0,none⟩),.int .u64 (ref:Nat)] W fun e w'=>∃ y z u x:Int,e=.returned (.tuple #[.int .i64 y,.int .i64 z,.int .i64 u,.int .i64 x])∧LimbO ps ph pd w.heap.size on 2 A B Cc r v raw wv dv w'∧Hid (G1 y z u x w')):=hide (fun W s=>(HP W s).mono fun e w' ⟨y,z,u,x,q1,q2,q3,q4⟩=>⟨y,z,u,x,q1,L0.like (by rw[q2,s.heap]) (by rw[q3,s.heap]),hide q4⟩)
 have A2:Hid (∀ W W' y z u x,LimbO ps ph pd w.heap.size on 2 A B Cc r v raw wv dv W→Hid (G1 y z u x W)→Still W W'→Calls Tryz.prog 103 #[.pointer (some ⟨pd,0,none⟩),.int .u64 (ref:Nat)] W' fun e w'=>e=.returned (.tuple #[.int .i64 y,.int .i64 z,.int .i64 u,.int .i64 x])∧LimbO ps ph pd w.heap.size on 2 A B Cc r v raw wv dv w'∧Hid (G2 y z u x w')):=hide (fun W W' y z u x L g s=>(HD W W' y z u x (unhide g) s).mono fun e w' ⟨q1,q2,q3,q4⟩=>⟨q1,L.like (by rw[q2,s.heap]) (by rw[q3,s.heap]),hide q4⟩)
 have A3:=hide HR
 have HS0:=hide (Still.refl (w.alloc (.cells (opC on 2 A B Cc r v raw wv dv) 44)))
 obtain ⟨c0,c1,m0,m1,m2,m3,m4,m5,m6,m7,m8,m9⟩:=L0
 clear H109 HP HD HR
 unfold opC at *
 generalize hW:World.alloc w _=W0 at *
 generalize hB:w.heap.size=b at *
 go_enter Tryz.func46,Tryz.ntmps46
 go_wp2_with fail
 (try rw[hW]);(try rw[hB])
 go_wp2_with fail
 refine (unhide A0 _ (by first|exact unhide HS0|exact (unhide HS0).drew _)).mono ?_
 rintro e w1 ⟨rfl,⟨c0,c1,m0,m1,m2,m3,m4,m5,m6,m7,m8,m9⟩,HS1⟩
 go_wp2_with fail
 refine (unhide A1 _ (by first|exact unhide HS1|exact (unhide HS1).drew _)).mono ?_
 rintro e w2 ⟨y,z,u,x,rfl,⟨c0,c1,m0,m1,m2,m3,m4,m5,m6,m7,m8,m9⟩,g1⟩
 have HL2:Hid (LimbO ps ph pd b on 2 A B Cc r v raw wv dv w2):=hide ⟨c0,c1,m0,m1,m2,m3,m4,m5,m6,m7,m8,m9⟩
 go_wp2_with fail
 refine (unhide A2 _ _ y z u x (unhide HL2) g1 (by first|exact Still.refl _|exact (Still.refl _).drew _)).mono ?_
 rintro e w3 ⟨rfl,⟨c0,c1,m0,m1,m2,m3,m4,m5,m6,m7,m8,m9⟩,g2⟩
 go_wp2_with fail
 all_goals go_ret
 all_goals exact ⟨by simp,unhide A3 _ _ y z u x (unhide g2) (by first|exact Still.refl _|exact (Still.refl _).drew _)⟩
theorem fields_get {w:World}{ps ph pd ref val:Nat} (on A B Cc r v:Int) (raw wv:Nat) (dv:Value) (c0:w.cell? ⟨ps,0,none⟩=some (.pointer (some ⟨ph,0,none⟩))) (c1:w.cell? ⟨ps,1,none⟩=some (.pointer (some ⟨pd,0,none⟩))) {G1 G2:Nat→Nat→World→Prop}{R:World→Prop}
  (H109:∀ W,Still (w.alloc (.cells (opC on 3 A B Cc r v raw wv dv) 44)) W→Calls Tryz.prog 102 #[.pointer (some ⟨ps,0,none⟩),.int .i64 r,.int .u64 (raw:Nat)] W fun e w'=>e=.returned (.int .u64 (ref:Nat))∧Still W w')
  (HP:∀ W,Still (w.alloc (.cells (opC on 3 A B Cc r v raw wv dv) 44)) W→Calls Tryz.prog 23 #[.pointer (some ⟨ph,0,none⟩),.int .u64 (ref:Nat),.int .i64 A] W fun e w'=>∃ y x:Nat,e=.returned (.tuple #[.int .u64 (y:Nat),.int .i64 (x:Nat)])∧w'.heap[ps]?=W.heap[ps]?∧w'.heap[w.heap.size]?=W.heap[w.heap.size]?∧G1 y x w')
  (HD:∀ W W' y x,G1 y x W→Still W W'→Calls Tryz.prog 104 #[.pointer (some ⟨pd,0,none⟩),.int .u64 (ref:Nat),.int .i64 A] W' fun e w'=>e=.returned (.tuple #[.int .u64 (y:Nat),.int .i64 (x:Nat)])∧w'.heap[ps]?=W'.heap[ps]?∧w'.heap[w.heap.size]?=W'.heap[w.heap.size]?∧G2 y x w')
  (H73:∀ W W' y x,G2 y x W→Still W W'→Calls Tryz.prog 45 #[.pointer (some ⟨ps,0,none⟩),.int .u64 (y:Nat)] W' fun e w'=>e=.returned (.tuple #[])∧R w'):
  Calls Tryz.prog 46 #[.pointer (some ⟨ps,0,none⟩),.agg (opC on 3 A B Cc r v raw wv dv)] w fun e w'=>e=.returned (.bool true)∧R w':=by
 have L0:=LimbO.new c0 c1 on 3 A B Cc r v raw wv dv
 have A0:Hid (∀ W,Still (w.alloc (.cells (opC on 3 A B Cc r v raw wv dv) 44)) W→Calls Tryz.prog 102 #[.pointer (some ⟨ps,0,none⟩),.int .i64 r,.int .u64 (raw:Nat)] W fun e w'=>e=.returned (.int .u64 (ref:Nat))∧LimbO ps ph pd w.heap.size on 3 A B Cc r v raw wv dv w'∧Hid (Still (w.alloc (.cells (opC on 3 A B Cc r v raw wv dv) 44)) w')):=hide (fun W s=>(H109 W s).mono fun e w' ⟨q1,q2⟩=>⟨q1,L0.like (by rw[q2.heap,s.heap]) (by rw[q2.heap,s.heap]),hide (s.trans q2)⟩)
 have A1:Hid (∀ W,Still (w.alloc (.cells (opC on 3 A B Cc r v raw wv dv) 44)) W→Calls Tryz.prog 23 #[.pointer (some ⟨ph,0,none⟩),.int .u64 (ref:Nat),.int .i64 A] W fun e w'=>∃ y x:Nat,e=.returned (.tuple #[.int .u64 (y:Nat),.int .i64 (x:Nat)])∧LimbO ps ph pd w.heap.size on 3 A B Cc r v raw wv dv w'∧Hid (G1 y x w')):=hide (fun W s=>(HP W s).mono fun e w' ⟨y,x,q1,q2,q3,q4⟩=>⟨y,x,q1,L0.like (by rw[q2,s.heap]) (by rw[q3,s.heap]),hide q4⟩)
 have A2:Hid (∀ W W' y x,LimbO ps ph pd w.heap.size on 3 A B Cc r v raw wv dv W→Hid (G1 y x W)→Still W W'→Calls Tryz.prog 104 #[.pointer (some ⟨pd,0,none⟩),.int .u64 (ref:Nat),.int .i64 A] W' fun e w'=>e=.returned (.tuple #[.int .u64 (y:Nat),.int .i64 (x:Nat)])∧LimbO ps ph pd w.heap.size on 3 A B Cc r v raw wv dv w'∧Hid (G2 y x w')):=hide (fun W W' y x L g s=>(HD W W' y x (unhide g) s).mono fun e w' ⟨q1,q2,q3,q4⟩=>⟨q1,L.like (by rw[q2,s.heap]) (by rw[q3,s.heap]),hide q4⟩)
 have A3:=hide H73
 have HS0:=hide (Still.refl (w.alloc (.cells (opC on 3 A B Cc r v raw wv dv) 44)))
 obtain ⟨c0,c1,m0,m1,m2,m3,m4,m5,m6,m7,m8,m9⟩:=L0
 clear H109 HP HD H73
 unfold opC at *
 generalize hW:World.alloc w _=W0 at *
 generalize hB:w.heap.size=b at *
 go_enter Tryz.func46,Tryz.ntmps46
 go_wp2_with fail
 (try rw[hW]);(try rw[hB])
 go_wp2_with fail
 refine (unhide A0 _ (by first|exact unhide HS0|exact (unhide HS0).drew _)).mono ?_
 rintro e w1 ⟨rfl,⟨c0,c1,m0,m1,m2,m3,m4,m5,m6,m7,m8,m9⟩,HS1⟩
 go_wp2_with fail
 go_region_held3 (fun W=>W.cell? ⟨ps,0,none⟩=some (.pointer (some ⟨ph,0,none⟩))∧W.cell? ⟨b,2,none⟩=some (.int .i64 A)) (go_keep) (first|(go_at_call 23;refine (unhide A1 _ (by first|exact unhide HS1|exact (unhide HS1).drew _)).mono ?_;rintro e w2 ⟨y,x,rfl,⟨c0,c1,m0,m1,m2,m3,m4,m5,m6,m7,m8,m9⟩,g1⟩))
 all_goals go_wp2_with fail
 have HL2:Hid (LimbO ps ph pd b on 3 A B Cc r v raw wv dv w2):=hide ⟨c0,c1,m0,m1,m2,m3,m4,m5,m6,m7,m8,m9⟩
 go_region_held3 (fun W=>W.cell? ⟨ps,1,none⟩=some (.pointer (some ⟨pd,0,none⟩))∧W.cell? ⟨b,2,none⟩=some (.int .i64 A)) (go_keep) (first|(go_at_call 104;refine (unhide A2 _ _ y x (unhide HL2) g1 (by first|exact Still.refl _|exact (Still.refl _).drew _)).mono ?_;rintro e w3 ⟨rfl,⟨c0,c1,m0,m1,m2,m3,m4,m5,m6,m7,m8,m9⟩,g2⟩))
 all_goals go_wp2_with fail
 all_goals refine (unhide A3 _ _ y x (unhide g2) (by first|exact Still.refl _|exact (Still.refl _).drew _)).mono ?_
 all_goals rintro e w4 ⟨rfl,hR⟩
 all_goals have HR4:=hide hR
 all_goals clear hR
 all_goals go_wp2_with fail
 all_goals go_ret
 all_goals exact ⟨by simp,unhide HR4⟩
theorem fields_set {w:World}{ps ph pd ref val:Nat} (on A B Cc r v:Int) (raw wv:Nat) (dv:Value) (c0:w.cell? ⟨ps,0,none⟩=some (.pointer (some ⟨ph,0,none⟩))) (c1:w.cell? ⟨ps,1,none⟩=some (.pointer (some ⟨pd,0,none⟩))) {G1 G2:Int→World→Prop}{R:World→Prop}
  (H109:∀ W,Still (w.alloc (.cells (opC on 4 A B Cc r v raw wv dv) 44)) W→Calls Tryz.prog 102 #[.pointer (some ⟨ps,0,none⟩),.int .i64 r,.int .u64 (raw:Nat)] W fun e w'=>e=.returned (.int .u64 (ref:Nat))∧Still W w')
  (H109b:∀ W,Still (w.alloc (.cells (opC on 4 A B Cc r v raw wv dv) 44)) W→Calls Tryz.prog 102 #[.pointer (some ⟨ps,0,none⟩),.int .i64 v,.int .u64 (wv:Nat)] W fun e w'=>e=.returned (.int .u64 (val:Nat))∧Still W w')
  (HP:∀ W,Still (w.alloc (.cells (opC on 4 A B Cc r v raw wv dv) 44)) W→Calls Tryz.prog 19 #[.pointer (some ⟨ph,0,none⟩),.int .u64 (ref:Nat),.int .i64 A,.int .u64 (val:Nat)] W fun e w'=>∃ x:Int,e=.returned (.int .i64 x)∧w'.heap[ps]?=W.heap[ps]?∧w'.heap[w.heap.size]?=W.heap[w.heap.size]?∧G1 x w')
  (HD:∀ W W' x,G1 x W→Still W W'→Calls Tryz.prog 105 #[.pointer (some ⟨pd,0,none⟩),.int .u64 (ref:Nat),.int .i64 A,.int .u64 (val:Nat)] W' fun e w'=>e=.returned (.int .i64 x)∧w'.heap[ps]?=W'.heap[ps]?∧w'.heap[w.heap.size]?=W'.heap[w.heap.size]?∧G2 x w')
  (HR:∀ W W' x,G2 x W→Still W W'→R W'):
  Calls Tryz.prog 46 #[.pointer (some ⟨ps,0,none⟩),.agg (opC on 4 A B Cc r v raw wv dv)] w fun e w'=>e=.returned (.bool true)∧R w':=by
 have L0:=LimbO.new c0 c1 on 4 A B Cc r v raw wv dv
 have A0:Hid (∀ W,Still (w.alloc (.cells (opC on 4 A B Cc r v raw wv dv) 44)) W→Calls Tryz.prog 102 #[.pointer (some ⟨ps,0,none⟩),.int .i64 r,.int .u64 (raw:Nat)] W fun e w'=>e=.returned (.int .u64 (ref:Nat))∧LimbO ps ph pd w.heap.size on 4 A B Cc r v raw wv dv w'∧Hid (Still (w.alloc (.cells (opC on 4 A B Cc r v raw wv dv) 44)) w')):=hide (fun W s=>(H109 W s).mono fun e w' ⟨q1,q2⟩=>⟨q1,L0.like (by rw[q2.heap,s.heap]) (by rw[q2.heap,s.heap]),hide (s.trans q2)⟩)
 have A0b:Hid (∀ W,Still (w.alloc (.cells (opC on 4 A B Cc r v raw wv dv) 44)) W→Calls Tryz.prog 102 #[.pointer (some ⟨ps,0,none⟩),.int .i64 v,.int .u64 (wv:Nat)] W fun e w'=>e=.returned (.int .u64 (val:Nat))∧LimbO ps ph pd w.heap.size on 4 A B Cc r v raw wv dv w'∧Hid (Still (w.alloc (.cells (opC on 4 A B Cc r v raw wv dv) 44)) w')):=hide (fun W s=>(H109b W s).mono fun e w' ⟨q1,q2⟩=>⟨q1,L0.like (by rw[q2.heap,s.heap]) (by rw[q2.heap,s.heap]),hide (s.trans q2)⟩)
 have A1:Hid (∀ W,Still (w.alloc (.cells (opC on 4 A B Cc r v raw wv dv) 44)) W→Calls Tryz.prog 19 #[.pointer (some ⟨ph,0,none⟩),.int .u64 (ref:Nat),.int .i64 A,.int .u64 (val:Nat)] W fun e w'=>∃ x:Int,e=.returned (.int .i64 x)∧LimbO ps ph pd w.heap.size on 4 A B Cc r v raw wv dv w'∧Hid (G1 x w')):=hide (fun W s=>(HP W s).mono fun e w' ⟨x,q1,q2,q3,q4⟩=>⟨x,q1,L0.like (by rw[q2,s.heap]) (by rw[q3,s.heap]),hide q4⟩)
 have A2:Hid (∀ W W' x,LimbO ps ph pd w.heap.size on 4 A B Cc r v raw wv dv W→Hid (G1 x W)→Still W W'→Calls Tryz.prog 105 #[.pointer (some ⟨pd,0,none⟩),.int .u64 (ref:Nat),.int .i64 A,.int .u64 (val:Nat)] W' fun e w'=>e=.returned (.int .i64 x)∧LimbO ps ph pd w.heap.size on 4 A B Cc r v raw wv dv w'∧Hid (G2 x w')):=hide (fun W W' x L g s=>(HD W W' x (unhide g) s).mono fun e w' ⟨q1,q2,q3,q4⟩=>⟨q1,L.like (by rw[q2,s.heap]) (by rw[q3,s.heap]),hide q4⟩)
 have A3:=hide HR
 have HS0:=hide (Still.refl (w.alloc (.cells (opC on 4 A B Cc r v raw wv dv) 44)))
 obtain ⟨c0,c1,m0,m1,m2,m3,m4,m5,m6,m7,m8,m9⟩:=L0
 clear H109 H109b HP HD HR
 unfold opC at *
 generalize hW:World.alloc w _=W0 at *
 generalize hB:w.heap.size=b at *
 go_enter Tryz.func46,Tryz.ntmps46
 go_wp2_with fail
 (try rw[hW]);(try rw[hB])
 go_wp2_with fail
 refine (unhide A0 _ (by first|exact unhide HS0|exact (unhide HS0).drew _)).mono ?_
 rintro e w1 ⟨rfl,⟨c0,c1,m0,m1,m2,m3,m4,m5,m6,m7,m8,m9⟩,HS1⟩
 go_wp2_with fail
 refine (unhide A0b _ (by first|exact unhide HS1|exact (unhide HS1).drew _)).mono ?_
 clear HS1
 rintro e w1' ⟨rfl,⟨c0,c1,m0,m1,m2,m3,m4,m5,m6,m7,m8,m9⟩,HS1⟩
 go_wp2_with fail
 go_region_held3 (fun W=>W.cell? ⟨ps,0,none⟩=some (.pointer (some ⟨ph,0,none⟩))∧W.cell? ⟨b,2,none⟩=some (.int .i64 A)) (go_keep) (first|(go_at_call 19;refine (unhide A1 _ (by first|exact unhide HS1|exact (unhide HS1).drew _)).mono ?_;rintro e w2 ⟨x,rfl,⟨c0,c1,m0,m1,m2,m3,m4,m5,m6,m7,m8,m9⟩,g1⟩))
 all_goals go_wp2_with fail
 have HL2:Hid (LimbO ps ph pd b on 4 A B Cc r v raw wv dv w2):=hide ⟨c0,c1,m0,m1,m2,m3,m4,m5,m6,m7,m8,m9⟩
 go_region_held3 (fun W=>W.cell? ⟨ps,1,none⟩=some (.pointer (some ⟨pd,0,none⟩))∧W.cell? ⟨b,2,none⟩=some (.int .i64 A)) (go_keep) (first|(go_at_call 105;refine (unhide A2 _ _ x (unhide HL2) g1 (by first|exact Still.refl _|exact (Still.refl _).drew _)).mono ?_;rintro e w3 ⟨rfl,⟨c0,c1,m0,m1,m2,m3,m4,m5,m6,m7,m8,m9⟩,g2⟩))
 all_goals go_wp2_with fail
 all_goals go_ret
 all_goals exact ⟨by simp,unhide A3 _ _ x (unhide g2) (by first|exact Still.refl _|exact (Still.refl _).drew _)⟩
end Go.Proofs.YtidfllgaeiopjabGreat
