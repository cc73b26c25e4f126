import Derived.Test.YtnfbaapbpgbgpaaGreatBlQ
import Derived.Test.YtnfbaapbpgbgpaaGreatPoolMath
namespace Go.Proofs.YtnfbaapbpgbgpaaGreat
open Go.ChangeShapes Go.WideShapes Go.ChangeAt Go.RowKit
set_option linter.unusedVariables false
set_option linter.unusedSimpArgs false
set_option maxRecDepth 100000
set_option maxHeartbeats 4000000
def NotAt (w1 wr:World) (nv:Value) (i:Nat) (f:Nat→Nat):Prop:=Below w1.heap.size w1 wr∧Line wr 5 nv i (fun j=>.int .u8 ((255-f j:Nat):Int))∧∀ g,nv.ownBlock=some g→w1.heap.size≤g
theorem Line.shape2 {w:World}{e:TypeId}{v:Value}{n:Nat}{f:Nat→Value} (h:Line w e v n f):∃ a cap,v=.slice a n cap:=by
 rcases h with ⟨rfl,rfl⟩|⟨g,cap,cur,rfl,_⟩
 ·exact ⟨_,_,rfl⟩
 ·exact ⟨_,_,rfl⟩
theorem Line.fn2 {w:World}{e:TypeId}{v:Value}{n:Nat}{f g:Nat→Value} (h:Line w e v n f) (hfg:∀ j,j<n→f j=g j):Line w e v n g:=by
 rcases h with h|⟨b,cap,cur,rfl,hg,h1,h2,h3,h4⟩
 ·exact .inl h
 ·exact .inr ⟨b,cap,cur,rfl,hg,h1,h2,h3,fun j hj=>by rw[h4 j hj,hfg j hj]⟩
theorem NotAt.more {w1 wr w':World}{nv v':Value}{i u:Nat}{f:Nat→Nat}{X:Obj} (h:NotAt w1 wr nv i f) (hu:255-f i=u) (hl:Line w' 5 v' (i+1) (fun j=>if j<i then (.int .u8 ((255-f j:Nat):Int)) else .int .u8 (u:Nat))) (hg:Grew 5 i (.int .u8 (u:Nat)) (wr.alloc X) w' nv v'):NotAt w1 w' v' (i+1) f:=by
 obtain ⟨k,l,o⟩:=h
 have ka:Below w1.heap.size w1 (wr.alloc X):=k.trans ((Below.refl _ _).alloc k.size X)
 have hsz:=ka.size
 refine ⟨⟨hg.os.trans ka.os,hg.tape.trans ka.tape,hg.output.trans ka.output,Nat.le_trans ka.size hg.size,fun b hb=>?_⟩,hl.fn2 fun j hj=>?_,fun b hb=>?_⟩
 ·rw[hg.other b (by omega) (fun e=>by have:=o b e;omega)]
  exact ka.block b hb
 ·by_cases q:j<i
  ·rw[if_pos q]
  ·rw[if_neg q,show j=i by omega,hu]
 ·rcases hg.how with ⟨g,cur,e1,e2,_⟩|⟨e1,e2,_⟩
  ·rw[e2] at hb
   cases hb
   exact o _ e1
  ·rw[e1] at hb
   cases hb
   exact hsz
theorem counts_walk {w W0:World}{a1 a2 a3:Option Addr}{c1 c2 c3 n3 nA nB m p1 p2 p3 p4:Nat}{at' Nn c:Int}{D:Bool}{f:Nat→Nat} (hA:nA≤4096) (hB:nB≤4096) (hm:m≤nA) (hf:∀ j,j<nA→f j<256)
  (hp1:p1+p2=p3) (hp2:p3+p4=8*nA) (hc1:-1≤c) (hc2:c≤1) (hD:decide (c=0)=D) (hcap:nA≤c1) (hcap2:c1≤9223372036854775807) (hnil:a1=none→c1=0)
  (hW0:w.alloc (.cells #[.slice a1 nA c1,.slice a2 nB c2,.int .i64 at',.int .i64 Nn,.slice a3 n3 c3] 25)=W0)
  {K:World→Prop} (KS:∀ W W',K W→Below W.heap.size W W'→K W')
  (KC:∀ W,K W→Cells5 W w.heap.size (.slice a1 nA c1) (.slice a2 nB c2) (.int .i64 at') (.int .i64 Nn) (.slice a3 n3 c3))
  (KA:∀ W,K W→∀ j,j<nA→∃ ab ao,a1=some ⟨ab,ao,none⟩∧W.cell? ⟨ab,ao+j,none⟩=some (.int .u8 (f j:Nat)))
  (H10:∀ W (x:Int),Calls Tryz.prog 10 #[.int .i64 x] W fun e w'=>e=.returned (.int .i64 x)∧Still W w')
  {G1:Nat→World→Prop}{G2:Nat→Nat→Value→World→Prop}{G3:Nat→Nat→Nat→Value→World→Prop}{G4 G:Nat→Nat→Nat→Nat→World→Prop}{GX GY GZ:Nat→Nat→Nat→Nat→Nat→World→Prop}{GS:Nat→Nat→Nat→Nat→Nat→World→Prop}{GT:Nat→Nat→Nat→Nat→Nat→Nat→World→Prop}{GE:Nat→Nat→World→Prop}{R:World→Prop}
  (A9:Calls Tryz.prog 9 #[.int .i64 262144] W0 fun e w'=>∃ ph:Nat,e=.returned (.tuple #[.pointer (some ⟨ph,0,none⟩),.int .i64 0])∧K w'∧G1 ph w')
  (A11a:∀ ph W W' nv,G1 ph W→NotAt W W' nv nA f→Calls Tryz.prog 11 #[.pointer (some ⟨ph,0,none⟩),.slice a1 nA c1] W' fun e w'=>∃ mx:Nat,e=.returned (.int .i64 ((mx:Int)+1))∧K w'∧G2 ph mx nv w')
  (A11b:∀ ph mx nv W,G2 ph mx nv W→Calls Tryz.prog 11 #[.pointer (some ⟨ph,0,none⟩),.slice a2 nB c2] W fun e w'=>∃ my:Nat,e=.returned (.int .i64 ((my:Int)+1))∧K w'∧G3 ph mx my nv w')
  (A11c:∀ ph mx my nv W,G3 ph mx my nv W→Calls Tryz.prog 11 #[.pointer (some ⟨ph,0,none⟩),nv] W fun e w'=>∃ mz:Nat,e=.returned (.int .i64 ((mz:Int)+1))∧K w'∧G4 ph mx my mz w')
  (A12:∀ ph mx my mz W,G4 ph mx my mz W→Calls Tryz.prog 12 #[.pointer (some ⟨ph,0,none⟩),.slice a3 n3 c3] W fun e w'=>e=.returned (.tuple #[])∧K w'∧G ph mx my mz w')
  (A19:∀ W,Calls Tryz.prog 19 #[.int .i64 at',.int .i64 ((nA:Int)+1)] W fun e w'=>e=.returned (.int .i64 (m:Nat))∧Still W w')
  (AX:∀ ph mx my mz W W',G ph mx my mz W→Still W W'→Calls Tryz.prog 13 #[.pointer (some ⟨ph,0,none⟩),.int .i64 ((mx:Int)+1)] W' fun e w'=>∃ x:Nat,e=.returned (.int .u64 (x:Nat))∧K w'∧GX ph mx my mz x w')
  (AY:∀ ph mx my mz W W',G ph mx my mz W→Still W W'→Calls Tryz.prog 13 #[.pointer (some ⟨ph,0,none⟩),.int .i64 ((my:Int)+1)] W' fun e w'=>∃ x:Nat,e=.returned (.int .u64 (x:Nat))∧K w'∧GY ph mx my mz x w')
  (AZ:∀ ph mx my mz W W',G ph mx my mz W→Still W W'→Calls Tryz.prog 13 #[.pointer (some ⟨ph,0,none⟩),.int .i64 ((mz:Int)+1)] W' fun e w'=>∃ x:Nat,e=.returned (.int .u64 (x:Nat))∧K w'∧GZ ph mx my mz x w')
  (A20a:∀ ph mx my mz x W,GX ph mx my mz x W→Calls Tryz.prog 20 #[.pointer (some ⟨ph,0,none⟩),.int .u64 (x:Nat),.int .i64 0,.int .i64 (m:Nat)] W fun e w'=>e=.returned (.tuple #[.int .i64 (p1:Nat),.int .i64 0])∧K w'∧G ph mx my mz w')
  (A20b:∀ ph mx my mz x W,GX ph mx my mz x W→Calls Tryz.prog 20 #[.pointer (some ⟨ph,0,none⟩),.int .u64 (x:Nat),.int .i64 (m:Nat),.int .i64 ((nA:Int)-(m:Nat))] W fun e w'=>e=.returned (.tuple #[.int .i64 (p2:Nat),.int .i64 0])∧K w'∧G ph mx my mz w')
  (A20c:∀ ph mx my mz x W,GX ph mx my mz x W→Calls Tryz.prog 20 #[.pointer (some ⟨ph,0,none⟩),.int .u64 (x:Nat),.int .i64 0,.int .i64 (nA:Nat)] W fun e w'=>e=.returned (.tuple #[.int .i64 (p3:Nat),.int .i64 0])∧K w'∧G ph mx my mz w')
  (A20d:∀ ph mx my mz x W,GZ ph mx my mz x W→Calls Tryz.prog 20 #[.pointer (some ⟨ph,0,none⟩),.int .u64 (x:Nat),.int .i64 0,.int .i64 (nA:Nat)] W fun e w'=>e=.returned (.tuple #[.int .i64 (p4:Nat),.int .i64 0])∧K w'∧G ph mx my mz w')
  (A21x:∀ ph mx my mz x W,GX ph mx my mz x W→Calls Tryz.prog 21 #[.pointer (some ⟨ph,0,none⟩),.int .u64 (x:Nat),.slice a2 nB c2] W fun e w'=>e=.returned (.tuple #[.int .i64 c,.int .i64 0])∧K w'∧G ph mx my mz w')
  (A21y:∀ ph mx my mz x W,GY ph mx my mz x W→Calls Tryz.prog 21 #[.pointer (some ⟨ph,0,none⟩),.int .u64 (x:Nat),.slice a1 nA c1] W fun e w'=>e=.returned (.tuple #[.int .i64 (-c),.int .i64 0])∧K w'∧G ph mx my mz w')
  (A18:∀ W,K W→Calls Tryz.prog 18 #[.slice a1 nA c1,.slice a2 nB c2] W fun e w'=>e=.returned (.bool D)∧Still W w')
  (A22a:∀ ph mx my mz x W,GX ph mx my mz x W→Calls Tryz.prog 22 #[.pointer (some ⟨ph,0,none⟩),.int .u64 (x:Nat),.int .i64 0,.int .i64 (m:Nat)] W fun e w'=>∃ g:Nat,e=.returned (.tuple #[.slice (some ⟨g,0,none⟩) m m,.int .i64 0])∧K w'∧GS ph mx my mz g w')
  (AXs:∀ ph mx my mz g W,GS ph mx my mz g W→Calls Tryz.prog 13 #[.pointer (some ⟨ph,0,none⟩),.int .i64 ((mx:Int)+1)] W fun e w'=>∃ x:Nat,e=.returned (.int .u64 (x:Nat))∧K w'∧GT ph mx my mz g x w')
  (A22b:∀ ph mx my mz g x W,GT ph mx my mz g x W→Calls Tryz.prog 22 #[.pointer (some ⟨ph,0,none⟩),.int .u64 (x:Nat),.int .i64 (m:Nat),.int .i64 ((nA:Int)-(m:Nat))] W fun e w'=>∃ g2:Nat,e=.returned (.tuple #[.slice (some ⟨g2,0,none⟩) (nA-m) (nA-m),.int .i64 0])∧K w'∧GE g g2 w')
  (A18l:∀ g g2 W W' a' c',GE g g2 W→Still W W'→(m=0∨a'=a1)→Calls Tryz.prog 18 #[.slice (some ⟨g,0,none⟩) m m,.slice a' m c'] W' fun e w'=>e=.returned (.bool true)∧Still W' w')
  (A18r:∀ g g2 W W' a' c',GE g g2 W→Still W W'→(nA-m=0∨∃ ab ao,a1=some ⟨ab,ao,none⟩∧a'=some ⟨ab,ao+m,none⟩)→Calls Tryz.prog 18 #[.slice (some ⟨g2,0,none⟩) (nA-m) (nA-m),.slice a' (nA-m) c'] W' fun e w'=>e=.returned (.bool true)∧R w'):
  Calls Tryz.prog 4 #[.agg #[.slice a1 nA c1,.slice a2 nB c2,.int .i64 at',.int .i64 Nn,.slice a3 n3 c3]] w fun e w'=>e=.returned (.bool true)∧R w':=by
 obtain ⟨bx,hbx⟩:∃ bx,w.heap.size=bx:=⟨_,rfl⟩
 have C0:=KC
 rw[hbx] at C0
 have HC:=hide C0
 have B9:=hide A9
 have B10:=hide H10
 have B11a:=hide A11a
 have B11b:=hide A11b
 have B11c:=hide A11c
 have B12:=hide A12
 have B19:=hide A19
 have BX:=hide AX
 have BY:=hide AY
 have BZ:=hide AZ
 have B20a:=hide A20a
 have B20b:=hide A20b
 have B20c:=hide A20c
 have B20d:=hide A20d
 have B21x:=hide A21x
 have B21y:=hide A21y
 have B18:=hide A18
 have B22a:=hide A22a
 have BXs:=hide AXs
 have B22b:=hide A22b
 have B18l:=hide A18l
 have B18r:=hide A18r
 have HS:=hide KS
 have HKA:=hide KA
 have HN:=hide (And.intro hA (And.intro hB (And.intro hm (And.intro hp1 (And.intro hp2 (And.intro hc1 (And.intro hc2 (And.intro hcap hcap2))))))))
 have HF:=hide hf
 have HNIL:=hide hnil
 have HD:=hide hD
 have d1:decide ((4096:Int)<(nA:Nat))=false:=decide_eq_false (by omega)
 have d1':(4096<nA)=False:=eq_false (by omega)
 have d5:decide ((4096:Int)<(nB:Nat))=false:=decide_eq_false (by omega)
 have d5':(4096<nB)=False:=eq_false (by omega)
 have q0:W0.cell? ⟨bx,0,none⟩=some (.slice a1 nA c1):=by rw[← hW0,← hbx];simp only[World.cell?,heap_alloc_new];rfl
 have q1:W0.cell? ⟨bx,1,none⟩=some (.slice a2 nB c2):=by rw[← hW0,← hbx];simp only[World.cell?,heap_alloc_new];rfl
 have wA:IntKind.i64.wrap ((nA:Int)+1)=(nA:Int)+1:=wrap_small _ (by omega) (by omega)
 have wM:IntKind.i64.wrap ((nA:Int)-(m:Nat))=(nA:Int)-(m:Nat):=wrap_small _ (by omega) (by omega)
 clear C0 KC A9 H10 A11a A11b A11c A12 A19 AX AY AZ A20a A20b A20c A20d A21x A21y A18 A22a AXs A22b A18l A18r KS KA hA hB hm hp1 hp2 hc1 hc2 hf hcap hcap2 hnil hD
 obtain ⟨i0,hi,hy0,hy1,hy2⟩:=info_parts Tryz.info5'
 go_enter Tryz.func4,Tryz.ntmps4
 go_wp2_with fail
 refine (unhide B9).mono ?_
 rintro e v1 ⟨ph,rfl,k1,g1⟩
 have KK:=hide k1
 have GG:=hide g1
 clear g1 k1 B9 q0 q1
 go_wp2_with fail
 refine (unhide B10 _ _).mono ?_
 rintro e v2 ⟨rfl,s2⟩
 have S2:=hide s2
 clear s2
 go_wp2_with fail
 go_loopw [5,6] (fun nv iv wr=>∃ i:Nat,iv=.int .i64 (i:Nat)∧i≤nA∧Hid (NotAt v1 wr nv i f)) (fun _ iv _=>nA-(intOf iv).toNat)
 case atStart=>exact ⟨0,rfl,Nat.zero_le _,hide ⟨(unhide S2).below,.inl ⟨rfl,rfl⟩,fun g h=>by cases h⟩⟩
 case round=>
  obtain ⟨i,rfl,hi',hL⟩:=hrel
  obtain ⟨nb,nl,no⟩:=unhide hL
  have K3:=unhide HS _ _ (unhide KK) nb
  obtain ⟨x0,x1,x2,x3,x4⟩:=unhide HC _ K3
  have hN:=unhide HN
  have w1:IntKind.i64.wrap ((i:Int)+1)=(i:Int)+1:=wrap_small _ (by omega) (by omega)
  by_cases hin:i<nA
  ·obtain ⟨ab,ao,ea,ca⟩:=unhide HKA _ K3 i hin
   rw[ea] at x0
   have hfi:=unhide HF i hin
   have wu:IntKind.u8.wrap (255-((f i:Nat):Int))=((255-f i:Nat):Int):=by unfold IntKind.wrap;simp [IntKind.bits,IntKind.signed];omega
   have dl:decide ((i:Int)<(nA:Nat))=true:=decide_eq_true (by omega)
   have dl':(i<nA)=True:=eq_true hin
   have i1:(0:Int)≤(i:Nat):=by omega
   have i2:(i:Int)<(nA:Nat):=by omega
   obtain ⟨u,hu⟩:∃ u,255-f i=u:=⟨_,rfl⟩
   rw[hu] at wu
   obtain ⟨an,cn,rfl⟩:=nl.shape2
   have HLN:Hid (Line (wr.alloc (.cells #[.int .u8 (u:Nat)] 5)) 5 (.slice an i cn) i (fun j=>.int .u8 ((255-f j:Nat):Int))):=hide (nl.same (fun q hq=>heap_alloc_old wr _ (nl.lt q hq)))
   have NX:Hid (i+1≤nA∧nA-(i+1)<nA-i):=hide ⟨by omega,by omega⟩
   have hb2:(i+1)*1≤140737488355328:=by omega
   have hb3:i+1≤9007199254740992:=by omega
   have HU:=hide hu
   clear nb nl no K3 hN hfi hin hi' hu ea
   go_wp2_with (at_builtin;refine append_line rfl _ _ 22 rfl 5 i0 (.int .u8 0) 1 Tryz.underlying22 hi hy0 hy1 hy2 rfl _ _ _ rfl (unhide HLN) wr.heap.size rfl (.int .u8 (u:Nat)) ?q1 rfl hb2 hb3 ?_)
   case q1=>simp only[World.cell?,heap_alloc_new];rfl
   intro v' w' hl' hg'
   have FIN:=hide (NotAt.more (unhide hL) (unhide HU) hl' hg')
   obtain ⟨a4,c4,rfl⟩:=hl'.shape2
   clear hl' hg' x0 x1 x2 x3 x4 ca
   go_wp2_with fail
   all_goals go_roundw
   all_goals first|exact ⟨i+1,by simp,(unhide NX).1,FIN⟩|(have:=unhide NX;simp [intOf];omega)
  ·have hiN:i=nA:=by omega
   subst hiN
   have dl:decide ((i:Int)<(i:Nat))=false:=decide_eq_false (by omega)
   have E1:=hide (unhide B11a _ _ _ _ (unhide GG) (unhide hL))
   obtain ⟨an,cn,rfl⟩:=nl.shape2
   clear nb nl no K3 hN hin hi'
   go_wp2_with fail
   refine (unhide E1).mono ?_
   rintro e v3 ⟨mx,rfl,k3,g3⟩
   have E2:=hide (unhide B11b _ _ _ _ g3)
   clear E1 x0 x1 x2 x3 x4 g3
   obtain ⟨x0,x1,x2,x3,x4⟩:=unhide HC _ k3
   clear k3
   go_wp2_with fail
   refine (unhide E2).mono ?_
   rintro e v4 ⟨my,rfl,k4,g4⟩
   have E3:=hide (unhide B11c _ _ _ _ _ g4)
   clear E2 x0 x1 x2 x3 x4 g4 k4
   go_wp2_with fail
   refine (unhide E3).mono ?_
   rintro e v5 ⟨mz,rfl,k5,g5⟩
   have E4:=hide (unhide B12 _ _ _ _ _ g5)
   clear E3 g5
   obtain ⟨x0,x1,x2,x3,x4⟩:=unhide HC _ k5
   clear k5
   go_wp2_with fail
   refine (unhide E4).mono ?_
   rintro e v6 ⟨rfl,k6,g6⟩
   have G6:=hide g6
   clear E4 x0 x1 x2 x3 x4 g6
   obtain ⟨x0,x1,x2,x3,x4⟩:=unhide HC _ k6
   clear k6
   have n1:((mx:Int)+1 == 0)=false:=by simp;omega
   have n1':((mx:Int)+1=0)=False:=eq_false (by omega)
   have n2:((my:Int)+1 == 0)=false:=by simp;omega
   have n2':((my:Int)+1=0)=False:=eq_false (by omega)
   have n3':((mz:Int)+1 == 0)=false:=by simp;omega
   have n3'':((mz:Int)+1=0)=False:=eq_false (by omega)
   go_wp2_with fail
   refine (unhide B19 _).mono ?_
   rintro e v7 ⟨rfl,s7⟩
   have E5:=hide (unhide BX _ _ _ _ _ _ (unhide G6) s7)
   clear G6 s7 x0 x1 x2 x3 x4 n1 n1' n2 n2' n3' n3''
   go_wp2_with fail
   refine (unhide E5).mono ?_
   rintro e v8 ⟨y1,rfl,k8,g8⟩
   have E6:=hide (unhide B20a _ _ _ _ _ _ g8)
   clear E5 k8 g8
   go_wp2_with fail
   refine (unhide E6).mono ?_
   rintro e v9 ⟨rfl,k9,g9⟩
   have E7:=hide (unhide BX _ _ _ _ _ _ g9 (Still.refl _))
   clear E6 k9 g9
   go_wp2_with fail
   refine (unhide E7).mono ?_
   rintro e v10 ⟨y2,rfl,k10,g10⟩
   have E8:=hide (unhide B20b _ _ _ _ _ _ g10)
   clear E7 k10 g10
   go_wp2_with fail
   refine (unhide E8).mono ?_
   rintro e v11 ⟨rfl,k11,g11⟩
   have E9:=hide (unhide BX _ _ _ _ _ _ g11 (Still.refl _))
   clear E8 k11 g11
   go_wp2_with fail
   refine (unhide E9).mono ?_
   rintro e v12 ⟨y3,rfl,k12,g12⟩
   have E10:=hide (unhide B20c _ _ _ _ _ _ g12)
   clear E9 k12 g12
   go_wp2_with fail
   refine (unhide E10).mono ?_
   rintro e v13 ⟨rfl,k13,g13⟩
   have E11:=hide (unhide BZ _ _ _ _ _ _ g13 (Still.refl _))
   clear E10 k13 g13
   go_wp2_with fail
   refine (unhide E11).mono ?_
   rintro e v14 ⟨y4,rfl,k14,g14⟩
   have E12:=hide (unhide B20d _ _ _ _ _ _ g14)
   clear E11 k14 g14
   go_wp2_with fail
   refine (unhide E12).mono ?_
   rintro e v15 ⟨rfl,k15,g15⟩
   have K15:=hide k15
   have G15:=hide g15
   clear E12 k15 g15
   have hN:=unhide HN
   have u1:IntKind.i64.wrap ((p1:Int)+(p2:Nat))=(p3:Nat):=by rw[show (p1:Int)+(p2:Nat)=(p3:Nat) by omega];exact wrap_small _ (by omega) (by omega)
   have u2:IntKind.i64.wrap ((p3:Int)+(p4:Nat))=8*(i:Int):=by rw[show (p3:Int)+(p4:Nat)=8*(i:Int) by omega];exact wrap_small _ (by omega) (by omega)
   have u3:IntKind.i64.wrap (8*(i:Int))=8*(i:Int):=wrap_small _ (by omega) (by omega)
   have u4:decide ((p1:Int)<0)=false:=decide_eq_false (by omega)
   have u5:decide ((p2:Int)<0)=false:=decide_eq_false (by omega)
   clear hN
   go_wp2_with fail
   refine (unhide B10 _ _).mono ?_
   rintro e v16 ⟨rfl,s16⟩
   have S16:=hide s16
   clear s16
   go_wp2_with fail
   refine (unhide B10 _ _).mono ?_
   rintro e v17 ⟨rfl,s17⟩
   have S17:=hide ((unhide S16).trans s17)
   clear s17 S16
   go_wp2_with fail
   refine (unhide B10 _ _).mono ?_
   rintro e v18 ⟨rfl,s18⟩
   have S18:=hide ((unhide S17).trans s18)
   clear s18 S17
   go_wp2_with fail
   refine (unhide B10 _ _).mono ?_
   rintro e v19 ⟨rfl,s19⟩
   have S19:=hide ((unhide S18).trans s19)
   clear s19 S18
   have K19:=hide (unhide HS _ _ (unhide K15) (unhide S19).below)
   obtain ⟨x0,x1,x2,x3,x4⟩:=unhide HC _ (unhide K19)
   have F1:Hid (∀ W',Still v19 W'→Calls Tryz.prog 13 #[.pointer (some ⟨ph,0,none⟩),.int .i64 ((mx:Int)+1)] W' fun e w'=>∃ x:Nat,e=.returned (.int .u64 (x:Nat))∧Hid (GX ph mx my mz x w')∧w'.cell? ⟨bx,0,none⟩=some (.slice a1 i c1)∧w'.cell? ⟨bx,1,none⟩=some (.slice a2 nB c2)):=hide (fun W' s=>(unhide BX _ _ _ _ _ _ (unhide G15) ((unhide S19).trans s)).mono fun e w' ⟨x,q1,q2,q3⟩=>⟨x,q1,hide q3,(unhide HC _ q2).1,(unhide HC _ q2).2.1⟩)
   have F2:Hid (∀ W x,Hid (GX ph mx my mz x W)→Calls Tryz.prog 21 #[.pointer (some ⟨ph,0,none⟩),.int .u64 (x:Nat),.slice a2 nB c2] W fun e w'=>e=.returned (.tuple #[.int .i64 c,.int .i64 0])∧Hid (G ph mx my mz w')∧w'.cell? ⟨bx,0,none⟩=some (.slice a1 i c1)∧w'.cell? ⟨bx,1,none⟩=some (.slice a2 nB c2)):=hide (fun W x g=>(unhide B21x _ _ _ _ _ _ (unhide g)).mono fun e w' ⟨q1,q2,q3⟩=>⟨q1,hide q3,(unhide HC _ q2).1,(unhide HC _ q2).2.1⟩)
   clear K19 K15 G15 S19 x2 x3 x4
   go_wp2_with fail
   clear u1 u2 u3 u4 u5
   go_region_held3 (fun w'=>w'.cell? ⟨bx,0,none⟩=some (.slice a1 i c1)∧w'.cell? ⟨bx,1,none⟩=some (.slice a2 nB c2)) (go_keep) (first|(go_at_call 13;refine (unhide F1 _ ((Still.refl _).drew _)).mono ?_;rintro e w5 ⟨y5,rfl,g5,x0,x1⟩)|(go_at_call 21;refine (unhide F2 _ _ g5).mono ?_;rintro e w6 ⟨rfl,g6,x0,x1⟩))
   clear F1 F2 g5
   have F3:Hid (∀ W',Still w6 W'→Calls Tryz.prog 13 #[.pointer (some ⟨ph,0,none⟩),.int .i64 ((my:Int)+1)] W' fun e w'=>∃ x:Nat,e=.returned (.int .u64 (x:Nat))∧Hid (GY ph mx my mz x w')∧w'.cell? ⟨bx,0,none⟩=some (.slice a1 i c1)∧w'.cell? ⟨bx,1,none⟩=some (.slice a2 nB c2)):=hide (fun W' s=>(unhide BY _ _ _ _ _ _ (unhide g6) s).mono fun e w' ⟨x,q1,q2,q3⟩=>⟨x,q1,hide q3,(unhide HC _ q2).1,(unhide HC _ q2).2.1⟩)
   have F4:Hid (∀ W x,Hid (GY ph mx my mz x W)→Calls Tryz.prog 21 #[.pointer (some ⟨ph,0,none⟩),.int .u64 (x:Nat),.slice a1 i c1] W fun e w'=>e=.returned (.tuple #[.int .i64 (-c),.int .i64 0])∧Hid (K w'∧G ph mx my mz w')∧w'.cell? ⟨bx,0,none⟩=some (.slice a1 i c1)∧w'.cell? ⟨bx,1,none⟩=some (.slice a2 nB c2)):=hide (fun W x g=>(unhide B21y _ _ _ _ _ _ (unhide g)).mono fun e w' ⟨q1,q2,q3⟩=>⟨q1,hide ⟨q2,q3⟩,(unhide HC _ q2).1,(unhide HC _ q2).2.1⟩)
   go_wp2_with fail
   go_region_held3 (fun w'=>w'.cell? ⟨bx,0,none⟩=some (.slice a1 i c1)∧w'.cell? ⟨bx,1,none⟩=some (.slice a2 nB c2)) (go_keep) (first|(go_at_call 13;refine (unhide F3 _ ((Still.refl _).drew _)).mono ?_;rintro e w7 ⟨y6,rfl,g7,x0,x1⟩)|(go_at_call 21;refine (unhide F4 _ _ g7).mono ?_;rintro e w8 ⟨rfl,g8,x0,x1⟩))
   clear F3 F4 g7 g6
   have hN:=unhide HN
   have t1:IntKind.i64.wrap c=c:=by unfold IntKind.wrap;simp [IntKind.bits,IntKind.signed];omega
   have t2:IntKind.i64.wrap (- -c)=c:=by rw[Int.neg_neg];exact t1
   have t3:decide (c < -1)=false:=decide_eq_false (by omega)
   have t3':(c < -1)=False:=eq_false (by omega)
   have t4:decide ((1:Int)<c)=false:=decide_eq_false (by omega)
   have t4':((1:Int)<c)=False:=eq_false (by omega)
   have t5:(c == 0)=D:=unhide HD
   have t5':decide (c=0)=D:=unhide HD
   clear hN
   go_wp2_with fail
   refine (unhide B10 _ _).mono ?_
   rintro e v20 ⟨rfl,s20⟩
   have S20:=hide s20
   clear s20 x0 x1
   go_wp2_with fail
   refine (unhide B10 _ _).mono ?_
   rintro e v21 ⟨rfl,s21⟩
   have S21:=hide ((unhide S20).trans s21)
   clear s21 S20
   have K21:=hide (unhide HS _ _ (unhide g8).1 (unhide S21).below)
   obtain ⟨x0,x1,x2,x3,x4⟩:=unhide HC _ (unhide K21)
   have F5:=hide (unhide B18 _ (unhide K21))
   go_wp2_with fail
   refine (unhide F5).mono ?_
   rintro e v22 ⟨rfl,s22⟩
   have S22:=hide ((unhide S21).trans s22)
   clear s22 S21 F5 K21 x0 x1 x2 x3 x4
   have E13:=hide (unhide BX _ _ _ _ _ _ (unhide g8).2 (unhide S22))
   have hdd:(D != D)=false:=by cases D <;> rfl
   have hdd':(D == D)=true:=by cases D <;> rfl
   clear S22 g8
   go_wp2_with fail
   clear t1 t2 t3 t3' t4 t4' t5 t5'
   refine (unhide E13).mono ?_
   rintro e v23 ⟨y7,rfl,k23,g23⟩
   have E14:=hide (unhide B22a _ _ _ _ _ _ g23)
   clear E13 k23 g23
   go_wp2_with fail
   refine (unhide E14).mono ?_
   rintro e v24 ⟨gl,rfl,k24,g24⟩
   have E15:=hide (unhide BXs _ _ _ _ _ _ g24)
   clear E14 k24 g24
   go_wp2_with fail
   refine (unhide E15).mono ?_
   rintro e v25 ⟨y8,rfl,k25,g25⟩
   have E16:=hide (unhide B22b _ _ _ _ _ _ _ g25)
   clear E15 k25 g25
   go_wp2_with fail
   refine (unhide E16).mono ?_
   rintro e v26 ⟨gr,rfl,k26,g26⟩
   have K26:=hide k26
   have G26:=hide g26
   clear E16 k26 g26
   have hN:=unhide HN
   have s1:((i-m:Nat):Int)=(i:Int)-(m:Nat):=by omega
   have s2:(((i-m:Nat):Int) == (i:Int)-(m:Nat))=true:=by rw[s1];simp
   have s3:(((i-m:Nat):Int)=(i:Int)-(m:Nat))=True:=eq_true s1
   clear hN
   go_wp2_with fail
   refine (unhide B10 _ _).mono ?_
   rintro e v27 ⟨rfl,s27⟩
   have S27:=hide s27
   clear s27
   go_wp2_with fail
   refine (unhide B10 _ _).mono ?_
   rintro e v28 ⟨rfl,s28⟩
   have S28:=hide ((unhide S27).trans s28)
   clear s28 S27
   have K28:=hide (unhide HS _ _ (unhide K26) (unhide S28).below)
   obtain ⟨x0,x1,x2,x3,x4⟩:=unhide HC _ (unhide K28)
   have P18l:=hide (fun W' a' c' s q=>unhide B18l _ _ _ W' a' c' (unhide G26) ((unhide S28).trans s) q)
   have P18r:=hide (fun W' a' c' s q=>unhide B18r _ _ _ W' a' c' (unhide G26) ((unhide S28).trans s) q)
   have HKA28:=hide (fun j hj=>unhide HKA _ (unhide K28) j hj)
   have j1:(0:Int)≤(m:Nat):=by omega
   have hN:=unhide HN
   have j2:(m:Int)≤(c1:Nat):=by omega
   have j2':m≤c1:=by omega
   have j3:(m:Int)≤(i:Nat):=by omega
   have j3':m≤i:=by omega
   have j4:(i:Int)≤(c1:Nat):=by omega
   have j4':i≤c1:=by omega
   clear G26 S28 K26 x2 x3 x4 hN
   have FC:Hid (∀ W',Still v28 W'→W'.cell? ⟨bx,0,none⟩=some (.slice a1 i c1)):=hide (fun W' s=>(unhide HC _ (unhide HS _ _ (unhide K28) s.below)).1)
   clear K28
   by_cases hz:m=c1
   ·subst hz
    obtain rfl:i=m:=by omega
    cases a1 with
    | none=>
     have hc0:=unhide HNIL rfl
     subst hc0
     clear s1 s2 s3 j1 j2 j2' j3 j3' j4 j4' wA wM d1 d1' d5 d5' hdd hdd' dl
     go_wp2_with fail
     refine (unhide P18l _ _ _ (Still.refl _) (.inr rfl)).mono ?_
     rintro e v29 ⟨rfl,s29⟩
     have x9:=unhide FC _ s29
     have E20:=hide (fun a' c'=>unhide P18r _ a' c' s29 (.inl (by first|trivial|simp)))
     clear s29 x0 x1
     go_wp2_with fail
     refine (unhide E20 _ _).mono ?_
     rintro e v30 ⟨rfl,hR⟩
     have HR:=hide hR
     clear hR
     go_wp2_with fail
     all_goals go_ret
     all_goals exact ⟨rfl,unhide HR⟩
    | some x=>
     go_wp2_with fail
     refine (unhide P18l _ _ _ (Still.refl _) (.inr rfl)).mono ?_
     rintro e v29 ⟨rfl,s29⟩
     have x9:=unhide FC _ s29
     have E20:=hide (fun a' c'=>unhide P18r _ a' c' s29 (.inl (by first|trivial|simp)))
     clear s29 x0 x1
     go_wp2_with fail
     all_goals
      (try rw[Nat.sub_self] at E20)
      refine (unhide E20 _ _).mono ?_
      rintro e v30 ⟨rfl,hR⟩
      have HR:=hide hR
      clear hR
      go_wp2_with fail
      all_goals go_ret
      all_goals exact ⟨rfl,unhide HR⟩
   ·have z1:(c1=m)=False:=eq_false (by omega)
    have z2:(m=c1)=False:=eq_false (by omega)
    have z3:(c1-m=0)=False:=eq_false (by omega)
    have z4:((c1:Int)=(m:Nat))=False:=eq_false (by omega)
    have z5:((m:Int)=(c1:Nat))=False:=eq_false (by omega)
    cases a1 with
    | none=>
     have:=unhide HNIL rfl
     omega
    | some x=>
     clear hz
     go_wp2_with fail
     refine (unhide P18l _ _ _ (Still.refl _) (.inr rfl)).mono ?_
     rintro e v29 ⟨rfl,s29⟩
     have x9:=unhide FC _ s29
     by_cases hsm:i-m=0
     ·have E20:=hide (fun a' c'=>unhide P18r _ a' c' s29 (.inl hsm))
      clear s29 x0 x1 hsm
      go_wp2_with fail
      refine (unhide E20 _ _).mono ?_
      rintro e v30 ⟨rfl,hR⟩
      have HR:=hide hR
      clear hR
      go_wp2_with fail
      all_goals go_ret
      all_goals exact ⟨rfl,unhide HR⟩
     ·obtain ⟨ab,ao,ex,_⟩:=unhide HKA28 0 (by omega)
      cases ex
      have E20:=hide (fun c'=>unhide P18r _ (some ⟨ab,ao+m,none⟩) c' s29 (.inr ⟨ab,ao,rfl,rfl⟩))
      clear s29 x0 x1 hsm
      go_wp2_with fail
      refine (unhide E20 _).mono ?_
      rintro e v30 ⟨rfl,hR⟩
      have HR:=hide hR
      clear hR
      go_wp2_with fail
      all_goals go_ret
      all_goals exact ⟨rfl,unhide HR⟩
set_option maxHeartbeats 2000000
def nv (l:List Nat) (j:Nat):Value:=.int .i64 (l.getD j 0:Nat)
def gB (v:Value):List Nat:=(v.ownBlock).toList
theorem nv_int (l:List Nat) (k:Nat) (h:k<l.length):l.getD k 0=l[k]:=by
 rw[List.getD_eq_getElem?_getD,List.getElem?_eq_getElem h];rfl
theorem less_any {w:World}{v:Value}{l:List Nat} (h:Line w 3 v l.length (nv l)) (i j:Nat) (hi:i<l.length) (hj:j<l.length):
  Calls Tryz.prog 203 #[v,.int .i64 (i:Nat),.int .i64 (j:Nat)] w fun e w'=>e=.returned (.bool (decide (l.getD i 0<l.getD j 0)))∧Still w w':=by
 obtain ⟨g,cap,rfl,hg,hc⟩:=h.at (by omega)
 have c1:=(hc i hi).1
 have c2:=(hc j hj).1
 unfold nv at c1 c2
 clear h hc
 generalize l.getD i 0=x at *
 generalize l.getD j 0=y at *
 go_enter Tryz.func203,Tryz.ntmps203
 go_wp2
 go_region
 all_goals go_wp2
 all_goals go_ret
 all_goals (refine ⟨?_,?_⟩)
 all_goals first|exact ⟨rfl,rfl,rfl,rfl⟩|(congr 2;simp)|rfl
theorem swap_any {w:World}{v:Value}{l:List Nat} (h:Line w 3 v l.length (nv l)) (i j:Nat) (hi:i<l.length) (hj:j<l.length):
  Calls Tryz.prog 204 #[v,.int .i64 (i:Nat),.int .i64 (j:Nat)] w fun e w'=>e=.returned (.tuple #[])∧Line w' 3 v l.length (nv (swp l i j))∧But (gB v) w w':=by
 obtain ⟨g,cap,rfl,hg,hc⟩:=h.at (by omega)
 have c1:=(hc i hi).1
 have c2:=(hc j hj).1
 have f1:=(hc i hi).2
 have f2:=(hc j hj).2
 unfold nv at c1 c2
 have HL:Hid (Line ((w.setCell ⟨g,i,none⟩ (.int .i64 (l.getD j 0:Nat))).setCell ⟨g,j,none⟩ (.int .i64 (l.getD i 0:Nat))) 3 (.slice (some ⟨g,0,none⟩) l.length cap) l.length (nv (swp l i j))):=hide (by
  refine ((h.put hg i (.int .i64 (l.getD j 0:Nat)) hi).put hg j (.int .i64 (l.getD i 0:Nat)) hj).congr (fun k hk=>?_)
  have e:=congrFun (swp_get l i j hi hj) k
  unfold swf at e
  dsimp only at e
  unfold nv
  rw[e]
  by_cases e1:k=j
  ·rw[if_pos e1,if_pos e1]
  ·rw[if_neg e1,if_neg e1]
   by_cases e2:k=i
   ·rw[if_pos e2,if_pos e2]
   ·rw[if_neg e2,if_neg e2])
 have HB:Hid (But (gB (.slice (some ⟨g,0,none⟩) l.length cap)) w ((w.setCell ⟨g,i,none⟩ (.int .i64 (l.getD j 0:Nat))).setCell ⟨g,j,none⟩ (.int .i64 (l.getD i 0:Nat))).drew):=hide
  ((((But.refl _ _).set ⟨g,i,none⟩ (by simp [gB,Value.ownBlock]) _).set ⟨g,j,none⟩ (by simp [gB,Value.ownBlock]) _).trans (But.of_below (Below.refl _ _).drew))
 have HE:Hid (∀ W:World,Line W 3 (.slice (some ⟨g,0,none⟩) l.length cap) l.length (nv (swp l i j))→Line W.drew 3 (.slice (some ⟨g,0,none⟩) l.length cap) l.length (nv (swp l i j))):=hide (fun W h=>h.same (fun _ _=>rfl))
 clear hc h
 generalize nv (swp l i j)=F at *
 by_cases eij:i=j
 ·subst eij
  generalize l.getD i 0=x at *
  go_enter Tryz.func204,Tryz.ntmps204
  go_wp2
  go_region
  all_goals go_wp2
  all_goals go_end0
  all_goals exact ⟨rfl,unhide HE _ (unhide HL),unhide HB⟩
 ·generalize l.getD i 0=x at *
  generalize l.getD j 0=y at *
  go_enter Tryz.func204,Tryz.ntmps204
  go_wp2
  go_region
  all_goals go_wp2
  all_goals go_end0
  all_goals exact ⟨rfl,unhide HE _ (unhide HL),unhide HB⟩
theorem less_raw {w:World}{v:Value}{l:List Nat} (h:Line w 3 v l.length (nv l)) {i j:Nat}{I J:Int} (hI:I=(i:Nat)) (hJ:J=(j:Nat)) (hi:i<l.length) (hj:j<l.length):
  ∀ w1,Still w w1→Calls Tryz.prog 203 #[v,.int .i64 I,.int .i64 J] w1 fun e w'=>e=.returned (.bool (decide (l.getD i 0<l.getD j 0)))∧Still w1 w':=fun w1 hs=>by
 rw[hI,hJ];exact less_any (h.same (fun g _=>by rw[hs.heap])) i j hi hj
theorem swap_raw {w:World}{v:Value}{l:List Nat} (h:Line w 3 v l.length (nv l)) {i j:Nat}{I J:Int} (hI:I=(i:Nat)) (hJ:J=(j:Nat)) (hi:i<l.length) (hj:j<l.length):
  ∀ w1,Still w w1→Calls Tryz.prog 204 #[v,.int .i64 I,.int .i64 J] w1 fun e w'=>e=.returned (.tuple #[])∧Line w' 3 v l.length (nv (swp l i j))∧But (gB v) w1 w':=fun w1 hs=>by
 rw[hI,hJ];exact swap_any (h.same (fun g _=>by rw[hs.heap])) i j hi hj
theorem len_any (w:World) (a:Option Addr) (n cap:Nat):Calls Tryz.prog 202 #[.slice a n cap] w fun e w'=>e=.returned (.int .i64 (n:Nat))∧w'=w:=by
 go_enter Tryz.func202,Tryz.ntmps202
 go_wp2
 go_ret
 exact ⟨rfl,rfl⟩
theorem m_less0 (W:World) (b o:Nat):(method 378 191 (.pointer (some ⟨b,o,none⟩)) "Less").run Tryz.prog W=((load ⟨b,o,none⟩) >>= fun v=>pure (203,v)).run Tryz.prog W:=by kernel_rfl
theorem m_swap0 (W:World) (b o:Nat):(method 378 191 (.pointer (some ⟨b,o,none⟩)) "Swap").run Tryz.prog W=((load ⟨b,o,none⟩) >>= fun v=>pure (204,v)).run Tryz.prog W:=by kernel_rfl
theorem m_len0 (W:World) (b o:Nat):(method 378 191 (.pointer (some ⟨b,o,none⟩)) "Len").run Tryz.prog W=((load ⟨b,o,none⟩) >>= fun v=>pure (202,v)).run Tryz.prog W:=by kernel_rfl
theorem m_push (W:World) (b o:Nat):(method 378 191 (.pointer (some ⟨b,o,none⟩)) "Push").run Tryz.prog W=.ok (206,.pointer (some ⟨b,o,none⟩)) W:=by kernel_rfl
theorem m_pop (W:World) (b o:Nat):(method 378 191 (.pointer (some ⟨b,o,none⟩)) "Pop").run Tryz.prog W=.ok (205,.pointer (some ⟨b,o,none⟩)) W:=by kernel_rfl
theorem m_less (W:World) (b o:Nat) (v:Value) (h:W.cell? ⟨b,o,none⟩=some v):(method 378 191 (.pointer (some ⟨b,o,none⟩)) "Less").run Tryz.prog W=.ok (203,v) W:=by
 rw[m_less0,Sem.run_bind,run_load,h];rfl
theorem m_swap (W:World) (b o:Nat) (v:Value) (h:W.cell? ⟨b,o,none⟩=some v):(method 378 191 (.pointer (some ⟨b,o,none⟩)) "Swap").run Tryz.prog W=.ok (204,v) W:=by
 rw[m_swap0,Sem.run_bind,run_load,h];rfl
theorem m_len (W:World) (b o:Nat) (v:Value) (h:W.cell? ⟨b,o,none⟩=some v):(method 378 191 (.pointer (some ⟨b,o,none⟩)) "Len").run Tryz.prog W=.ok (202,v) W:=by
 rw[m_len0,Sem.run_bind,run_load,h];rfl
theorem not_gB {v:Value}{b:Nat} (h:v.ownBlock≠some b):b ∉ gB v:=by
 unfold gB
 cases hv:v.ownBlock with
 | none=>simp
 | some g=>simp;rintro rfl;exact h hv
theorem up_any {b o:Nat}{v:Value}{l:List Nat} (w:World) (hcell:w.cell? ⟨b,o,none⟩=some v) (hL:Line w 3 v l.length (nv l)) (hap:v.ownBlock≠some b) (hlen:l.length≤1099511627776) (j:Nat) (hj:j<l.length) (hU:UpI l.length (fun k=>l.getD k 0) j):
  Calls Tryz.prog 156 #[.iface 191 (.pointer (some ⟨b,o,none⟩)),.int .i64 (j:Nat)] w fun e w'=>e=.returned (.tuple #[])∧∃ l',l'.Perm l∧HO l.length (fun k=>l'.getD k 0)∧Line w' 3 v l.length (nv l')∧But (gB v) w w':=by
 have hbw:b<w.heap.size:=by have:=block_lt_of_cell hcell;simpa using this
 have hng:=not_gB hap
 go_enter Tryz.func156,Tryz.ntmps156
 go_wp2_with fail
 go_loopw [1] (fun jv wr=>∃ (k:Nat) (l':List Nat),jv=.int .i64 (k:Nat)∧k<l.length∧l'.Perm l∧UpI l.length (fun q=>l'.getD q 0) k∧Line wr 3 v l.length (nv l')∧wr.cell? ⟨b,o,none⟩=some v∧But (gB v) w wr) (fun jv _=>(intOf jv).toNat)
 case atStart=>exact ⟨j,l,rfl,hj,List.Perm.refl _,hU,hL,hcell,But.refl _ _⟩
 case round=>
  obtain ⟨k,l',rfl,hk,hp,hu,hl,hc,hb⟩:=hrel
  clear hL hcell hU
  have hll:l'.length=l.length:=hp.length_eq
  by_cases k0:k=0
  ·subst k0
   have HF:=hide (show ∃ l',l'.Perm l∧HO l.length (fun k=>l'.getD k 0)∧Line wr 3 v l.length (nv l')∧But (gB v) w wr from ⟨l',hp,hu.done (.inl rfl),hl,hb⟩)
   clear hp hu hl hb hll
   go_wp2_with fail
   go_end0
   exact ⟨rfl,unhide HF⟩
  ·obtain ⟨i,hi⟩:∃ i,(k-1) / 2=i:=⟨_,rfl⟩
   have e0:((k:Int)-1) / 2=((i:Nat):Int):=by omega
   have hik:i<k:=by omega
   have HLs:=hide (less_any (w:=wr) (v:=v) (l:=l') (by rw[hll];exact hl) k i (by omega) (by omega))
   have HSw:Hid (∀ w1,Still wr w1→Calls Tryz.prog 204 #[v,.int .i64 (i:Nat),.int .i64 (k:Nat)] w1 fun e w'=>e=.returned (.tuple #[])∧Line w' 3 v l.length (nv (swp l' i k))∧But (gB v) w1 w'):=hide (fun w1 hs=>by
    have:=swap_any (w:=w1) (v:=v) (l:=l') (by rw[hll];exact hl.same (fun g _=>by rw[hs.heap])) i k (by omega) (by omega)
    rw[hll] at this;exact this)
   have HD:Hid (¬ l'.getD k 0<l'.getD i 0→HO l.length (fun k=>l'.getD k 0)):=hide (fun h=>hu.done (.inr (by rw[hi];omega)))
   have HU:Hid (l'.getD k 0<l'.getD i 0→UpI l.length (fun q=>(swp l' i k).getD q 0) i):=hide (fun h=>by
    have:=hu.step (by omega) hk (by rw[hi];exact h)
    rw[hi] at this
    rw[swp_get l' i k (by omega) (by omega)];exact this)
   have HP:Hid ((swp l' i k).Perm l):=hide ((swp_perm l' i k (by omega) (by omega)).trans hp)
   have HK:=hide (And.intro hl (And.intro hp hb))
   have hm:=m_less wr b o v hc
   clear hu hl hp hb hll hi
   go_wp2_with fail
   refine (unhide HLs).mono ?_
   clear HLs hm
   rintro e w1 ⟨rfl,hst⟩
   have hc1:w1.cell? ⟨b,o,none⟩=some v:=(hst.cell _).trans hc
   have hm:=m_swap w1 b o v hc1
   have HT:=hide hst
   clear hc hst
   by_cases hlt:l'.getD k 0<l'.getD i 0
   ·have hd:decide (l'.getD k 0<l'.getD i 0)=true:=decide_eq_true hlt
    have HU2:=hide (unhide HU hlt)
    rw[hd]
    clear HU HD hlt hd
    go_wp2_with fail
    refine (unhide HSw w1 (unhide HT)).mono ?_
    clear HSw hm
    rintro e w2 ⟨rfl,hl2,hb2⟩
    have hb02:But (gB v) w w2:=((unhide HK).2.2.trans (But.of_below (unhide HT).below)).trans hb2
    have hc2:w2.cell? ⟨b,o,none⟩=some v:=(hb2.cell (q:=⟨b,o,none⟩) (by have:=block_lt_of_cell hc1;simpa using this) hng).trans hc1
    have HR:=hide (show ∃ (k:Nat) (l':List Nat),(Value.int .i64 (i:Nat))=.int .i64 (k:Nat)∧k<l.length∧l'.Perm l∧UpI l.length (fun q=>l'.getD q 0) k∧Line w2 3 v l.length (nv l')∧w2.cell? ⟨b,o,none⟩=some v∧But (gB v) w w2 from ⟨i,swp l' i k,rfl,by omega,unhide HP,unhide HU2,hl2,hc2,hb02⟩)
    clear hl2 hb2 hb02 hc2 HU2 HP HK hc1
    go_wp2
    go_roundw
    case rel=>exact unhide HR
    case measure=>simp [intOf];omega
   ·have hd:decide (l'.getD k 0<l'.getD i 0)=false:=decide_eq_false hlt
    have HF:=hide (show ∃ l',l'.Perm l∧HO l.length (fun k=>l'.getD k 0)∧Line w1 3 v l.length (nv l')∧But (gB v) w w1 from ⟨l',(unhide HK).2.1,unhide HD hlt,(unhide HK).1.same (fun g _=>by rw[(unhide HT).heap]),(unhide HK).2.2.trans (But.of_below (unhide HT).below)⟩)
    rw[hd]
    clear HU HD hlt hd HSw hm HK HT
    go_wp2_with fail
    go_end0
    exact ⟨rfl,unhide HF⟩
def BoolEnd (e:Ending):Prop:=∃ u,e=.returned (.bool u)
theorem down_any {b o:Nat}{v:Value}{l:List Nat} (w:World) (hcell:w.cell? ⟨b,o,none⟩=some v) (hL:Line w 3 v l.length (nv l)) (hap:v.ownBlock≠some b) (hlen:l.length≤1099511627776) (i0 n:Nat) (hn:n≤l.length) (hi0:i0<l.length) (hU:DnI n (fun k=>l.getD k 0) i0):
  Calls Tryz.prog 154 #[.iface 191 (.pointer (some ⟨b,o,none⟩)),.int .i64 (i0:Nat),.int .i64 (n:Nat)] w fun e w'=>BoolEnd e∧∃ l',l'.Perm l∧(∀ q,n≤q→l'.getD q 0=l.getD q 0)∧HO n (fun k=>l'.getD k 0)∧Line w' 3 v l.length (nv l')∧But (gB v) w w':=by
 have hbw:b<w.heap.size:=by have:=block_lt_of_cell hcell;simpa using this
 have hng:=not_gB hap
 go_enter Tryz.func154,Tryz.ntmps154
 go_wp2_with fail
 go_loopw [7] (fun jv wr=>∃ (k:Nat) (l':List Nat),jv=.int .i64 (k:Nat)∧k<l.length∧l'.Perm l∧(∀ q,n≤q→l'.getD q 0=l.getD q 0)∧DnI n (fun q=>l'.getD q 0) k∧Line wr 3 v l.length (nv l')∧wr.cell? ⟨b,o,none⟩=some v∧But (gB v) w wr) (fun jv _=>n+1-(intOf jv).toNat)
 case atStart=>exact ⟨i0,l,rfl,hi0,List.Perm.refl _,fun _ _=>rfl,hU,hL,hcell,But.refl _ _⟩
 case round=>
  obtain ⟨k,l',rfl,hk,hp,hsame,hu,hl,hc,hb⟩:=hrel
  clear hL hcell hU
  have hll:l'.length=l.length:=hp.length_eq
  by_cases ha:n≤2*k+1
  ·have HF:=hide (show ∃ l',l'.Perm l∧(∀ q,n≤q→l'.getD q 0=l.getD q 0)∧HO n (fun k=>l'.getD k 0)∧Line wr 3 v l.length (nv l')∧But (gB v) w wr from ⟨l',hp,hsame,hu.done (fun c h1 h2 h3=>by omega),hl,hb⟩)
   clear hp hsame hu hl hb hll
   go_wp2_with fail
   go_ret
   exact ⟨⟨_,rfl⟩,unhide HF⟩
  ·have hlr:Line wr 3 v l'.length (nv l'):=by rw[hll];exact hl
   by_cases h2:2*k+2<n
   ·have HL1:=hide (less_raw (i:=2*k+1+1) (I:=2*(k:Int)+1+1) (j:=2*k+1) (J:=2*(k:Int)+1) hlr (by omega) (by omega) (by omega) (by omega))
    have hm:=m_less wr b o v hc
    go_wp2_with fail
    refine (unhide HL1 wr (Still.refl _)).mono ?_
    clear HL1 hm
    rintro e w4 ⟨rfl,hst4⟩
    have hcW:w4.cell? ⟨b,o,none⟩=some v:=(hst4.cell _).trans hc
    have hlW:Line w4 3 v l'.length (nv l'):=hlr.same (fun g _=>by rw[hst4.heap])
    have hbW:But (gB v) w w4:=hb.trans (But.of_below hst4.below)
    clear hl hlr hb hc hst4
    by_cases h3:l'.getD (2*k+1+1) 0<l'.getD (2*k+1) 0
    ·have hd3:decide (l'.getD (2*k+1+1) 0<l'.getD (2*k+1) 0)=true:=decide_eq_true h3
     have hmin:∀ c,0<c→c<n→(c-1) / 2=k→l'.getD (2*k+1+1) 0≤l'.getD c 0:=fun c c1 c2 c3=>by
      rcases (by omega:c=2*k+1∨c=2*k+1+1) with e|e <;> rw[e] <;> omega
     rw[hd3]
     clear hd3 h3
     have HL2:=hide (less_raw (i:=2*k+1+1) (I:=2*(k:Int)+1+1) (j:=k) (J:=(k:Int)) hlW (by omega) (by omega) (by omega) (by omega))
     have HSw:=hide (swap_raw (i:=k) (I:=(k:Int)) (j:=2*k+1+1) (J:=2*(k:Int)+1+1) hlW (by omega) (by omega) (by omega) (by omega))
     have hm:=m_less w4 b o v hcW
     go_wp2_with fail
     refine (unhide HL2 w4 (Still.refl _)).mono ?_
     clear HL2 hm
     rintro e w5 ⟨rfl,hst5⟩
     have hc5:w5.cell? ⟨b,o,none⟩=some v:=(hst5.cell _).trans hcW
     have hm:=m_swap w5 b o v hc5
     by_cases hlt:l'.getD (2*k+1+1) 0<l'.getD k 0
     ·have hd:decide (l'.getD (2*k+1+1) 0<l'.getD k 0)=true:=decide_eq_true hlt
      rw[hd]
      clear hd
      have HU2:Hid (DnI n (fun q=>(swp l' k (2*k+1+1)).getD q 0) (2*k+1+1)):=hide (by
       rw[swp_get l' k (2*k+1+1) (by omega) (by omega)]
       exact hu.step (by omega) (by omega) (by omega) hmin hlt)
      have HQ:Hid (∀ q,n≤q→(swp l' k (2*k+1+1)).getD q 0=l.getD q 0):=hide (fun q hq=>by
       have:=congrFun (swp_get l' k (2*k+1+1) (by omega) (by omega)) q
       rw[this,swf_o _ _ _ _ (by omega) (by omega)];exact hsame q hq)
      have HP:Hid ((swp l' k (2*k+1+1)).Perm l):=hide ((swp_perm l' k (2*k+1+1) (by omega) (by omega)).trans hp)
      have HB5:Hid (But (gB v) w w5):=hide (hbW.trans (But.of_below hst5.below))
      have HSw2:=hide (unhide HSw w5 hst5)
      rw[hll] at HSw2
      clear HSw hu hp hbW hlW hst5 hcW hlt hmin hsame hll
      go_wp2_with fail
      refine (unhide HSw2).mono ?_
      clear HSw2 hm
      rintro e w6 ⟨rfl,hl6,hb6⟩
      have HR:=hide (show ∃ (k':Nat) (l':List Nat),(Value.int .i64 (2*(k:Int)+1+1))=.int .i64 (k':Nat)∧k'<l.length∧l'.Perm l∧(∀ q,n≤q→l'.getD q 0=l.getD q 0)∧DnI n (fun q=>l'.getD q 0) k'∧Line w6 3 v l.length (nv l')∧w6.cell? ⟨b,o,none⟩=some v∧But (gB v) w w6 from ⟨2*k+1+1,swp l' k (2*k+1+1),by congr 1,by omega,unhide HP,unhide HQ,unhide HU2,hl6,(hb6.cell (q:=⟨b,o,none⟩) (by have:=block_lt_of_cell hc5;simpa using this) hng).trans hc5,(unhide HB5).trans hb6⟩)
      clear hl6 hb6 HU2 HQ HP HB5 hc5
      go_wp2
      go_roundw
      case rel=>exact unhide HR
      case measure=>simp [intOf];omega
     ·have hd:decide (l'.getD (2*k+1+1) 0<l'.getD k 0)=false:=decide_eq_false hlt
      have HF:=hide (show ∃ l',l'.Perm l∧(∀ q,n≤q→l'.getD q 0=l.getD q 0)∧HO n (fun k=>l'.getD k 0)∧Line w5 3 v l.length (nv l')∧But (gB v) w w5 from ⟨l',hp,hsame,hu.done (fun c h1 h2 h3=>Nat.le_trans (Nat.le_of_not_lt hlt) (hmin c h1 h2 h3)),by rw[← hll];exact hlW.same (fun g _=>by rw[hst5.heap]),hbW.trans (But.of_below hst5.below)⟩)
      rw[hd]
      clear hd HSw hm hu hp hbW hlW hst5 hcW hlt hmin hsame hll hc5
      go_wp2_with fail
      go_ret
      exact ⟨⟨_,rfl⟩,unhide HF⟩
    ·have hd3:decide (l'.getD (2*k+1+1) 0<l'.getD (2*k+1) 0)=false:=decide_eq_false h3
     have hmin:∀ c,0<c→c<n→(c-1) / 2=k→l'.getD (2*k+1) 0≤l'.getD c 0:=fun c c1 c2 c3=>by
      rcases (by omega:c=2*k+1∨c=2*k+1+1) with e|e <;> rw[e] <;> omega
     rw[hd3]
     clear hd3 h3
     have HL2:=hide (less_raw (i:=2*k+1) (I:=2*(k:Int)+1) (j:=k) (J:=(k:Int)) hlW (by omega) (by omega) (by omega) (by omega))
     have HSw:=hide (swap_raw (i:=k) (I:=(k:Int)) (j:=2*k+1) (J:=2*(k:Int)+1) hlW (by omega) (by omega) (by omega) (by omega))
     have hm:=m_less w4 b o v hcW
     go_wp2_with fail
     refine (unhide HL2 w4 (Still.refl _)).mono ?_
     clear HL2 hm
     rintro e w5 ⟨rfl,hst5⟩
     have hc5:w5.cell? ⟨b,o,none⟩=some v:=(hst5.cell _).trans hcW
     have hm:=m_swap w5 b o v hc5
     by_cases hlt:l'.getD (2*k+1) 0<l'.getD k 0
     ·have hd:decide (l'.getD (2*k+1) 0<l'.getD k 0)=true:=decide_eq_true hlt
      rw[hd]
      clear hd
      have HU2:Hid (DnI n (fun q=>(swp l' k (2*k+1)).getD q 0) (2*k+1)):=hide (by
       rw[swp_get l' k (2*k+1) (by omega) (by omega)]
       exact hu.step (by omega) (by omega) (by omega) hmin hlt)
      have HQ:Hid (∀ q,n≤q→(swp l' k (2*k+1)).getD q 0=l.getD q 0):=hide (fun q hq=>by
       have:=congrFun (swp_get l' k (2*k+1) (by omega) (by omega)) q
       rw[this,swf_o _ _ _ _ (by omega) (by omega)];exact hsame q hq)
      have HP:Hid ((swp l' k (2*k+1)).Perm l):=hide ((swp_perm l' k (2*k+1) (by omega) (by omega)).trans hp)
      have HB5:Hid (But (gB v) w w5):=hide (hbW.trans (But.of_below hst5.below))
      have HSw2:=hide (unhide HSw w5 hst5)
      rw[hll] at HSw2
      clear HSw hu hp hbW hlW hst5 hcW hlt hmin hsame hll
      go_wp2_with fail
      refine (unhide HSw2).mono ?_
      clear HSw2 hm
      rintro e w6 ⟨rfl,hl6,hb6⟩
      have HR:=hide (show ∃ (k':Nat) (l':List Nat),(Value.int .i64 (2*(k:Int)+1))=.int .i64 (k':Nat)∧k'<l.length∧l'.Perm l∧(∀ q,n≤q→l'.getD q 0=l.getD q 0)∧DnI n (fun q=>l'.getD q 0) k'∧Line w6 3 v l.length (nv l')∧w6.cell? ⟨b,o,none⟩=some v∧But (gB v) w w6 from ⟨2*k+1,swp l' k (2*k+1),by congr 1,by omega,unhide HP,unhide HQ,unhide HU2,hl6,(hb6.cell (q:=⟨b,o,none⟩) (by have:=block_lt_of_cell hc5;simpa using this) hng).trans hc5,(unhide HB5).trans hb6⟩)
      clear hl6 hb6 HU2 HQ HP HB5 hc5
      go_wp2
      go_roundw
      case rel=>exact unhide HR
      case measure=>simp [intOf];omega
     ·have hd:decide (l'.getD (2*k+1) 0<l'.getD k 0)=false:=decide_eq_false hlt
      have HF:=hide (show ∃ l',l'.Perm l∧(∀ q,n≤q→l'.getD q 0=l.getD q 0)∧HO n (fun k=>l'.getD k 0)∧Line w5 3 v l.length (nv l')∧But (gB v) w w5 from ⟨l',hp,hsame,hu.done (fun c h1 h2 h3=>Nat.le_trans (Nat.le_of_not_lt hlt) (hmin c h1 h2 h3)),by rw[← hll];exact hlW.same (fun g _=>by rw[hst5.heap]),hbW.trans (But.of_below hst5.below)⟩)
      rw[hd]
      clear hd HSw hm hu hp hbW hlW hst5 hcW hlt hmin hsame hll hc5
      go_wp2_with fail
      go_ret
      exact ⟨⟨_,rfl⟩,unhide HF⟩
   ·have hmin:∀ c,0<c→c<n→(c-1) / 2=k→l'.getD (2*k+1) 0≤l'.getD c 0:=fun c c1 c2 c3=>by
     rw[show c=2*k+1 by omega];exact Nat.le_refl _
    have hcW:=hc
    have hlW:=hlr
    have hbW:=hb
    clear hl hlr hb hc
    have HL2:=hide (less_raw (i:=2*k+1) (I:=2*(k:Int)+1) (j:=k) (J:=(k:Int)) hlW (by omega) (by omega) (by omega) (by omega))
    have HSw:=hide (swap_raw (i:=k) (I:=(k:Int)) (j:=2*k+1) (J:=2*(k:Int)+1) hlW (by omega) (by omega) (by omega) (by omega))
    have hm:=m_less wr b o v hcW
    go_wp2_with fail
    refine (unhide HL2 wr (Still.refl _)).mono ?_
    clear HL2 hm
    rintro e w5 ⟨rfl,hst5⟩
    have hc5:w5.cell? ⟨b,o,none⟩=some v:=(hst5.cell _).trans hcW
    have hm:=m_swap w5 b o v hc5
    by_cases hlt:l'.getD (2*k+1) 0<l'.getD k 0
    ·have hd:decide (l'.getD (2*k+1) 0<l'.getD k 0)=true:=decide_eq_true hlt
     rw[hd]
     clear hd
     have HU2:Hid (DnI n (fun q=>(swp l' k (2*k+1)).getD q 0) (2*k+1)):=hide (by
      rw[swp_get l' k (2*k+1) (by omega) (by omega)]
      exact hu.step (by omega) (by omega) (by omega) hmin hlt)
     have HQ:Hid (∀ q,n≤q→(swp l' k (2*k+1)).getD q 0=l.getD q 0):=hide (fun q hq=>by
      have:=congrFun (swp_get l' k (2*k+1) (by omega) (by omega)) q
      rw[this,swf_o _ _ _ _ (by omega) (by omega)];exact hsame q hq)
     have HP:Hid ((swp l' k (2*k+1)).Perm l):=hide ((swp_perm l' k (2*k+1) (by omega) (by omega)).trans hp)
     have HB5:Hid (But (gB v) w w5):=hide (hbW.trans (But.of_below hst5.below))
     have HSw2:=hide (unhide HSw w5 hst5)
     rw[hll] at HSw2
     clear HSw hu hp hbW hlW hst5 hcW hlt hmin hsame hll
     go_wp2_with fail
     refine (unhide HSw2).mono ?_
     clear HSw2 hm
     rintro e w6 ⟨rfl,hl6,hb6⟩
     have HR:=hide (show ∃ (k':Nat) (l':List Nat),(Value.int .i64 (2*(k:Int)+1))=.int .i64 (k':Nat)∧k'<l.length∧l'.Perm l∧(∀ q,n≤q→l'.getD q 0=l.getD q 0)∧DnI n (fun q=>l'.getD q 0) k'∧Line w6 3 v l.length (nv l')∧w6.cell? ⟨b,o,none⟩=some v∧But (gB v) w w6 from ⟨2*k+1,swp l' k (2*k+1),by congr 1,by omega,unhide HP,unhide HQ,unhide HU2,hl6,(hb6.cell (q:=⟨b,o,none⟩) (by have:=block_lt_of_cell hc5;simpa using this) hng).trans hc5,(unhide HB5).trans hb6⟩)
     clear hl6 hb6 HU2 HQ HP HB5 hc5
     go_wp2
     go_roundw
     case rel=>exact unhide HR
     case measure=>simp [intOf];omega
    ·have hd:decide (l'.getD (2*k+1) 0<l'.getD k 0)=false:=decide_eq_false hlt
     have HF:=hide (show ∃ l',l'.Perm l∧(∀ q,n≤q→l'.getD q 0=l.getD q 0)∧HO n (fun k=>l'.getD k 0)∧Line w5 3 v l.length (nv l')∧But (gB v) w w5 from ⟨l',hp,hsame,hu.done (fun c h1 h2 h3=>Nat.le_trans (Nat.le_of_not_lt hlt) (hmin c h1 h2 h3)),by rw[← hll];exact hlW.same (fun g _=>by rw[hst5.heap]),hbW.trans (But.of_below hst5.below)⟩)
     rw[hd]
     clear hd HSw hm hu hp hbW hlW hst5 hcW hlt hmin hsame hll hc5
     go_wp2_with fail
     go_ret
     exact ⟨⟨_,rfl⟩,unhide HF⟩
end Go.Proofs.YtnfbaapbpgbgpaaGreat
namespace Go.Proofs.YtnfbaapbpgbgpaaGreat
set_option linter.unusedVariables false
end Go.Proofs.YtnfbaapbpgbgpaaGreat
