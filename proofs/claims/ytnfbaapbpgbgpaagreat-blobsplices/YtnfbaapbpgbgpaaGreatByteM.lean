import Derived.Test.YtnfbaapbpgbgpaaGreatTwin
import Derived.Deep.RegionHeld3
import Derived.Test.YtnfbaapbpgbgpaaGreatPoolMath
namespace Go.Proofs.YtnfbaapbpgbgpaaGreat
open Go.ChangeShapes Go.WideShapes Go.ChangeAt Go.RowKit
set_option linter.unusedVariables false
set_option linter.unusedSimpArgs false
set_option maxRecDepth 100000
set_option maxHeartbeats 4000000
def Cells5 (W:World) (b:Nat) (v0 v1 v2 v3 v4:Value):Prop:=W.cell? ⟨b,0,none⟩=some v0∧W.cell? ⟨b,1,none⟩=some v1∧W.cell? ⟨b,2,none⟩=some v2∧W.cell? ⟨b,3,none⟩=some v3∧W.cell? ⟨b,4,none⟩=some v4
theorem splices_walk {w W0:World}{a1 a3:Option Addr}{c1 c2 c3 n3 at' yb yo nA nB L:Nat}{Nn:Int}{fA fB fG:Nat→Nat} (hA:nA≤4096) (hB0:0<nB) (hat:at'+nB≤4096) (hL:L=max nA (at'+nB))
  (hW0:w.alloc (.cells #[.slice a1 nA c1,.slice (some ⟨yb,yo,none⟩) nB c2,.int .i64 (at':Nat),.int .i64 Nn,.slice a3 n3 c3] 25)=W0)
  {K:World→Prop} (KS:∀ W W',K W→Still W W'→K W')
  (KC:∀ W,K W→Cells5 W w.heap.size (.slice a1 nA c1) (.slice (some ⟨yb,yo,none⟩) nB c2) (.int .i64 (at':Nat)) (.int .i64 Nn) (.slice a3 n3 c3))
  (KA:∀ W,K W→∀ j,j<nA→∃ ab ao,a1=some ⟨ab,ao,none⟩∧W.cell? ⟨ab,ao+j,none⟩=some (.int .u8 (fA j:Nat)))
  (KB:∀ W,K W→∀ j,j<nB→W.cell? ⟨yb,yo+j,none⟩=some (.int .u8 (fB j:Nat)))
  (fg:∀ j,j<L→fG j=if at'≤j∧j<at'+nB then fB (j-at') else if j<nA then fA j else 0)
  (H10:∀ W (x:Int),Calls Tryz.prog 10 #[.int .i64 x] W fun e w'=>e=.returned (.int .i64 x)∧Still W w')
  {G1:Nat→World→Prop}{G2 G3:Nat→Nat→World→Prop}{G4 G5:Nat→Nat→Nat→World→Prop}{G6:Nat→Nat→Nat→Bool→World→Prop}{G7 G8:Nat→Nat→Nat→Bool→World→Prop}{G9:Nat→Nat→Nat→Bool→Nat→World→Prop}{G10:Nat→Nat→Nat→Bool→Nat→World→Prop}{G11:Nat→Nat→Nat→Bool→Nat→Nat→World→Prop}{G12:Nat→Nat→Bool→Nat→World→Prop}{G13:Nat→Nat→Bool→Nat→Nat→World→Prop}{G14:Bool→Nat→Nat→Nat→World→Prop}{R:World→Prop}
  (A9:Calls Tryz.prog 9 #[.int .i64 262144] W0 fun e w'=>∃ ph:Nat,e=.returned (.tuple #[.pointer (some ⟨ph,0,none⟩),.int .i64 0])∧K w'∧G1 ph w')
  (A11:∀ ph W W',G1 ph W→Still W W'→Calls Tryz.prog 11 #[.pointer (some ⟨ph,0,none⟩),.slice a1 nA c1] W' fun e w'=>∃ m:Nat,e=.returned (.int .i64 ((m:Int)+1))∧K w'∧G2 ph m w')
  (A12:∀ ph m W W',G2 ph m W→Still W W'→Calls Tryz.prog 12 #[.pointer (some ⟨ph,0,none⟩),.slice a3 n3 c3] W' fun e w'=>e=.returned (.tuple #[])∧K w'∧G3 ph m w')
  (A13:∀ ph m W W',G3 ph m W→Still W W'→Calls Tryz.prog 13 #[.pointer (some ⟨ph,0,none⟩),.int .i64 ((m:Int)+1)] W' fun e w'=>∃ x:Nat,e=.returned (.int .u64 (x:Nat))∧K w'∧G4 ph m x w')
  (A14:∀ ph m x W W',G4 ph m x W→Still W W'→Calls Tryz.prog 14 #[.pointer (some ⟨ph,0,none⟩),.int .u64 (x:Nat),.int .i64 (at':Nat),.slice (some ⟨yb,yo,none⟩) nB c2] W' fun e w'=>∃ v:Nat,e=.returned (.tuple #[.int .u64 (v:Nat),.int .i64 0])∧K w'∧G5 ph m v w')
  (A13b:∀ ph m v W W',G5 ph m v W→Still W W'→Calls Tryz.prog 13 #[.pointer (some ⟨ph,0,none⟩),.int .i64 ((m:Int)+1)] W' fun e w'=>∃ (x:Nat) (sm:Bool),e=.returned (.int .u64 (x:Nat))∧decide (v=x)=sm∧K w'∧G6 ph m v sm w')
  (A15:∀ ph m v sm W W',G6 ph m v sm W→Still W W'→Calls Tryz.prog 15 #[.pointer (some ⟨ph,0,none⟩),.int .u64 (v:Nat)] W' fun e w'=>∃ k:Nat,e=.returned (.tuple #[.int .i64 ((k:Int)+1),.int .i64 0])∧K w'∧G7 ph m k sm w')
  (A12b:∀ ph m k sm W W',G7 ph m k sm W→Still W W'→Calls Tryz.prog 12 #[.pointer (some ⟨ph,0,none⟩),.slice a3 n3 c3] W' fun e w'=>e=.returned (.tuple #[])∧K w'∧G8 ph m k sm w')
  (A13c:∀ ph m k sm W W',G8 ph m k sm W→Still W W'→Calls Tryz.prog 13 #[.pointer (some ⟨ph,0,none⟩),.int .i64 ((k:Int)+1)] W' fun e w'=>∃ x:Nat,e=.returned (.int .u64 (x:Nat))∧K w'∧G9 ph m k sm x w')
  (A16:∀ ph m k sm x W W',G9 ph m k sm x W→Still W W'→Calls Tryz.prog 16 #[.pointer (some ⟨ph,0,none⟩),.int .u64 (x:Nat)] W' fun e w'=>∃ g:Nat,e=.returned (.tuple #[.slice (some ⟨g,0,none⟩) L L,.int .i64 0])∧K w'∧G10 ph m k sm g w')
  (A13d:∀ ph m k sm g W W',G10 ph m k sm g W→Still W W'→Calls Tryz.prog 13 #[.pointer (some ⟨ph,0,none⟩),.int .i64 ((k:Int)+1)] W' fun e w'=>∃ x:Nat,e=.returned (.int .u64 (x:Nat))∧K w'∧G11 ph m k sm g x w')
  (A17:∀ ph m k sm g x W W',G11 ph m k sm g x W→Still W W'→Calls Tryz.prog 17 #[.pointer (some ⟨ph,0,none⟩),.int .u64 (x:Nat)] W' fun e w'=>e=.returned (.tuple #[.int .i64 (L:Nat),.int .i64 0])∧K w'∧(∀ j,j<L→w'.cell? ⟨g,j,none⟩=some (.int .u8 (fG j:Nat)))∧G12 ph m sm g w')
  (A13e:∀ ph m sm g W W',G12 ph m sm g W→Still W W'→Calls Tryz.prog 13 #[.pointer (some ⟨ph,0,none⟩),.int .i64 ((m:Int)+1)] W' fun e w'=>∃ x:Nat,e=.returned (.int .u64 (x:Nat))∧K w'∧G13 ph m sm g x w')
  (A16b:∀ ph m sm g x W W',G13 ph m sm g x W→Still W W'→Calls Tryz.prog 16 #[.pointer (some ⟨ph,0,none⟩),.int .u64 (x:Nat)] W' fun e w'=>∃ g2 n2:Nat,e=.returned (.tuple #[.slice (some ⟨g2,0,none⟩) n2 n2,.int .i64 0])∧K w'∧G14 sm g g2 n2 w')
  (A18a:∀ g g2 n2 W W',G14 true g g2 n2 W→Still W W'→Calls Tryz.prog 18 #[.slice (some ⟨g2,0,none⟩) n2 n2,.slice (some ⟨g,0,none⟩) L L] W' fun e w'=>e=.returned (.bool true)∧R w')
  (A18b:∀ g g2 n2 W W',G14 false g g2 n2 W→Still W W'→Calls Tryz.prog 18 #[.slice (some ⟨g2,0,none⟩) n2 n2,.slice a1 nA c1] W' fun e w'=>e=.returned (.bool true)∧R w'):
  Calls Tryz.prog 3 #[.agg #[.slice a1 nA c1,.slice (some ⟨yb,yo,none⟩) nB c2,.int .i64 (at':Nat),.int .i64 Nn,.slice a3 n3 c3]] w fun e w'=>e=.returned (.bool true)∧R w':=by
 obtain ⟨bx,hbx⟩:∃ bx,w.heap.size=bx:=⟨_,rfl⟩
 have C0:=KC
 rw[hbx] at C0
 have HC:=hide C0
 have B9:=hide A9
 have B10:=hide H10
 have B11:=hide A11
 have B12:=hide A12
 have B13:=hide A13
 have B14:=hide A14
 have B13b:=hide A13b
 have B15:=hide A15
 have B12b:=hide A12b
 have B13c:=hide A13c
 have B16:=hide A16
 have B13d:=hide A13d
 have B17:=hide A17
 have B13e:=hide A13e
 have B16b:=hide A16b
 have B18a:=hide A18a
 have B18b:=hide A18b
 have HS:=hide KS
 have HKA:=hide KA
 have HKB:=hide KB
 have HFG:=hide fg
 have HN:=hide (And.intro hA (And.intro hB0 (And.intro hat hL)))
 have d1:decide ((4096:Int)<(nA:Nat))=false:=decide_eq_false (by omega)
 have d1':(4096<nA)=False:=eq_false (by omega)
 have d2:((nB:Int) == 0)=false:=by simp;omega
 have d2':((nB:Int)=0)=False:=eq_false (by omega)
 have d2'':(nB=0)=False:=eq_false (by omega)
 have d3:decide ((at':Int)<0)=false:=decide_eq_false (by omega)
 have w1:IntKind.i64.wrap (4096-(nB:Int))=4096-(nB:Int):=wrap_small _ (by omega) (by omega)
 have d4:decide (4096-(nB:Int)<(at':Nat))=false:=decide_eq_false (by omega)
 have d4':(4096-(nB:Int)<(at':Nat))=False:=eq_false (by omega)
 have d5:decide ((4096:Int)<(nB:Nat))=false:=decide_eq_false (by omega)
 have d5':(4096<nB)=False:=eq_false (by omega)
 have q0:W0.cell? ⟨bx,0,none⟩=some (.slice a1 nA c1):=by rw[← hW0,← hbx];simp only[World.cell?,heap_alloc_new];rfl
 have q1:W0.cell? ⟨bx,1,none⟩=some (.slice (some ⟨yb,yo,none⟩) nB c2):=by rw[← hW0,← hbx];simp only[World.cell?,heap_alloc_new];rfl
 have q2:W0.cell? ⟨bx,2,none⟩=some (.int .i64 (at':Nat)):=by rw[← hW0,← hbx];simp only[World.cell?,heap_alloc_new];rfl
 clear C0 KC A9 H10 A11 A12 A13 A14 A13b A15 A12b A13c A16 A13d A17 A13e A16b A18a A18b KS KA KB fg hA hB0 hat hL
 go_enter Tryz.func3,Tryz.ntmps3
 go_wp2_with fail
 refine (unhide B9).mono ?_
 rintro e v1 ⟨ph,rfl,k1,g1⟩
 have KK:=hide k1
 have GG:=hide g1
 clear g1 k1 B9 q0 q1 q2
 go_wp2_with fail
 refine (unhide B10 _ _).mono ?_
 rintro e v2 ⟨rfl,s2⟩
 have K2:=hide (unhide HS _ _ (unhide KK) s2)
 have D:=hide (unhide B11 _ _ _ (unhide GG) s2)
 clear s2 KK GG B11
 obtain ⟨x0,x1,x2,x3,x4⟩:=unhide HC _ (unhide K2)
 clear K2
 go_wp2_with fail
 refine (unhide D).mono ?_
 rintro e v3 ⟨m,rfl,k3,g3⟩
 have D2:=hide (unhide B12 _ _ _ _ g3 (Still.refl _))
 clear D x0 x1 x2 x3 x4 g3 B12
 obtain ⟨x0,x1,x2,x3,x4⟩:=unhide HC _ k3
 clear k3
 go_wp2_with fail
 refine (unhide D2).mono ?_
 rintro e v4 ⟨rfl,k4,g4⟩
 have D3:=hide (unhide B13 _ _ _ _ g4 (Still.refl _))
 clear D2 x0 x1 x2 x3 x4 g4 B13 k4
 go_wp2_with fail
 refine (unhide D3).mono ?_
 rintro e v5 ⟨x,rfl,k5,g5⟩
 have D4:=hide (unhide B14 _ _ _ _ _ g5 (Still.refl _))
 clear D3 g5 B14
 obtain ⟨x0,x1,x2,x3,x4⟩:=unhide HC _ k5
 clear k5
 go_wp2_with fail
 refine (unhide D4).mono ?_
 rintro e v6 ⟨v,rfl,k6,g6⟩
 have K6:=hide k6
 have G6':=hide g6
 clear D4 x0 x1 x2 x3 x4 g6 k6
 have n1:((m:Int)+1 == 0)=false:=by simp;omega
 have n1':((m:Int)+1=0)=False:=eq_false (by omega)
 go_wp2_with fail
 refine (unhide B10 _ _).mono ?_
 rintro e v7 ⟨rfl,s7⟩
 have D5:=hide (unhide B13b _ _ _ _ _ (unhide G6') s7)
 clear s7 K6 G6' B13b
 go_wp2_with fail
 refine (unhide D5).mono ?_
 rintro e v8 ⟨xx,sm,rfl,hsm,k8,g8⟩
 have D6:=hide (unhide B15 _ _ _ _ _ _ g8 (Still.refl _))
 have e8:decide ((v:Int)=(xx:Nat))=sm:=by rw[← hsm];exact decide_eq_decide.2 (by omega)
 have e8':((v:Int) == (xx:Nat))=sm:=by rw[← e8];rfl
 clear D5 g8 B15 k8
 go_wp2_with fail
 refine (unhide D6).mono ?_
 rintro e v9 ⟨k,rfl,k9,g9⟩
 have D7:=hide (unhide B12b _ _ _ _ _ _ g9 (Still.refl _))
 clear D6 g9 B12b hsm e8 e8'
 obtain ⟨x0,x1,x2,x3,x4⟩:=unhide HC _ k9
 clear k9
 go_wp2_with fail
 refine (unhide D7).mono ?_
 rintro e v10 ⟨rfl,k10,g10⟩
 have D8:=hide (unhide B13c _ _ _ _ _ _ g10 (Still.refl _))
 clear D7 g10 B13c k10 x0 x1 x2 x3 x4
 go_wp2_with fail
 refine (unhide D8).mono ?_
 rintro e v11 ⟨y1,rfl,k11,g11⟩
 have D9:=hide (unhide B16 _ _ _ _ _ _ _ g11 (Still.refl _))
 clear D8 g11 B16 k11
 go_wp2_with fail
 refine (unhide D9).mono ?_
 rintro e v12 ⟨g,rfl,k12,g12⟩
 have D10:=hide (unhide B13d _ _ _ _ _ _ _ g12 (Still.refl _))
 clear D9 g12 B13d k12
 go_wp2_with fail
 refine (unhide D10).mono ?_
 rintro e v13 ⟨y2,rfl,k13,g13⟩
 have D11:=hide (unhide B17 _ _ _ _ _ _ _ _ g13 (Still.refl _))
 clear D10 g13 B17 k13
 go_wp2_with fail
 refine (unhide D11).mono ?_
 rintro e v14 ⟨rfl,k14,c14,g14⟩
 have K14:=hide k14
 have C14:=hide c14
 have G14':=hide g14
 clear D11 g14 k14 c14
 go_wp2_with fail
 refine (unhide B10 _ _).mono ?_
 rintro e v15 ⟨rfl,s15⟩
 have S15:=hide s15
 clear s15
 go_wp2_with fail
 refine (unhide B10 _ _).mono ?_
 rintro e v16 ⟨rfl,s16⟩
 have S16:=hide ((unhide S15).trans s16)
 clear s16 S15
 go_wp2_with fail
 refine (unhide B10 _ _).mono ?_
 rintro e v17 ⟨rfl,s17⟩
 have S17:=hide ((unhide S16).trans s17)
 clear s17 S16
 have K17:=hide (unhide HS _ _ (unhide K14) (unhide S17))
 have C17:Hid (∀ j,j<L→v17.cell? ⟨g,j,none⟩=some (.int .u8 (fG j:Nat))):=hide (fun j hj=>by
  have q:=unhide C14 j hj
  rw[(unhide S17).below.cell (p:=⟨g,j,none⟩) (block_lt_of_cell q)]
  exact q)
 obtain ⟨x0,x1,x2,x3,x4⟩:=unhide HC _ (unhide K17)
 have w2:IntKind.i64.wrap ((at':Int)+(nB:Nat))=(at':Int)+(nB:Nat):=wrap_small _ (by have:=unhide HN;omega) (by have:=unhide HN;omega)
 have hcs:(L=at'+nB∧((nA:Int)<(at':Int)+(nB:Nat))=True∧((at':Int)+(nB:Nat)<(nA:Int))=False)∨(L=nA∧((nA:Int)<(at':Int)+(nB:Nat))=False):=by
  have h4:=(unhide HN).2.2.2
  by_cases q:nA<at'+nB
  ·exact .inl ⟨by omega,eq_true (by omega),eq_false (by omega)⟩
  ·exact .inr ⟨by omega,eq_false (by omega)⟩
 have LEFT:Hid (∀ W',Still v17 W'→K W'∧(∀ j,j<L→W'.cell? ⟨g,j,none⟩=some (.int .u8 (fG j:Nat)))∧Still v14 W'):=hide (fun W' s=>⟨unhide HS _ _ (unhide K17) s,fun j hj=>by
  have q:=unhide C17 j hj
  rw[s.below.cell (p:=⟨g,j,none⟩) (block_lt_of_cell q)]
  exact q,(unhide S17).trans s⟩)
 clear S17 K17 C17 K14 C14
 rcases hcs with ⟨hL,z1,z2⟩|⟨hL,z1⟩
 ·subst hL
  go_wp2_with fail
  clear x0 x1 x2 x3 x4
  go_loopw [14] (fun iv wr=>∃ i:Nat,iv=.int .i64 (i:Nat)∧i≤(at'+nB)∧Hid (Still v17 wr)) (fun iv _=>(at'+nB)-(intOf iv).toNat)
  case atStart=>exact ⟨0,rfl,Nat.zero_le _,hide (Still.refl _)⟩
  case round=>
   obtain ⟨i,rfl,hi,hS⟩:=hrel
   obtain ⟨kW,cW,sW⟩:=unhide LEFT _ (unhide hS)
   have hb4:(at'+nB)≤8192:=by have:=unhide HN;omega
   have u1:IntKind.i64.wrap ((i:Int)+1)=(i:Int)+1:=wrap_small _ (by omega) (by omega)
   by_cases hlt:i<(at'+nB)
   ·have ci:=cW i hlt
    have fi:=unhide HFG i hlt
    obtain ⟨x0,x1,x2,x3,x4⟩:=unhide HC _ kW
    have t0:decide ((i:Int)<(at':Int)+(nB:Nat))=true:=decide_eq_true (by omega)
    have t0':((i:Int)<(at':Int)+(nB:Nat))=True:=eq_true (by omega)
    have t0'':(i<(at'+nB))=True:=eq_true hlt
    have i0:(0:Int)≤(i:Nat):=by omega
    have i1:(i:Int)<(at':Int)+(nB:Nat):=by omega
    have FI1:Hid (i+1≤(at'+nB)∧(at'+nB)-(i+1)<(at'+nB)-i):=hide ⟨by omega,by omega⟩
    by_cases ha:at'≤i∧i<at'+nB
    ·rw[if_pos ha] at fi
     have cb:=unhide HKB _ kW (i-at') (by omega)
     rw[fi] at ci
     obtain ⟨d,hd⟩:∃ d,i-at'=d:=⟨_,rfl⟩
     rw[hd] at cb ci
     have t1:decide ((at':Int)≤(i:Nat))=true:=decide_eq_true (by omega)
     have t1':(at'≤i)=True:=eq_true ha.1
     have t2:decide ((i:Int)<(at':Int)+(nB:Nat))=true:=decide_eq_true (by omega)
     have t2':((i:Int)<(at':Int)+(nB:Nat))=True:=eq_true (by omega)
     have sb:IntKind.i64.wrap ((i:Int)-(at':Nat))=(d:Nat):=by rw[show (i:Int)-(at':Nat)=(d:Nat) by omega];exact wrap_small _ (by omega) (by omega)
     have sb':wrap64 ((i:Int)-(at':Nat))=(d:Nat):=by unfold wrap64;omega
     have e0:(0:Int)≤(d:Nat):=by omega
     have e1:(d:Int)<(nB:Nat):=by omega
     have e1':(d<nB)=True:=eq_true (by omega)
     clear kW cW sW fi ha hd hi hlt hb4
     go_wp2_with fail
     all_goals go_roundw
     all_goals first|exact ⟨i+1,by simp,(unhide FI1).1,hS⟩|(have:=unhide FI1;simp [intOf];omega)
    ·rw[if_neg ha] at fi
     have hg:decide ((at':Int)≤(i:Nat))=false∧(at'≤i)=False:=by
      by_cases q:at'≤i
      ·exact (by omega:False).elim
      ·exact ⟨decide_eq_false (by omega),eq_false q⟩
     by_cases hn:i<nA
     ·rw[if_pos hn] at fi
      rw[fi] at ci
      obtain ⟨ab,ao,ea,ca⟩:=unhide HKA _ kW i hn
      rw[ea] at x0
      have t3:decide ((i:Int)<(nA:Nat))=true:=decide_eq_true (by omega)
      have t3':(i<nA)=True:=eq_true hn
      have i2:(i:Int)<(nA:Nat):=by omega
      clear kW cW sW fi ha hi hlt hb4 hn ea
      rcases hg with ⟨t1,t1'⟩
      all_goals go_wp2_with fail
      all_goals go_roundw
      all_goals first|exact ⟨i+1,by simp,(unhide FI1).1,hS⟩|(have:=unhide FI1;simp [intOf];omega)
     ·rw[if_neg hn] at fi
      rw[fi] at ci
      have t3:decide ((i:Int)<(nA:Nat))=false:=decide_eq_false (by omega)
      have t3':(i<nA)=False:=eq_false hn
      clear kW cW sW fi ha hi hlt hb4 hn
      rcases hg with ⟨t1,t1'⟩
      all_goals go_wp2_with fail
      all_goals go_roundw
      all_goals first|exact ⟨i+1,by simp,(unhide FI1).1,hS⟩|(have:=unhide FI1;simp [intOf];omega)
   ·have t0:decide ((i:Int)<(at':Int)+(nB:Nat))=false:=decide_eq_false (by omega)
    have t0':((i:Int)<(at':Int)+(nB:Nat))=False:=eq_false (by omega)
    have t0'':(i<(at'+nB))=False:=eq_false hlt
    have D12:=hide (unhide B13e _ _ _ _ _ _ (unhide G14') sW)
    clear kW cW sW hlt hi hb4
    go_wp2_with fail
    refine (unhide D12).mono ?_
    rintro e v20 ⟨y3,rfl,k20,g20⟩
    have D13:=hide (unhide B16b _ _ _ _ _ _ _ g20 (Still.refl _))
    clear D12 k20 g20
    go_wp2_with fail
    refine (unhide D13).mono ?_
    rintro e v21 ⟨g2,n2,rfl,k21,g21⟩
    have K21:=hide k21
    have G21:=hide g21
    clear D13 k21 g21
    go_wp2_with fail
    refine (unhide B10 _ _).mono ?_
    rintro e v22 ⟨rfl,s22⟩
    have K22:=hide (unhide HS _ _ (unhide K21) s22)
    have S22:=hide s22
    clear s22 K21
    obtain ⟨x0,x1,x2,x3,x4⟩:=unhide HC _ (unhide K22)
    cases sm with
    | true=>
     have D14:=hide (unhide B18a _ _ _ _ _ (unhide G21) (unhide S22))
     clear S22 G21 K22
     go_wp2_with fail
     refine (unhide D14).mono ?_
     rintro e v23 ⟨rfl,hR⟩
     have HR:=hide hR
     clear hR D14 x0 x1 x2 x3 x4
     go_wp2_with fail
     all_goals go_ret
     all_goals exact ⟨rfl,unhide HR⟩
    | false=>
     have D14:=hide (unhide B18b _ _ _ _ _ (unhide G21) (unhide S22))
     clear S22 G21 K22
     go_wp2_with fail
     refine (unhide D14).mono ?_
     rintro e v23 ⟨rfl,hR⟩
     have HR:=hide hR
     clear hR D14 x0 x1 x2 x3 x4
     go_wp2_with fail
     all_goals go_ret
     all_goals exact ⟨rfl,unhide HR⟩
 ·subst hL
  go_wp2_with fail
  clear x0 x1 x2 x3 x4
  go_loopw [14] (fun iv wr=>∃ i:Nat,iv=.int .i64 (i:Nat)∧i≤L∧Hid (Still v17 wr)) (fun iv _=>L-(intOf iv).toNat)
  case atStart=>exact ⟨0,rfl,Nat.zero_le _,hide (Still.refl _)⟩
  case round=>
   obtain ⟨i,rfl,hi,hS⟩:=hrel
   obtain ⟨kW,cW,sW⟩:=unhide LEFT _ (unhide hS)
   have hb4:L≤8192:=by have:=unhide HN;omega
   have u1:IntKind.i64.wrap ((i:Int)+1)=(i:Int)+1:=wrap_small _ (by omega) (by omega)
   by_cases hlt:i<L
   ·have ci:=cW i hlt
    have fi:=unhide HFG i hlt
    obtain ⟨x0,x1,x2,x3,x4⟩:=unhide HC _ kW
    have t0:decide ((i:Int)<(L:Int))=true:=decide_eq_true (by omega)
    have t0':((i:Int)<(L:Int))=True:=eq_true (by omega)
    have t0'':(i<L)=True:=eq_true hlt
    have i0:(0:Int)≤(i:Nat):=by omega
    have i1:(i:Int)<(L:Int):=by omega
    have FI1:Hid (i+1≤L∧L-(i+1)<L-i):=hide ⟨by omega,by omega⟩
    by_cases ha:at'≤i∧i<at'+nB
    ·rw[if_pos ha] at fi
     have cb:=unhide HKB _ kW (i-at') (by omega)
     rw[fi] at ci
     obtain ⟨d,hd⟩:∃ d,i-at'=d:=⟨_,rfl⟩
     rw[hd] at cb ci
     have t1:decide ((at':Int)≤(i:Nat))=true:=decide_eq_true (by omega)
     have t1':(at'≤i)=True:=eq_true ha.1
     have t2:decide ((i:Int)<(at':Int)+(nB:Nat))=true:=decide_eq_true (by omega)
     have t2':((i:Int)<(at':Int)+(nB:Nat))=True:=eq_true (by omega)
     have sb:IntKind.i64.wrap ((i:Int)-(at':Nat))=(d:Nat):=by rw[show (i:Int)-(at':Nat)=(d:Nat) by omega];exact wrap_small _ (by omega) (by omega)
     have sb':wrap64 ((i:Int)-(at':Nat))=(d:Nat):=by unfold wrap64;omega
     have e0:(0:Int)≤(d:Nat):=by omega
     have e1:(d:Int)<(nB:Nat):=by omega
     have e1':(d<nB)=True:=eq_true (by omega)
     clear kW cW sW fi ha hd hi hlt hb4
     go_wp2_with fail
     all_goals go_roundw
     all_goals first|exact ⟨i+1,by simp,(unhide FI1).1,hS⟩|(have:=unhide FI1;simp [intOf];omega)
    ·rw[if_neg ha] at fi
     have hg:(decide ((at':Int)≤(i:Nat))=false∧(at'≤i)=False)∨(decide ((at':Int)≤(i:Nat))=true∧(at'≤i)=True∧decide ((i:Int)<(at':Int)+(nB:Nat))=false∧((i:Int)<(at':Int)+(nB:Nat))=False):=by
      by_cases q:at'≤i
      ·exact .inr ⟨decide_eq_true (by omega),eq_true q,decide_eq_false (by omega),eq_false (by omega)⟩
      ·exact .inl ⟨decide_eq_false (by omega),eq_false q⟩
     by_cases hn:i<L
     ·rw[if_pos hn] at fi
      rw[fi] at ci
      obtain ⟨ab,ao,ea,ca⟩:=unhide HKA _ kW i hn
      rw[ea] at x0
      have t3:decide ((i:Int)<(L:Nat))=true:=decide_eq_true (by omega)
      have t3':(i<L)=True:=eq_true hn
      have i2:(i:Int)<(L:Nat):=by omega
      clear kW cW sW fi ha hi hlt hb4 hn ea
      rcases hg with ⟨t1,t1'⟩|⟨t1,t1',t2,t2'⟩
      all_goals go_wp2_with fail
      all_goals go_roundw
      all_goals first|exact ⟨i+1,by simp,(unhide FI1).1,hS⟩|(have:=unhide FI1;simp [intOf];omega)
     ·exact absurd hlt hn
   ·have t0:decide ((i:Int)<(L:Int))=false:=decide_eq_false (by omega)
    have t0':((i:Int)<(L:Int))=False:=eq_false (by omega)
    have t0'':(i<L)=False:=eq_false hlt
    have D12:=hide (unhide B13e _ _ _ _ _ _ (unhide G14') sW)
    clear kW cW sW hlt hi hb4
    go_wp2_with fail
    refine (unhide D12).mono ?_
    rintro e v20 ⟨y3,rfl,k20,g20⟩
    have D13:=hide (unhide B16b _ _ _ _ _ _ _ g20 (Still.refl _))
    clear D12 k20 g20
    go_wp2_with fail
    refine (unhide D13).mono ?_
    rintro e v21 ⟨g2,n2,rfl,k21,g21⟩
    have K21:=hide k21
    have G21:=hide g21
    clear D13 k21 g21
    go_wp2_with fail
    refine (unhide B10 _ _).mono ?_
    rintro e v22 ⟨rfl,s22⟩
    have K22:=hide (unhide HS _ _ (unhide K21) s22)
    have S22:=hide s22
    clear s22 K21
    obtain ⟨x0,x1,x2,x3,x4⟩:=unhide HC _ (unhide K22)
    cases sm with
    | true=>
     have D14:=hide (unhide B18a _ _ _ _ _ (unhide G21) (unhide S22))
     clear S22 G21 K22
     go_wp2_with fail
     refine (unhide D14).mono ?_
     rintro e v23 ⟨rfl,hR⟩
     have HR:=hide hR
     clear hR D14 x0 x1 x2 x3 x4
     go_wp2_with fail
     all_goals go_ret
     all_goals exact ⟨rfl,unhide HR⟩
    | false=>
     have D14:=hide (unhide B18b _ _ _ _ _ (unhide G21) (unhide S22))
     clear S22 G21 K22
     go_wp2_with fail
     refine (unhide D14).mono ?_
     rintro e v23 ⟨rfl,hR⟩
     have HR:=hide hR
     clear hR D14 x0 x1 x2 x3 x4
     go_wp2_with fail
     all_goals go_ret
     all_goals exact ⟨rfl,unhide HR⟩
set_option maxHeartbeats 2000000
def nv (l:List Nat) (j:Nat):Value:=.int .i64 (l.getD j 0:Nat)
def gB (v:Value):List Nat:=(v.ownBlock).toList
theorem nv_int (l:List Nat) (k:Nat) (h:k<l.length):l.getD k 0=l[k]:=by
 rw[List.getD_eq_getElem?_getD,List.getElem?_eq_getElem h];rfl
theorem less_any {w:World}{v:Value}{l:List Nat} (h:Line w 3 v l.length (nv l)) (i j:Nat) (hi:i<l.length) (hj:j<l.length):
  Calls Tryz.prog 203 #[v,.int .i64 (i:Nat),.int .i64 (j:Nat)] w fun e w'=>e=.returned (.bool (decide (l.getD i 0<l.getD j 0)))∧Still w w':=by
 obtain ⟨g,cap,rfl,hg,hc⟩:=h.at (by omega)
 have c1:=(hc i hi).1
 have c2:=(hc j hj).1
 unfold nv at c1 c2
 clear h hc
 generalize l.getD i 0=x at *
 generalize l.getD j 0=y at *
 go_enter Tryz.func203,Tryz.ntmps203
 go_wp2
 go_region
 all_goals go_wp2
 all_goals go_ret
 all_goals (refine ⟨?_,?_⟩)
 all_goals first|exact ⟨rfl,rfl,rfl,rfl⟩|(congr 2;simp)|rfl
theorem swap_any {w:World}{v:Value}{l:List Nat} (h:Line w 3 v l.length (nv l)) (i j:Nat) (hi:i<l.length) (hj:j<l.length):
  Calls Tryz.prog 204 #[v,.int .i64 (i:Nat),.int .i64 (j:Nat)] w fun e w'=>e=.returned (.tuple #[])∧Line w' 3 v l.length (nv (swp l i j))∧But (gB v) w w':=by
 obtain ⟨g,cap,rfl,hg,hc⟩:=h.at (by omega)
 have c1:=(hc i hi).1
 have c2:=(hc j hj).1
 have f1:=(hc i hi).2
 have f2:=(hc j hj).2
 unfold nv at c1 c2
 have HL:Hid (Line ((w.setCell ⟨g,i,none⟩ (.int .i64 (l.getD j 0:Nat))).setCell ⟨g,j,none⟩ (.int .i64 (l.getD i 0:Nat))) 3 (.slice (some ⟨g,0,none⟩) l.length cap) l.length (nv (swp l i j))):=hide (by
  refine ((h.put hg i (.int .i64 (l.getD j 0:Nat)) hi).put hg j (.int .i64 (l.getD i 0:Nat)) hj).congr (fun k hk=>?_)
  have e:=congrFun (swp_get l i j hi hj) k
  unfold swf at e
  dsimp only at e
  unfold nv
  rw[e]
  by_cases e1:k=j
  ·rw[if_pos e1,if_pos e1]
  ·rw[if_neg e1,if_neg e1]
   by_cases e2:k=i
   ·rw[if_pos e2,if_pos e2]
   ·rw[if_neg e2,if_neg e2])
 have HB:Hid (But (gB (.slice (some ⟨g,0,none⟩) l.length cap)) w ((w.setCell ⟨g,i,none⟩ (.int .i64 (l.getD j 0:Nat))).setCell ⟨g,j,none⟩ (.int .i64 (l.getD i 0:Nat))).drew):=hide
  ((((But.refl _ _).set ⟨g,i,none⟩ (by simp [gB,Value.ownBlock]) _).set ⟨g,j,none⟩ (by simp [gB,Value.ownBlock]) _).trans (But.of_below (Below.refl _ _).drew))
 have HE:Hid (∀ W:World,Line W 3 (.slice (some ⟨g,0,none⟩) l.length cap) l.length (nv (swp l i j))→Line W.drew 3 (.slice (some ⟨g,0,none⟩) l.length cap) l.length (nv (swp l i j))):=hide (fun W h=>h.same (fun _ _=>rfl))
 clear hc h
 generalize nv (swp l i j)=F at *
 by_cases eij:i=j
 ·subst eij
  generalize l.getD i 0=x at *
  go_enter Tryz.func204,Tryz.ntmps204
  go_wp2
  go_region
  all_goals go_wp2
  all_goals go_end0
  all_goals exact ⟨rfl,unhide HE _ (unhide HL),unhide HB⟩
 ·generalize l.getD i 0=x at *
  generalize l.getD j 0=y at *
  go_enter Tryz.func204,Tryz.ntmps204
  go_wp2
  go_region
  all_goals go_wp2
  all_goals go_end0
  all_goals exact ⟨rfl,unhide HE _ (unhide HL),unhide HB⟩
theorem less_raw {w:World}{v:Value}{l:List Nat} (h:Line w 3 v l.length (nv l)) {i j:Nat}{I J:Int} (hI:I=(i:Nat)) (hJ:J=(j:Nat)) (hi:i<l.length) (hj:j<l.length):
  ∀ w1,Still w w1→Calls Tryz.prog 203 #[v,.int .i64 I,.int .i64 J] w1 fun e w'=>e=.returned (.bool (decide (l.getD i 0<l.getD j 0)))∧Still w1 w':=fun w1 hs=>by
 rw[hI,hJ];exact less_any (h.same (fun g _=>by rw[hs.heap])) i j hi hj
theorem swap_raw {w:World}{v:Value}{l:List Nat} (h:Line w 3 v l.length (nv l)) {i j:Nat}{I J:Int} (hI:I=(i:Nat)) (hJ:J=(j:Nat)) (hi:i<l.length) (hj:j<l.length):
  ∀ w1,Still w w1→Calls Tryz.prog 204 #[v,.int .i64 I,.int .i64 J] w1 fun e w'=>e=.returned (.tuple #[])∧Line w' 3 v l.length (nv (swp l i j))∧But (gB v) w1 w':=fun w1 hs=>by
 rw[hI,hJ];exact swap_any (h.same (fun g _=>by rw[hs.heap])) i j hi hj
theorem len_any (w:World) (a:Option Addr) (n cap:Nat):Calls Tryz.prog 202 #[.slice a n cap] w fun e w'=>e=.returned (.int .i64 (n:Nat))∧w'=w:=by
 go_enter Tryz.func202,Tryz.ntmps202
 go_wp2
 go_ret
 exact ⟨rfl,rfl⟩
theorem m_less0 (W:World) (b o:Nat):(method 378 191 (.pointer (some ⟨b,o,none⟩)) "Less").run Tryz.prog W=((load ⟨b,o,none⟩) >>= fun v=>pure (203,v)).run Tryz.prog W:=by kernel_rfl
theorem m_swap0 (W:World) (b o:Nat):(method 378 191 (.pointer (some ⟨b,o,none⟩)) "Swap").run Tryz.prog W=((load ⟨b,o,none⟩) >>= fun v=>pure (204,v)).run Tryz.prog W:=by kernel_rfl
theorem m_len0 (W:World) (b o:Nat):(method 378 191 (.pointer (some ⟨b,o,none⟩)) "Len").run Tryz.prog W=((load ⟨b,o,none⟩) >>= fun v=>pure (202,v)).run Tryz.prog W:=by kernel_rfl
theorem m_push (W:World) (b o:Nat):(method 378 191 (.pointer (some ⟨b,o,none⟩)) "Push").run Tryz.prog W=.ok (206,.pointer (some ⟨b,o,none⟩)) W:=by kernel_rfl
theorem m_pop (W:World) (b o:Nat):(method 378 191 (.pointer (some ⟨b,o,none⟩)) "Pop").run Tryz.prog W=.ok (205,.pointer (some ⟨b,o,none⟩)) W:=by kernel_rfl
theorem m_less (W:World) (b o:Nat) (v:Value) (h:W.cell? ⟨b,o,none⟩=some v):(method 378 191 (.pointer (some ⟨b,o,none⟩)) "Less").run Tryz.prog W=.ok (203,v) W:=by
 rw[m_less0,Sem.run_bind,run_load,h];rfl
theorem m_swap (W:World) (b o:Nat) (v:Value) (h:W.cell? ⟨b,o,none⟩=some v):(method 378 191 (.pointer (some ⟨b,o,none⟩)) "Swap").run Tryz.prog W=.ok (204,v) W:=by
 rw[m_swap0,Sem.run_bind,run_load,h];rfl
theorem m_len (W:World) (b o:Nat) (v:Value) (h:W.cell? ⟨b,o,none⟩=some v):(method 378 191 (.pointer (some ⟨b,o,none⟩)) "Len").run Tryz.prog W=.ok (202,v) W:=by
 rw[m_len0,Sem.run_bind,run_load,h];rfl
theorem not_gB {v:Value}{b:Nat} (h:v.ownBlock≠some b):b ∉ gB v:=by
 unfold gB
 cases hv:v.ownBlock with
 | none=>simp
 | some g=>simp;rintro rfl;exact h hv
theorem up_any {b o:Nat}{v:Value}{l:List Nat} (w:World) (hcell:w.cell? ⟨b,o,none⟩=some v) (hL:Line w 3 v l.length (nv l)) (hap:v.ownBlock≠some b) (hlen:l.length≤1099511627776) (j:Nat) (hj:j<l.length) (hU:UpI l.length (fun k=>l.getD k 0) j):
  Calls Tryz.prog 156 #[.iface 191 (.pointer (some ⟨b,o,none⟩)),.int .i64 (j:Nat)] w fun e w'=>e=.returned (.tuple #[])∧∃ l',l'.Perm l∧HO l.length (fun k=>l'.getD k 0)∧Line w' 3 v l.length (nv l')∧But (gB v) w w':=by
 have hbw:b<w.heap.size:=by have:=block_lt_of_cell hcell;simpa using this
 have hng:=not_gB hap
 go_enter Tryz.func156,Tryz.ntmps156
 go_wp2_with fail
 go_loopw [1] (fun jv wr=>∃ (k:Nat) (l':List Nat),jv=.int .i64 (k:Nat)∧k<l.length∧l'.Perm l∧UpI l.length (fun q=>l'.getD q 0) k∧Line wr 3 v l.length (nv l')∧wr.cell? ⟨b,o,none⟩=some v∧But (gB v) w wr) (fun jv _=>(intOf jv).toNat)
 case atStart=>exact ⟨j,l,rfl,hj,List.Perm.refl _,hU,hL,hcell,But.refl _ _⟩
 case round=>
  obtain ⟨k,l',rfl,hk,hp,hu,hl,hc,hb⟩:=hrel
  clear hL hcell hU
  have hll:l'.length=l.length:=hp.length_eq
  by_cases k0:k=0
  ·subst k0
   have HF:=hide (show ∃ l',l'.Perm l∧HO l.length (fun k=>l'.getD k 0)∧Line wr 3 v l.length (nv l')∧But (gB v) w wr from ⟨l',hp,hu.done (.inl rfl),hl,hb⟩)
   clear hp hu hl hb hll
   go_wp2_with fail
   go_end0
   exact ⟨rfl,unhide HF⟩
  ·obtain ⟨i,hi⟩:∃ i,(k-1) / 2=i:=⟨_,rfl⟩
   have e0:((k:Int)-1) / 2=((i:Nat):Int):=by omega
   have hik:i<k:=by omega
   have HLs:=hide (less_any (w:=wr) (v:=v) (l:=l') (by rw[hll];exact hl) k i (by omega) (by omega))
   have HSw:Hid (∀ w1,Still wr w1→Calls Tryz.prog 204 #[v,.int .i64 (i:Nat),.int .i64 (k:Nat)] w1 fun e w'=>e=.returned (.tuple #[])∧Line w' 3 v l.length (nv (swp l' i k))∧But (gB v) w1 w'):=hide (fun w1 hs=>by
    have:=swap_any (w:=w1) (v:=v) (l:=l') (by rw[hll];exact hl.same (fun g _=>by rw[hs.heap])) i k (by omega) (by omega)
    rw[hll] at this;exact this)
   have HD:Hid (¬ l'.getD k 0<l'.getD i 0→HO l.length (fun k=>l'.getD k 0)):=hide (fun h=>hu.done (.inr (by rw[hi];omega)))
   have HU:Hid (l'.getD k 0<l'.getD i 0→UpI l.length (fun q=>(swp l' i k).getD q 0) i):=hide (fun h=>by
    have:=hu.step (by omega) hk (by rw[hi];exact h)
    rw[hi] at this
    rw[swp_get l' i k (by omega) (by omega)];exact this)
   have HP:Hid ((swp l' i k).Perm l):=hide ((swp_perm l' i k (by omega) (by omega)).trans hp)
   have HK:=hide (And.intro hl (And.intro hp hb))
   have hm:=m_less wr b o v hc
   clear hu hl hp hb hll hi
   go_wp2_with fail
   refine (unhide HLs).mono ?_
   clear HLs hm
   rintro e w1 ⟨rfl,hst⟩
   have hc1:w1.cell? ⟨b,o,none⟩=some v:=(hst.cell _).trans hc
   have hm:=m_swap w1 b o v hc1
   have HT:=hide hst
   clear hc hst
   by_cases hlt:l'.getD k 0<l'.getD i 0
   ·have hd:decide (l'.getD k 0<l'.getD i 0)=true:=decide_eq_true hlt
    have HU2:=hide (unhide HU hlt)
    rw[hd]
    clear HU HD hlt hd
    go_wp2_with fail
    refine (unhide HSw w1 (unhide HT)).mono ?_
    clear HSw hm
    rintro e w2 ⟨rfl,hl2,hb2⟩
    have hb02:But (gB v) w w2:=((unhide HK).2.2.trans (But.of_below (unhide HT).below)).trans hb2
    have hc2:w2.cell? ⟨b,o,none⟩=some v:=(hb2.cell (q:=⟨b,o,none⟩) (by have:=block_lt_of_cell hc1;simpa using this) hng).trans hc1
    have HR:=hide (show ∃ (k:Nat) (l':List Nat),(Value.int .i64 (i:Nat))=.int .i64 (k:Nat)∧k<l.length∧l'.Perm l∧UpI l.length (fun q=>l'.getD q 0) k∧Line w2 3 v l.length (nv l')∧w2.cell? ⟨b,o,none⟩=some v∧But (gB v) w w2 from ⟨i,swp l' i k,rfl,by omega,unhide HP,unhide HU2,hl2,hc2,hb02⟩)
    clear hl2 hb2 hb02 hc2 HU2 HP HK hc1
    go_wp2
    go_roundw
    case rel=>exact unhide HR
    case measure=>simp [intOf];omega
   ·have hd:decide (l'.getD k 0<l'.getD i 0)=false:=decide_eq_false hlt
    have HF:=hide (show ∃ l',l'.Perm l∧HO l.length (fun k=>l'.getD k 0)∧Line w1 3 v l.length (nv l')∧But (gB v) w w1 from ⟨l',(unhide HK).2.1,unhide HD hlt,(unhide HK).1.same (fun g _=>by rw[(unhide HT).heap]),(unhide HK).2.2.trans (But.of_below (unhide HT).below)⟩)
    rw[hd]
    clear HU HD hlt hd HSw hm HK HT
    go_wp2_with fail
    go_end0
    exact ⟨rfl,unhide HF⟩
def BoolEnd (e:Ending):Prop:=∃ u,e=.returned (.bool u)
theorem down_any {b o:Nat}{v:Value}{l:List Nat} (w:World) (hcell:w.cell? ⟨b,o,none⟩=some v) (hL:Line w 3 v l.length (nv l)) (hap:v.ownBlock≠some b) (hlen:l.length≤1099511627776) (i0 n:Nat) (hn:n≤l.length) (hi0:i0<l.length) (hU:DnI n (fun k=>l.getD k 0) i0):
  Calls Tryz.prog 154 #[.iface 191 (.pointer (some ⟨b,o,none⟩)),.int .i64 (i0:Nat),.int .i64 (n:Nat)] w fun e w'=>BoolEnd e∧∃ l',l'.Perm l∧(∀ q,n≤q→l'.getD q 0=l.getD q 0)∧HO n (fun k=>l'.getD k 0)∧Line w' 3 v l.length (nv l')∧But (gB v) w w':=by
 have hbw:b<w.heap.size:=by have:=block_lt_of_cell hcell;simpa using this
 have hng:=not_gB hap
 go_enter Tryz.func154,Tryz.ntmps154
 go_wp2_with fail
 go_loopw [7] (fun jv wr=>∃ (k:Nat) (l':List Nat),jv=.int .i64 (k:Nat)∧k<l.length∧l'.Perm l∧(∀ q,n≤q→l'.getD q 0=l.getD q 0)∧DnI n (fun q=>l'.getD q 0) k∧Line wr 3 v l.length (nv l')∧wr.cell? ⟨b,o,none⟩=some v∧But (gB v) w wr) (fun jv _=>n+1-(intOf jv).toNat)
 case atStart=>exact ⟨i0,l,rfl,hi0,List.Perm.refl _,fun _ _=>rfl,hU,hL,hcell,But.refl _ _⟩
 case round=>
  obtain ⟨k,l',rfl,hk,hp,hsame,hu,hl,hc,hb⟩:=hrel
  clear hL hcell hU
  have hll:l'.length=l.length:=hp.length_eq
  by_cases ha:n≤2*k+1
  ·have HF:=hide (show ∃ l',l'.Perm l∧(∀ q,n≤q→l'.getD q 0=l.getD q 0)∧HO n (fun k=>l'.getD k 0)∧Line wr 3 v l.length (nv l')∧But (gB v) w wr from ⟨l',hp,hsame,hu.done (fun c h1 h2 h3=>by omega),hl,hb⟩)
   clear hp hsame hu hl hb hll
   go_wp2_with fail
   go_ret
   exact ⟨⟨_,rfl⟩,unhide HF⟩
  ·have hlr:Line wr 3 v l'.length (nv l'):=by rw[hll];exact hl
   by_cases h2:2*k+2<n
   ·have HL1:=hide (less_raw (i:=2*k+1+1) (I:=2*(k:Int)+1+1) (j:=2*k+1) (J:=2*(k:Int)+1) hlr (by omega) (by omega) (by omega) (by omega))
    have hm:=m_less wr b o v hc
    go_wp2_with fail
    refine (unhide HL1 wr (Still.refl _)).mono ?_
    clear HL1 hm
    rintro e w4 ⟨rfl,hst4⟩
    have hcW:w4.cell? ⟨b,o,none⟩=some v:=(hst4.cell _).trans hc
    have hlW:Line w4 3 v l'.length (nv l'):=hlr.same (fun g _=>by rw[hst4.heap])
    have hbW:But (gB v) w w4:=hb.trans (But.of_below hst4.below)
    clear hl hlr hb hc hst4
    by_cases h3:l'.getD (2*k+1+1) 0<l'.getD (2*k+1) 0
    ·have hd3:decide (l'.getD (2*k+1+1) 0<l'.getD (2*k+1) 0)=true:=decide_eq_true h3
     have hmin:∀ c,0<c→c<n→(c-1) / 2=k→l'.getD (2*k+1+1) 0≤l'.getD c 0:=fun c c1 c2 c3=>by
      rcases (by omega:c=2*k+1∨c=2*k+1+1) with e|e <;> rw[e] <;> omega
     rw[hd3]
     clear hd3 h3
     have HL2:=hide (less_raw (i:=2*k+1+1) (I:=2*(k:Int)+1+1) (j:=k) (J:=(k:Int)) hlW (by omega) (by omega) (by omega) (by omega))
     have HSw:=hide (swap_raw (i:=k) (I:=(k:Int)) (j:=2*k+1+1) (J:=2*(k:Int)+1+1) hlW (by omega) (by omega) (by omega) (by omega))
     have hm:=m_less w4 b o v hcW
     go_wp2_with fail
     refine (unhide HL2 w4 (Still.refl _)).mono ?_
     clear HL2 hm
     rintro e w5 ⟨rfl,hst5⟩
     have hc5:w5.cell? ⟨b,o,none⟩=some v:=(hst5.cell _).trans hcW
     have hm:=m_swap w5 b o v hc5
     by_cases hlt:l'.getD (2*k+1+1) 0<l'.getD k 0
     ·have hd:decide (l'.getD (2*k+1+1) 0<l'.getD k 0)=true:=decide_eq_true hlt
      rw[hd]
      clear hd
      have HU2:Hid (DnI n (fun q=>(swp l' k (2*k+1+1)).getD q 0) (2*k+1+1)):=hide (by
       rw[swp_get l' k (2*k+1+1) (by omega) (by omega)]
       exact hu.step (by omega) (by omega) (by omega) hmin hlt)
      have HQ:Hid (∀ q,n≤q→(swp l' k (2*k+1+1)).getD q 0=l.getD q 0):=hide (fun q hq=>by
       have:=congrFun (swp_get l' k (2*k+1+1) (by omega) (by omega)) q
       rw[this,swf_o _ _ _ _ (by omega) (by omega)];exact hsame q hq)
      have HP:Hid ((swp l' k (2*k+1+1)).Perm l):=hide ((swp_perm l' k (2*k+1+1) (by omega) (by omega)).trans hp)
      have HB5:Hid (But (gB v) w w5):=hide (hbW.trans (But.of_below hst5.below))
      have HSw2:=hide (unhide HSw w5 hst5)
      rw[hll] at HSw2
      clear HSw hu hp hbW hlW hst5 hcW hlt hmin hsame hll
      go_wp2_with fail
      refine (unhide HSw2).mono ?_
      clear HSw2 hm
      rintro e w6 ⟨rfl,hl6,hb6⟩
      have HR:=hide (show ∃ (k':Nat) (l':List Nat),(Value.int .i64 (2*(k:Int)+1+1))=.int .i64 (k':Nat)∧k'<l.length∧l'.Perm l∧(∀ q,n≤q→l'.getD q 0=l.getD q 0)∧DnI n (fun q=>l'.getD q 0) k'∧Line w6 3 v l.length (nv l')∧w6.cell? ⟨b,o,none⟩=some v∧But (gB v) w w6 from ⟨2*k+1+1,swp l' k (2*k+1+1),by congr 1,by omega,unhide HP,unhide HQ,unhide HU2,hl6,(hb6.cell (q:=⟨b,o,none⟩) (by have:=block_lt_of_cell hc5;simpa using this) hng).trans hc5,(unhide HB5).trans hb6⟩)
      clear hl6 hb6 HU2 HQ HP HB5 hc5
      go_wp2
      go_roundw
      case rel=>exact unhide HR
      case measure=>simp [intOf];omega
     ·have hd:decide (l'.getD (2*k+1+1) 0<l'.getD k 0)=false:=decide_eq_false hlt
      have HF:=hide (show ∃ l',l'.Perm l∧(∀ q,n≤q→l'.getD q 0=l.getD q 0)∧HO n (fun k=>l'.getD k 0)∧Line w5 3 v l.length (nv l')∧But (gB v) w w5 from ⟨l',hp,hsame,hu.done (fun c h1 h2 h3=>Nat.le_trans (Nat.le_of_not_lt hlt) (hmin c h1 h2 h3)),by rw[← hll];exact hlW.same (fun g _=>by rw[hst5.heap]),hbW.trans (But.of_below hst5.below)⟩)
      rw[hd]
      clear hd HSw hm hu hp hbW hlW hst5 hcW hlt hmin hsame hll hc5
      go_wp2_with fail
      go_ret
      exact ⟨⟨_,rfl⟩,unhide HF⟩
    ·have hd3:decide (l'.getD (2*k+1+1) 0<l'.getD (2*k+1) 0)=false:=decide_eq_false h3
     have hmin:∀ c,0<c→c<n→(c-1) / 2=k→l'.getD (2*k+1) 0≤l'.getD c 0:=fun c c1 c2 c3=>by
      rcases (by omega:c=2*k+1∨c=2*k+1+1) with e|e <;> rw[e] <;> omega
     rw[hd3]
     clear hd3 h3
     have HL2:=hide (less_raw (i:=2*k+1) (I:=2*(k:Int)+1) (j:=k) (J:=(k:Int)) hlW (by omega) (by omega) (by omega) (by omega))
     have HSw:=hide (swap_raw (i:=k) (I:=(k:Int)) (j:=2*k+1) (J:=2*(k:Int)+1) hlW (by omega) (by omega) (by omega) (by omega))
     have hm:=m_less w4 b o v hcW
     go_wp2_with fail
     refine (unhide HL2 w4 (Still.refl _)).mono ?_
     clear HL2 hm
     rintro e w5 ⟨rfl,hst5⟩
     have hc5:w5.cell? ⟨b,o,none⟩=some v:=(hst5.cell _).trans hcW
     have hm:=m_swap w5 b o v hc5
     by_cases hlt:l'.getD (2*k+1) 0<l'.getD k 0
     ·have hd:decide (l'.getD (2*k+1) 0<l'.getD k 0)=true:=decide_eq_true hlt
      rw[hd]
      clear hd
      have HU2:Hid (DnI n (fun q=>(swp l' k (2*k+1)).getD q 0) (2*k+1)):=hide (by
       rw[swp_get l' k (2*k+1) (by omega) (by omega)]
       exact hu.step (by omega) (by omega) (by omega) hmin hlt)
      have HQ:Hid (∀ q,n≤q→(swp l' k (2*k+1)).getD q 0=l.getD q 0):=hide (fun q hq=>by
       have:=congrFun (swp_get l' k (2*k+1) (by omega) (by omega)) q
       rw[this,swf_o _ _ _ _ (by omega) (by omega)];exact hsame q hq)
      have HP:Hid ((swp l' k (2*k+1)).Perm l):=hide ((swp_perm l' k (2*k+1) (by omega) (by omega)).trans hp)
      have HB5:Hid (But (gB v) w w5):=hide (hbW.trans (But.of_below hst5.below))
      have HSw2:=hide (unhide HSw w5 hst5)
      rw[hll] at HSw2
      clear HSw hu hp hbW hlW hst5 hcW hlt hmin hsame hll
      go_wp2_with fail
      refine (unhide HSw2).mono ?_
      clear HSw2 hm
      rintro e w6 ⟨rfl,hl6,hb6⟩
      have HR:=hide (show ∃ (k':Nat) (l':List Nat),(Value.int .i64 (2*(k:Int)+1))=.int .i64 (k':Nat)∧k'<l.length∧l'.Perm l∧(∀ q,n≤q→l'.getD q 0=l.getD q 0)∧DnI n (fun q=>l'.getD q 0) k'∧Line w6 3 v l.length (nv l')∧w6.cell? ⟨b,o,none⟩=some v∧But (gB v) w w6 from ⟨2*k+1,swp l' k (2*k+1),by congr 1,by omega,unhide HP,unhide HQ,unhide HU2,hl6,(hb6.cell (q:=⟨b,o,none⟩) (by have:=block_lt_of_cell hc5;simpa using this) hng).trans hc5,(unhide HB5).trans hb6⟩)
      clear hl6 hb6 HU2 HQ HP HB5 hc5
      go_wp2
      go_roundw
      case rel=>exact unhide HR
      case measure=>simp [intOf];omega
     ·have hd:decide (l'.getD (2*k+1) 0<l'.getD k 0)=false:=decide_eq_false hlt
      have HF:=hide (show ∃ l',l'.Perm l∧(∀ q,n≤q→l'.getD q 0=l.getD q 0)∧HO n (fun k=>l'.getD k 0)∧Line w5 3 v l.length (nv l')∧But (gB v) w w5 from ⟨l',hp,hsame,hu.done (fun c h1 h2 h3=>Nat.le_trans (Nat.le_of_not_lt hlt) (hmin c h1 h2 h3)),by rw[← hll];exact hlW.same (fun g _=>by rw[hst5.heap]),hbW.trans (But.of_below hst5.below)⟩)
      rw[hd]
      clear hd HSw hm hu hp hbW hlW hst5 hcW hlt hmin hsame hll hc5
      go_wp2_with fail
      go_ret
      exact ⟨⟨_,rfl⟩,unhide HF⟩
   ·have hmin:∀ c,0<c→c<n→(c-1) / 2=k→l'.getD (2*k+1) 0≤l'.getD c 0:=fun c c1 c2 c3=>by
     rw[show c=2*k+1 by omega];exact Nat.le_refl _
    have hcW:=hc
    have hlW:=hlr
    have hbW:=hb
    clear hl hlr hb hc
    have HL2:=hide (less_raw (i:=2*k+1) (I:=2*(k:Int)+1) (j:=k) (J:=(k:Int)) hlW (by omega) (by omega) (by omega) (by omega))
    have HSw:=hide (swap_raw (i:=k) (I:=(k:Int)) (j:=2*k+1) (J:=2*(k:Int)+1) hlW (by omega) (by omega) (by omega) (by omega))
    have hm:=m_less wr b o v hcW
    go_wp2_with fail
    refine (unhide HL2 wr (Still.refl _)).mono ?_
    clear HL2 hm
    rintro e w5 ⟨rfl,hst5⟩
    have hc5:w5.cell? ⟨b,o,none⟩=some v:=(hst5.cell _).trans hcW
    have hm:=m_swap w5 b o v hc5
    by_cases hlt:l'.getD (2*k+1) 0<l'.getD k 0
    ·have hd:decide (l'.getD (2*k+1) 0<l'.getD k 0)=true:=decide_eq_true hlt
     rw[hd]
     clear hd
     have HU2:Hid (DnI n (fun q=>(swp l' k (2*k+1)).getD q 0) (2*k+1)):=hide (by
      rw[swp_get l' k (2*k+1) (by omega) (by omega)]
      exact hu.step (by omega) (by omega) (by omega) hmin hlt)
     have HQ:Hid (∀ q,n≤q→(swp l' k (2*k+1)).getD q 0=l.getD q 0):=hide (fun q hq=>by
      have:=congrFun (swp_get l' k (2*k+1) (by omega) (by omega)) q
      rw[this,swf_o _ _ _ _ (by omega) (by omega)];exact hsame q hq)
     have HP:Hid ((swp l' k (2*k+1)).Perm l):=hide ((swp_perm l' k (2*k+1) (by omega) (by omega)).trans hp)
     have HB5:Hid (But (gB v) w w5):=hide (hbW.trans (But.of_below hst5.below))
     have HSw2:=hide (unhide HSw w5 hst5)
     rw[hll] at HSw2
     clear HSw hu hp hbW hlW hst5 hcW hlt hmin hsame hll
     go_wp2_with fail
     refine (unhide HSw2).mono ?_
     clear HSw2 hm
     rintro e w6 ⟨rfl,hl6,hb6⟩
     have HR:=hide (show ∃ (k':Nat) (l':List Nat),(Value.int .i64 (2*(k:Int)+1))=.int .i64 (k':Nat)∧k'<l.length∧l'.Perm l∧(∀ q,n≤q→l'.getD q 0=l.getD q 0)∧DnI n (fun q=>l'.getD q 0) k'∧Line w6 3 v l.length (nv l')∧w6.cell? ⟨b,o,none⟩=some v∧But (gB v) w w6 from ⟨2*k+1,swp l' k (2*k+1),by congr 1,by omega,unhide HP,unhide HQ,unhide HU2,hl6,(hb6.cell (q:=⟨b,o,none⟩) (by have:=block_lt_of_cell hc5;simpa using this) hng).trans hc5,(unhide HB5).trans hb6⟩)
     clear hl6 hb6 HU2 HQ HP HB5 hc5
     go_wp2
     go_roundw
     case rel=>exact unhide HR
     case measure=>simp [intOf];omega
    ·have hd:decide (l'.getD (2*k+1) 0<l'.getD k 0)=false:=decide_eq_false hlt
     have HF:=hide (show ∃ l',l'.Perm l∧(∀ q,n≤q→l'.getD q 0=l.getD q 0)∧HO n (fun k=>l'.getD k 0)∧Line w5 3 v l.length (nv l')∧But (gB v) w w5 from ⟨l',hp,hsame,hu.done (fun c h1 h2 h3=>Nat.le_trans (Nat.le_of_not_lt hlt) (hmin c h1 h2 h3)),by rw[← hll];exact hlW.same (fun g _=>by rw[hst5.heap]),hbW.trans (But.of_below hst5.below)⟩)
     rw[hd]
     clear hd HSw hm hu hp hbW hlW hst5 hcW hlt hmin hsame hll hc5
     go_wp2_with fail
     go_ret
     exact ⟨⟨_,rfl⟩,unhide HF⟩
end Go.Proofs.YtnfbaapbpgbgpaaGreat
namespace Go.Proofs.YtnfbaapbpgbgpaaGreat
set_option linter.unusedVariables false
end Go.Proofs.YtnfbaapbpgbgpaaGreat
