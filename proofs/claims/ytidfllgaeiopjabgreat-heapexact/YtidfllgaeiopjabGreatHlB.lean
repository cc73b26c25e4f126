import Derived.Test.YtidfllgaeiopjabGreatDcL
import Derived.Test.YtidfllgaeiopjabGreatDcD
import Derived.BigRegion
import Derived.Test.YtidfllgaeiopjabGreatSdL
import Derived.Test.YtidfllgaeiopjabGreatSdR
import Derived.Test.YtidfllgaeiopjabGreatDcV
import Derived.Test.YtidfllgaeiopjabGreatHGet
import Derived.Test.YtidfllgaeiopjabGreatDdH
import Derived.Test.YtidfllgaeiopjabGreatHlW
namespace Go.Proofs.YtidfllgaeiopjabGreat
open Go.ChangeShapes Go.WideShapes Go.ChangeAt Go.RowKit
set_option linter.unusedVariables false
set_option linter.unusedSimpArgs false
set_option maxRecDepth 100000
set_option maxHeartbeats 1000000
theorem und135:∃ fs,Tryz.prog.underlying 127=some (.struct fs):=⟨_,by rfl⟩
theorem inf135:(Tryz.prog.info? 127).map (·.size)=some 9:=by rfl
theorem dstat_res {w:World}{lim half used lg cb ch co rs mv:Int} (tmps:Array Value) (ht:tmps.getD 2 undef=.pointer (some ⟨w.heap.size,0,none⟩)):
  (results Tryz.f52 tmps).run Tryz.prog (w.alloc (.cells #[.int .i64 lim,.int .i64 half,.int .i64 used,.int .i64 lg,.int .i64 cb,.int .i64 ch,.int .i64 co,.int .i64 rs,.int .i64 mv] 127)).drew=.ok (.agg #[.int .i64 lim,.int .i64 half,.int .i64 used,.int .i64 lg,.int .i64 cb,.int .i64 ch,.int .i64 co,.int .i64 rs,.int .i64 mv]) (w.alloc (.cells #[.int .i64 lim,.int .i64 half,.int .i64 used,.int .i64 lg,.int .i64 cb,.int .i64 ch,.int .i64 co,.int .i64 rs,.int .i64 mv] 127)).drew:=by
 obtain ⟨fs,h1⟩:=und135
 exact results_cell_row (p:=2) (ty:=127) rfl tmps _ w.heap.size 127 _ (0,0) (.struct fs) ht (heap_alloc_new _ _) h1 rfl inf135
def cntK {α:Type} (p:α→Bool) (d:α) (l:List α) (k:Nat):Nat:=((List.range k).filter fun j=>p (l.getD j d)).length
theorem cntK_yes {α:Type} (p:α→Bool) (d:α) (l:List α) (k:Nat) (h:p (l.getD k d)=true):cntK p d l (k+1)=cntK p d l k+1:=by
 unfold cntK
 rw[List.range_succ,List.filter_append,List.length_append,show List.filter (fun j=>p (l.getD j d)) [k]=[k] from List.filter_cons_of_pos h]
 rfl
theorem cntK_no {α:Type} (p:α→Bool) (d:α) (l:List α) (k:Nat) (h:p (l.getD k d)=false):cntK p d l (k+1)=cntK p d l k:=by
 unfold cntK
 rw[List.range_succ,List.filter_append,List.length_append,show List.filter (fun j=>p (l.getD j d)) [k]=[] from List.filter_cons_of_neg (by rw[h];decide)]
 rfl
theorem cntK_le {α:Type} (p:α→Bool) (d:α) (l:List α) (k:Nat):cntK p d l k≤k:=by
 unfold cntK
 have:=List.length_filter_le (fun j=>p (l.getD j d)) (List.range k)
 rw[List.length_range] at this
 exact this
theorem dstats_walk {w:World}{pd lim half used lg co rs mv nS nR cS cR:Nat}{aS aR:Option Addr}{fS:Nat→Nat}{fR:Nat→Int}{kS kR:Nat→Nat}
  (e0:w.cell? ⟨pd,0,none⟩=some (.int .i64 (lim:Nat))) (e1:w.cell? ⟨pd,1,none⟩=some (.int .i64 (half:Nat))) (e2:w.cell? ⟨pd,2,none⟩=some (.int .i64 (used:Nat))) (e3:w.cell? ⟨pd,3,none⟩=some (.int .i64 (lg:Nat)))
  (e8:w.cell? ⟨pd,8,none⟩=some (.slice aS nS cS)) (e9:w.cell? ⟨pd,9,none⟩=some (.slice aR nR cR))
  (e10:w.cell? ⟨pd,10,none⟩=some (.int .i64 (co:Nat))) (e11:w.cell? ⟨pd,11,none⟩=some (.int .i64 (rs:Nat))) (e12:w.cell? ⟨pd,12,none⟩=some (.int .i64 (mv:Nat)))
  (HS:∀ j,j<nS→∃ g,aS=some ⟨g,0,none⟩∧w.cell? ⟨g,j,none⟩=some (.int .i64 (fS j:Nat))) (HR:∀ j,j<nR→∃ g,aR=some ⟨g,0,none⟩∧w.cell? ⟨g,j,none⟩=some (.int .i64 (fR j)))
  (hS:nS≤1000000) (hR:nR≤1000000) (k0:kS 0=0) (r0:kR 0=0) (ky:∀ j,j<nS→0<fS j→kS (j+1)=kS j+1) (kn:∀ j,j<nS→fS j=0→kS (j+1)=kS j) (ry:∀ j,j<nR→0≤fR j→kR (j+1)=kR j+1) (rn:∀ j,j<nR→fR j<0→kR (j+1)=kR j) (kl:∀ j,kS j≤j) (rl:∀ j,kR j≤j):
  Calls Tryz.prog 52 #[.pointer (some ⟨pd,0,none⟩)] w fun e w'=>e=.returned (.agg #[.int .i64 (lim:Nat),.int .i64 (half:Nat),.int .i64 (used:Nat),.int .i64 (lg:Nat),.int .i64 (kS nS:Nat),.int .i64 (kR nR:Nat),.int .i64 (co:Nat),.int .i64 (rs:Nat),.int .i64 (mv:Nat)])∧Below w.heap.size w w':=by
 have hpd:pd<w.heap.size:=block_lt_of_cell e0
 have HB:Hid (∀ o:Obj,Below w.heap.size w (w.alloc o)):=hide (fun o=>(Below.refl _ _).alloc (Nat.le_refl _) o)
 have HS':=hide HS
 have HR':=hide HR
 have KY:=hide ky
 have KN:=hide kn
 have RY:=hide ry
 have RN:=hide rn
 have KL:=hide kl
 have RL:=hide rl
 have K0:=hide k0
 have R0:=hide r0
 clear HS HR ky kn ry rn kl rl k0 r0
 go_enter Tryz.func52,Tryz.ntmps52
 go_wp2_with fail
 obtain ⟨W1,hW1⟩:∃ W1,w.alloc (.cells #[.int .i64 0,.int .i64 0,.int .i64 0,.int .i64 0,.int .i64 0,.int .i64 0,.int .i64 0,.int .i64 0,.int .i64 0] 127)=W1:=⟨_,rfl⟩
 have HW1:=hide hW1
 have hB1:=unhide HB (.cells #[.int .i64 0,.int .i64 0,.int .i64 0,.int .i64 0,.int .i64 0,.int .i64 0,.int .i64 0,.int .i64 0,.int .i64 0] 127)
 rw[hW1] at hB1 ⊢
 have H0x:=hide e0
 have H1x:=hide e1
 have H2x:=hide e2
 have H3x:=hide e3
 have e8:=(hB1.cell (p:=⟨pd,8,none⟩) hpd).trans e8
 have e9:=(hB1.cell (p:=⟨pd,9,none⟩) hpd).trans e9
 have H10x:=hide e10
 have H11x:=hide e11
 have H12x:=hide e12
 have HS2:Hid (∀ j,j<nS→∃ g,aS=some ⟨g,0,none⟩∧W1.cell? ⟨g,j,none⟩=some (.int .i64 (fS j:Nat))):=hide (fun j hj=>by
  obtain ⟨g,q1,q2⟩:=unhide HS' j hj
  exact ⟨g,q1,(hB1.cell (p:=⟨g,j,none⟩) (block_lt_of_cell q2)).trans q2⟩)
 have HR2:Hid (∀ j,j<nR→∃ g,aR=some ⟨g,0,none⟩∧W1.cell? ⟨g,j,none⟩=some (.int .i64 (fR j))):=hide (fun j hj=>by
  obtain ⟨g,q1,q2⟩:=unhide HR' j hj
  exact ⟨g,q1,(hB1.cell (p:=⟨g,j,none⟩) (block_lt_of_cell q2)).trans q2⟩)
 clear HS' HR' hB1 HB hW1 e0 e1 e2 e3 e10 e11 e12
 go_loopw [3,4] (fun cv iv wr=>wr=W1∧∃ k:Nat,k≤nS∧iv=.int .i64 (k:Nat)∧cv=.int .i64 (kS k:Nat)) (fun _ iv _=>nS-(intOf iv).toNat)
 case atStart=>exact ⟨rfl,0,Nat.zero_le _,rfl,by rw[unhide K0];rfl⟩
 case round=>
  obtain ⟨rfl,k,hk,rfl,rfl⟩:=hrel
  have w1:IntKind.i64.wrap ((k:Int)+1)=(k:Int)+1:=wrap_small _ (by omega) (by omega)
  by_cases hlt:k<nS
  ·have dl:decide ((k:Int)<(nS:Nat))=true:=decide_eq_true (by omega)
   obtain ⟨g,rfl,c0⟩:=unhide HS2 k hlt
   have j1:(0:Int)≤(k:Nat):=by omega
   have j2:(k:Int)<(nS:Nat):=by omega
   have hkl:=unhide KL k
   have w2:IntKind.i64.wrap ((kS k:Int)+1)=(kS k:Int)+1:=wrap_small _ (by omega) (by omega)
   by_cases hp:0<fS k
   ·have hn:=unhide KY k hlt hp
    have dn:decide ((0:Int)<(fS k:Nat))=true:=decide_eq_true (by omega)
    clear HR2 HS2
    go_wp2_with fail
    all_goals go_roundw
    all_goals first|exact ⟨(by first|rfl|trivial),k+1,by omega,by simp,by rw[hn];simp⟩|(simp [intOf];omega)
   ·have hn:=unhide KN k hlt (by omega)
    have dn:decide ((0:Int)<(fS k:Nat))=false:=decide_eq_false (by omega)
    clear HR2 HS2
    go_wp2_with fail
    all_goals go_roundw
    all_goals first|exact ⟨(by first|rfl|trivial),k+1,by omega,by simp,by rw[hn]⟩|(simp [intOf];omega)
  ·have hkn:k=nS:=by omega
   subst hkn
   have dl:decide ((k:Int)<(k:Nat))=false:=decide_eq_false (by omega)
   clear HS2
   go_wp2_with fail
   go_loopw [5,6] (fun cv iv wr'=>wr'=wr∧∃ q:Nat,q≤nR∧iv=.int .i64 (q:Nat)∧cv=.int .i64 (kR q:Nat)) (fun _ iv _=>nR-(intOf iv).toNat)
   case atStart=>exact ⟨rfl,0,Nat.zero_le _,rfl,by rw[unhide R0];rfl⟩
   case round=>
    obtain ⟨rfl,q,hq,rfl,rfl⟩:=hrel
    have v1:IntKind.i64.wrap ((q:Int)+1)=(q:Int)+1:=wrap_small _ (by omega) (by omega)
    by_cases hlr:q<nR
    ·have dl2:decide ((q:Int)<(nR:Nat))=true:=decide_eq_true (by omega)
     obtain ⟨g,rfl,c0⟩:=unhide HR2 q hlr
     have j1:(0:Int)≤(q:Nat):=by omega
     have j2:(q:Int)<(nR:Nat):=by omega
     have hkl:=unhide RL q
     have w2:IntKind.i64.wrap ((kR q:Int)+1)=(kR q:Int)+1:=wrap_small _ (by omega) (by omega)
     by_cases hp:0≤fR q
     ·have hn:=unhide RY q hlr hp
      have dn:decide ((0:Int)≤fR q)=true:=decide_eq_true (by omega)
      clear HR2
      go_wp2_with fail
      all_goals go_roundw
      all_goals first|exact ⟨(by first|rfl|trivial),q+1,by omega,by simp,by rw[hn];simp⟩|(simp [intOf];omega)
     ·have hn:=unhide RN q hlr (by omega)
      have dn:decide ((0:Int)≤fR q)=false:=decide_eq_false (by omega)
      clear HR2
      go_wp2_with fail
      all_goals go_roundw
      all_goals first|exact ⟨(by first|rfl|trivial),q+1,by omega,by simp,by rw[hn]⟩|(simp [intOf];omega)
    ·have hqn:q=nR:=by omega
     subst hqn
     have dl2:decide ((q:Int)<(q:Nat))=false:=decide_eq_false (by omega)
     clear HR2
     go_wp2_with fail
     have hW:=unhide HW1
     subst hW
     have e0:=unhide H0x
     have e1:=unhide H1x
     have e2:=unhide H2x
     have e3:=unhide H3x
     have e10:=unhide H10x
     have e11:=unhide H11x
     have e12:=unhide H12x
     clear H0x H1x H2x H3x H10x H11x H12x HW1 e8 e9 dl dl2 KY KN RY RN KL RL K0 R0 v1 w1
     go_region_held3 (fun w'=>w'.cell? ⟨pd,0,none⟩=some (.int .i64 (lim:Nat))∧w'.cell? ⟨pd,1,none⟩=some (.int .i64 (half:Nat))∧w'.cell? ⟨pd,2,none⟩=some (.int .i64 (used:Nat))∧w'.cell? ⟨pd,3,none⟩=some (.int .i64 (lg:Nat))∧w'.cell? ⟨pd,10,none⟩=some (.int .i64 (co:Nat))∧w'.cell? ⟨pd,11,none⟩=some (.int .i64 (rs:Nat))∧w'.cell? ⟨pd,12,none⟩=some (.int .i64 (mv:Nat))) (go_keep) (fail)
     all_goals go_wp2
     all_goals exact bodyPost_ret (dstat_res _ rfl) rfl ⟨rfl,below_ad w _⟩
theorem dstats_any {w:World}{pd sn:Nat}{dt:Nat→Nat}{M:Hp}{C:DC} (h:DAt w pd dt M sn C) (hs:M.slots.length≤1000000) (hr:M.roots.length≤1000000):
  Calls Tryz.prog 52 #[.pointer (some ⟨pd,0,none⟩)] w fun e w'=>e=.returned (.agg #[.int .i64 (M.limit:Nat),.int .i64 (M.half:Nat),.int .i64 (M.used:Nat),.int .i64 (M.large:Nat),.int .i64 (cntS M:Nat),.int .i64 (cntR M:Nat),.int .i64 (M.coll:Nat),.int .i64 (M.resz:Nat),.int .i64 (M.moved:Nat)])∧Below w.heap.size w w':=by
 obtain ⟨aS,cS,eS,hS⟩:=line_list h.sl
 obtain ⟨aR,cR,eR,hR⟩:=line_list h.rt
 have c8:=h.c8
 have c9:=h.c9
 rw[eS] at c8
 rw[eR] at c9
 have q1:cntK (fun i=>i != 0) 0 M.slots M.slots.length=cntS M:=count_range (fun i=>i != 0) 0 rfl M.slots _ (Nat.le_refl _)
 have q2:cntK Option.isSome none M.roots M.roots.length=cntR M:=count_range Option.isSome none rfl M.roots _ (Nat.le_refl _)
 rw[← q1,← q2]
 refine dstats_walk (fS:=fun j=>M.slots.getD j 0) (fR:=fun j=>hval (M.roots.getD j none)) (kS:=cntK (fun i=>i != 0) 0 M.slots) (kR:=cntK Option.isSome none M.roots) (h.num 0 (.inl (by decide))) (h.num 1 (.inl (by decide))) (h.num 2 (.inl (by decide))) (h.num 3 (.inl (by decide))) c8 c9 (h.num 10 (.inr (by decide))) (h.num 11 (.inr (by decide))) (h.num 12 (.inr (by decide))) (fun j hj=>?_) (fun j hj=>?_) hs hr rfl rfl (fun j hj hp=>cntK_yes _ _ _ _ ?_) (fun j hj hp=>cntK_no _ _ _ _ ?_) (fun j hj hp=>cntK_yes _ _ _ _ ?_) (fun j hj hp=>cntK_no _ _ _ _ ?_) (cntK_le _ _ _) (cntK_le _ _ _)
 ·obtain ⟨g,z1,z2,_⟩:=hS j hj
  exact ⟨g,z1,z2⟩
 ·obtain ⟨g,z1,z2,_⟩:=hR j hj
  exact ⟨g,z1,z2⟩
 ·simp only[bne_iff_ne]
  exact Nat.pos_iff_ne_zero.1 hp
 ·have hp:M.slots.getD j 0=0:=hp
  rw[hp];rfl
 ·have hp:0≤hval (M.roots.getD j none):=hp
  cases e:M.roots.getD j none with
  | none=>rw[e] at hp;exact absurd hp (by decide)
  | some _=>rfl
 ·have hp:hval (M.roots.getD j none)<0:=hp
  cases e:M.roots.getD j none with
  | none=>rfl
  | some n=>rw[e] at hp;have:(n:Int)<0:=hp;omega
theorem stats_same {w:World} (a0 a1 a2 a3 a4 a5 a6 a7 a8:Int):
  Calls Tryz.prog 53 #[.agg #[.int .i64 a0,.int .i64 a1,.int .i64 a2,.int .i64 a3,.int .i64 a4,.int .i64 a5,.int .i64 a6,.int .i64 a7,.int .i64 a8],.agg #[.int .i64 a0,.int .i64 a1,.int .i64 a2,.int .i64 a3,.int .i64 a4,.int .i64 a5,.int .i64 a6,.int .i64 a7,.int .i64 a8]] w fun e w'=>e=.returned (.bool true)∧Below w.heap.size w w':=by
 have HB:Hid (∀ o1 o2:Obj,Below w.heap.size w ((w.alloc o1).alloc o2)):=hide (fun o1 o2=>((Below.refl _ _).alloc (Nat.le_refl _) o1).alloc (by simp) o2)
 have HX:Hid (∃ W,W=(w.alloc (.cells #[.int .i64 a0,.int .i64 a1,.int .i64 a2,.int .i64 a3,.int .i64 a4,.int .i64 a5,.int .i64 a6,.int .i64 a7,.int .i64 a8] 125)).alloc (.cells #[.int .i64 a0,.int .i64 a1,.int .i64 a2,.int .i64 a3,.int .i64 a4,.int .i64 a5,.int .i64 a6,.int .i64 a7,.int .i64 a8] 127)):=hide ⟨_,rfl⟩
 go_enter Tryz.func53,Tryz.ntmps53
 go_wp2_with fail
 all_goals go_ret
 all_goals exact ⟨by simp,unhide HB _ _⟩
theorem plays_stats {w:World}{ps ph pd:Nat} (on A B Cc r v:Int) (raw wv:Nat) (dv:Value) (c0:w.cell? ⟨ps,0,none⟩=some (.pointer (some ⟨ph,0,none⟩))) (c1:w.cell? ⟨ps,1,none⟩=some (.pointer (some ⟨pd,0,none⟩))) (a0 a1 a2 a3 a4 a5 a6 a7 a8:Int)
  (H16:∀ W,Below w.heap.size w W→Calls Tryz.prog 51 #[.pointer (some ⟨ph,0,none⟩)] W fun e w'=>e=.returned (.agg #[.int .i64 a0,.int .i64 a1,.int .i64 a2,.int .i64 a3,.int .i64 a4,.int .i64 a5,.int .i64 a6,.int .i64 a7,.int .i64 a8])∧Below W.heap.size W w')
  (H78:∀ W,Below w.heap.size w W→Calls Tryz.prog 52 #[.pointer (some ⟨pd,0,none⟩)] W fun e w'=>e=.returned (.agg #[.int .i64 a0,.int .i64 a1,.int .i64 a2,.int .i64 a3,.int .i64 a4,.int .i64 a5,.int .i64 a6,.int .i64 a7,.int .i64 a8])∧Below W.heap.size W w'):
  Calls Tryz.prog 17 #[.pointer (some ⟨ps,0,none⟩),.agg (opC on 13 A B Cc r v raw wv dv)] w fun e w'=>e=.returned (.bool true)∧Below w.heap.size w w':=by
 have L0:=LimbO.new c0 c1 on 13 A B Cc r v raw wv dv
 have hpl:ps<w.heap.size:=block_lt_of_cell c0
 have hB0:Below w.heap.size w (w.alloc (.cells (opC on 13 A B Cc r v raw wv dv) 44)):=(Below.refl _ _).alloc (Nat.le_refl _) _
 have A1:=hide H16
 have A2:=hide H78
 have A3:Hid (∀ W,Below w.heap.size w W→W.cell? ⟨ps,0,none⟩=some (.pointer (some ⟨ph,0,none⟩))∧W.cell? ⟨ps,1,none⟩=some (.pointer (some ⟨pd,0,none⟩))∧ps<W.heap.size):=hide (fun W k=>⟨(k.cell (p:=⟨ps,0,none⟩) hpl).trans c0,(k.cell (p:=⟨ps,1,none⟩) hpl).trans c1,Nat.lt_of_lt_of_le hpl k.size⟩)
 have A4:Hid (∀ W o,Below w.heap.size w W→Below w.heap.size w (W.alloc o)):=hide (fun W o k=>k.alloc k.size o)
 have HB0:=hide hB0
 obtain ⟨c0,c1,m0,m1,m2,m3,m4,m5,m6,m7,m8,m9⟩:=L0
 clear H16 H78 hB0
 unfold opC at *
 generalize hW:World.alloc w _=W0 at *
 generalize hB:w.heap.size=b at *
 go_enter Tryz.func17,Tryz.ntmps17
 go_wp2_with fail
 (try rw[hW]);(try rw[hB])
 go_wp2_with fail
 refine (unhide A1 _ (unhide HB0)).mono ?_
 rintro e w2 ⟨rfl,hk2⟩
 have k2:=hide ((unhide HB0).trans (hk2.mono (by rw[← hB];exact (unhide HB0).size)))
 obtain ⟨x0,x1,xl⟩:=unhide A3 _ (unhide k2)
 have kA:=hide (unhide A4 _ (.cells #[.int .i64 a0,.int .i64 a1,.int .i64 a2,.int .i64 a3,.int .i64 a4,.int .i64 a5,.int .i64 a6,.int .i64 a7,.int .i64 a8] 125) (unhide k2))
 obtain ⟨z0,z1,zl⟩:=unhide A3 _ (unhide kA)
 clear hk2 m0 m1 m2 m3 m4 m5 m6 m7 m8 m9 c0 c1
 go_wp2_with fail
 refine (unhide A2 _ (unhide kA)).mono ?_
 rintro e w3 ⟨rfl,hk3⟩
 have m47:w3.heap[w2.heap.size]?=some (.cells #[.int .i64 a0,.int .i64 a1,.int .i64 a2,.int .i64 a3,.int .i64 a4,.int .i64 a5,.int .i64 a6,.int .i64 a7,.int .i64 a8] 125):=by
  rw[hk3.block w2.heap.size (by simp)]
  exact heap_alloc_new _ _
 have k3:=hide ((unhide kA).trans (hk3.mono (by rw[← hB];exact (unhide kA).size)))
 have kB:=hide (unhide A4 _ (.cells #[.int .i64 a0,.int .i64 a1,.int .i64 a2,.int .i64 a3,.int .i64 a4,.int .i64 a5,.int .i64 a6,.int .i64 a7,.int .i64 a8] 127) (unhide k3))
 have hc3:w3.cell? ⟨w2.heap.size,0,none⟩=some (.int .i64 a0):=by simp only[World.cell?,m47];rfl
 have hl3:w2.heap.size<w3.heap.size:=block_lt_of_cell hc3
 clear hc3
 have hne:w2.heap.size≠w3.heap.size:=by omega
 have m47':(w3.alloc (.cells #[.int .i64 a0,.int .i64 a1,.int .i64 a2,.int .i64 a3,.int .i64 a4,.int .i64 a5,.int .i64 a6,.int .i64 a7,.int .i64 a8] 127)).heap[w2.heap.size]?=some (.cells #[.int .i64 a0,.int .i64 a1,.int .i64 a2,.int .i64 a3,.int .i64 a4,.int .i64 a5,.int .i64 a6,.int .i64 a7,.int .i64 a8] 125):=by rw[heap_alloc_old _ _ hl3];exact m47
 have hx:∀ i u,(#[.int .i64 a0,.int .i64 a1,.int .i64 a2,.int .i64 a3,.int .i64 a4,.int .i64 a5,.int .i64 a6,.int .i64 a7,.int .i64 a8]:Array Value)[i]?=some u→(w3.alloc (.cells #[.int .i64 a0,.int .i64 a1,.int .i64 a2,.int .i64 a3,.int .i64 a4,.int .i64 a5,.int .i64 a6,.int .i64 a7,.int .i64 a8] 127)).cell? ⟨w2.heap.size,i,none⟩=some u:=fun i u e=>by
  simp only[World.cell?,m47']
  exact e
 have n0:=hx 0 _ rfl
 have n1:=hx 1 _ rfl
 have n2:=hx 2 _ rfl
 have n3:=hx 3 _ rfl
 have n4:=hx 4 _ rfl
 have n5:=hx 5 _ rfl
 have n6:=hx 6 _ rfl
 have n7:=hx 7 _ rfl
 have n8:=hx 8 _ rfl
 have A5:Hid (∀ W,Below b w W→Calls Tryz.prog 53 #[.agg #[.int .i64 a0,.int .i64 a1,.int .i64 a2,.int .i64 a3,.int .i64 a4,.int .i64 a5,.int .i64 a6,.int .i64 a7,.int .i64 a8],.agg #[.int .i64 a0,.int .i64 a1,.int .i64 a2,.int .i64 a3,.int .i64 a4,.int .i64 a5,.int .i64 a6,.int .i64 a7,.int .i64 a8]] W fun e w'=>e=.returned (.bool true)∧Below b w w'):=hide (fun W k=>(stats_same a0 a1 a2 a3 a4 a5 a6 a7 a8).mono fun e w' ⟨q1,q2⟩=>⟨q1,k.trans (q2.mono (by rw[← hB];exact k.size))⟩)
 clear hx m47 m47' hk3 x0 x1 z0 z1
 go_wp2_with fail
 refine (unhide A5 _ (unhide kB)).mono ?_
 rintro e w4 ⟨rfl,hR⟩
 have HR4:=hide hR
 clear hR
 go_wp2_with fail
 all_goals go_ret
 all_goals exact ⟨by simp,unhide HR4⟩
theorem SideGo.since {own own':Nat→Nat}{ps ph pd n:Nat}{w W W':World} (h:SideGo own' ps ph pd n W W') (f:Fr own own' w W):SideGo own ps ph pd n w W':=by
 obtain ⟨tag,dt,M,H,C,v,l,q1,q2,q3,q4⟩:=h
 exact ⟨tag,dt,M,H,C,v,l,q1,q2,q3,f.trans q4⟩
section
variable {w:World}{ps ph pd n:Nat}{tag dt:Nat→Nat}{M:Hp}{H:HC}{C:DC}{v:Value}{l:List Nat}
theorem SideAt.go (sd:SideAt w ps ph pd tag dt M M H C v l) (o:Okd M n) (hl:l.length≤n) {W:World} (k:Below w.heap.size w W):SideGo (ownS ps tag dt v) ps ph pd (n+1) w W:=⟨tag,dt,M,H,C,v,l,sd.below k,o.mono (by omega),by omega,Fr.ofBelow k⟩
theorem arm_stats (sd:SideAt w ps ph pd tag dt M M H C v l) (o:Okd M n) (hl:l.length≤n) (hn:n≤65536) (on A B Cc r vv:Int) (raw wv:Nat) (dv:Value):
  Calls Tryz.prog 17 #[.pointer (some ⟨ps,0,none⟩),.agg (opC on 13 A B Cc r vv raw wv dv)] w fun e w'=>e=.returned (.bool true)∧SideGo (ownS ps tag dt v) ps ph pd (n+1) w w':=by
 have hrt:=o.rt
 have hsl:=o.sl
 refine (plays_stats on A B Cc r vv raw wv dv sd.c0 sd.c1 (M.limit:Nat) (M.half:Nat) (M.used:Nat) (M.large:Nat) (cntS M:Nat) (cntR M:Nat) (M.coll:Nat) (M.resz:Nat) (M.moved:Nat) (fun W k=>hstats_any (sd.below k).he) (fun W k=>dstats_any (sd.below k).dc (by omega) (by omega))).mono ?_
 rintro e w' ⟨rfl,k⟩
 exact ⟨rfl,sd.go o hl k⟩
theorem arm_none (sd:SideAt w ps ph pd tag dt M M H C v l) (o:Okd M n) (hl:l.length≤n) (hn:n≤65536) (on dd A B Cc r vv:Int) (raw wv:Nat) (dv:Value) (hd:dd<1∨14<dd):
  Calls Tryz.prog 17 #[.pointer (some ⟨ps,0,none⟩),.agg (opC on dd A B Cc r vv raw wv dv)] w fun e w'=>e=.returned (.bool true)∧SideGo (ownS ps tag dt v) ps ph pd (n+1) w w':=by
 refine (plays_none on dd A B Cc r vv raw wv dv sd.c0 sd.c1 hd).mono ?_
 rintro e w' ⟨rfl,k⟩
 exact ⟨rfl,sd.go o hl k⟩
theorem arm_image (sd:SideAt w ps ph pd tag dt M M H C v l) (o:Okd M n) (hl:l.length≤n) (hn:n≤65536) (on A B Cc r vv:Int) (raw wv:Nat) (dv:Value):
  Calls Tryz.prog 17 #[.pointer (some ⟨ps,0,none⟩),.agg (opC on 14 A B Cc r vv raw wv dv)] w fun e w'=>e=.returned (.bool true)∧SideGo (ownS ps tag dt v) ps ph pd (n+1) w w':=by
 have ho1:=o.o1
 have hob:=o.ob
 have hu1:1≤M.used:=by rw[sd.he.wf.ok.us];exact place_pos _ _
 have hu2:M.used≤1048576:=Nat.le_trans sd.he.wf.ok.u2 sd.he.wf.ok.h2
 refine plays_image on A B Cc r vv raw wv dv sd.c0 sd.c1
  (G1:=fun y W=>∃ g,y=.slice (some ⟨g,0,none⟩) M.used M.used∧(imgM M).length=M.used∧(∀ j,j<M.used→W.cell? ⟨g,j,none⟩=some (.int .u64 ((imgM M).getD j 0:Nat)))∧g<W.heap.size∧Run w (ownS ps tag dt v) ps ph pd tag dt M M H C v l W)
  (G2:=fun y z W=>∃ g g2 c2,y=.slice (some ⟨g,0,none⟩) M.used M.used∧z=.slice (some ⟨g2,0,none⟩) M.used c2∧(∀ j,j<M.used→W.cell? ⟨g,j,none⟩=some (.int .u64 ((imgM M).getD j 0:Nat)))∧(∀ j,j<M.used→W.cell? ⟨g2,j,none⟩=some (.int .u64 ((imgM M).getD j 0:Nat)))∧Run w (ownS ps tag dt v) ps ph pd tag dt M M H C v l W)
  (fun W k=>?_) (fun W W' y g k=>?_) (fun W W' y z g k=>?_)
 ·have R:=Run.start sd k
  refine (himage_any R.sd.he).mono ?_
  rintro e w' ⟨y,rfl,rfl,q1,q2,q3,q4⟩
  obtain ⟨z1,z2,z3⟩:=R.keep q4
  exact ⟨_,rfl,z1,z2,_,rfl,q2,q3,q1,z3⟩
 ·obtain ⟨g,rfl,q2,q3,q1,R⟩:=g
  have R':=R.still k
  refine (dimage_any R'.sd.dc sd.he.wf (by omega) ho1 (fun i=>Nat.le_trans (o.da.kd i) (by decide))).mono ?_
  rintro e w' ⟨z,rfl,f⟩
  obtain ⟨_,_,z3⟩:=R'.keep f.be
  rw[q2] at f
  rcases f.ln with ⟨_,h0⟩|⟨g2,c2,cur,rfl,hcur,_,_,_,hj⟩
  ·omega
  ·exact ⟨_,rfl,g,g2,c2,rfl,rfl,fun j hj=>((f.be.cell (p:=⟨g,j,none⟩) (by rw[k.heap];exact q1)).trans (k.cell _)).trans (q3 j hj),fun j hj'=>by
    have:=hj j hj'
    simp only[World.cell?,hcur]
    exact this,z3⟩
 ·obtain ⟨g,g2,c2,rfl,rfl,q1,q2,R⟩:=g
  refine (eqw_yes (fun j=>(imgM M).getD j 0) (by omega) (fun j hj=>(k.cell _).trans (q1 j hj)) (fun j hj=>(k.cell _).trans (q2 j hj))).mono ?_
  rintro e w' ⟨rfl,q⟩
  exact ⟨rfl,((R.still k).still q).go (o.mono (by omega)) (by omega)⟩
structure OpL where
 on:Int
 dd:Int
 A:Int
 B:Int
 C:Int
 r:Int
 v:Int
 raw:Nat
 wv:Nat
 a:Option Addr
 d:List Nat
 c:Nat
structure OpOk (w:World) (q:OpL):Prop where
 A1:-9223372036854775808≤q.A
 A2:q.A≤9223372036854775807
 r1:-9223372036854775808≤q.r
 r2:q.r≤9223372036854775807
 v1:-9223372036854775808≤q.v
 v2:q.v≤9223372036854775807
 rw:q.raw<18446744073709551616
 ww:q.wv<18446744073709551616
 dl:q.d.length≤140737488355328
 by':Bytes w q.a q.d
 nl:q.a=none→q.c=0
 sm:Small q.d
theorem OpOk.below {w W:World}{q:OpL} (h:OpOk w q) (k:Below w.heap.size w W):OpOk W q:={ h with by':=h.by'.below k }
def opV (q:OpL):Array Value:=opC q.on q.dd q.A q.B q.C q.r q.v q.raw q.wv (.slice q.a q.d.length q.c)
theorem arm_any (sd:SideAt w ps ph pd tag dt M M H C v l) (o:Okd M n) (hl:l.length≤n) (hn:n≤65536) (q:OpL) (ok:OpOk w q) (hfr:q.d≠[]→∀ b off,q.a=some ⟨b,off,none⟩→ownS ps tag dt v b=0):
  Calls Tryz.prog 17 #[.pointer (some ⟨ps,0,none⟩),.agg (opV q)] w fun e w'=>e=.returned (.bool true)∧SideGo (ownS ps tag dt v) ps ph pd (n+1) w w':=by
 obtain ⟨on,dd,A,B,Cc,r,vv,raw,wv,a,d,c⟩:=q
 obtain ⟨A1,A2,r1,r2,v1,v2,rw',ww,dl,by',nl,sm⟩:=ok
 dsimp only at A1 A2 r1 r2 v1 v2 rw' ww dl by' nl sm hfr
 unfold opV
 dsimp only
 have lift:∀ {F:Nat}{x:Obj},(∀ W,SideAt W ps ph pd tag dt M M H C v l→Bytes W a d→Calls Tryz.prog F #[.pointer (some ⟨ps,0,none⟩),.agg (opC on dd A B Cc r vv raw wv (.slice a d.length c))] W fun e w'=>e=.returned (.bool true)∧SideGo (ownS ps tag dt v) ps ph pd (n+1) W w')→∀ W,Still (w.alloc x) W→Calls Tryz.prog F #[.pointer (some ⟨ps,0,none⟩),.agg (opC on dd A B Cc r vv raw wv (.slice a d.length c))] W fun e w'=>e=.returned (.bool true)∧SideGo (ownS ps tag dt v) ps ph pd (n+1) w w':=by
  intro F x h W k
  have R:=Run.start sd k
  have hb:Below w.heap.size w W:=((Below.refl _ _).alloc (Nat.le_refl _) _).trans (k.below.mono (by simp))
  exact (h W R.sd (by'.below hb)).mono fun e w' ⟨q1,q2⟩=>⟨q1,q2.since R.fr⟩
 by_cases h0:dd<1∨14<dd
 ·exact arm_none sd o hl hn _ _ _ _ _ _ _ _ _ _ h0
 ·have hcs:dd=1∨dd=2∨dd=3∨dd=4∨dd=5∨dd=6∨dd=7∨dd=8∨dd=9∨dd=10∨dd=11∨dd=12∨dd=13∨dd=14:=by omega
  rcases hcs with rfl|rfl|rfl|rfl|rfl|rfl|rfl|rfl|rfl|rfl|rfl|rfl|rfl|rfl
  ·exact arm_alloc sd o hl hn _ _ _ _ _ _ _ _ _
  ·exact plays_fields _ _ _ _ _ _ _ _ _ _ rfl sd.c0 sd.c1 (by decide) (lift fun W s b=>arm_object s o hl hn _ _ _ _ _ _ _ _ _ r1 r2 rw')
  ·exact plays_fields _ _ _ _ _ _ _ _ _ _ rfl sd.c0 sd.c1 (by decide) (lift fun W s b=>arm_get s o hl hn _ _ _ _ _ _ _ _ _ r1 r2 rw')
  ·exact plays_fields _ _ _ _ _ _ _ _ _ _ rfl sd.c0 sd.c1 (by decide) (lift fun W s b=>arm_set s o hl hn _ _ _ _ _ _ _ _ _ r1 r2 rw' v1 v2 ww)
  ·exact plays_fields _ _ _ _ _ _ _ _ _ _ rfl sd.c0 sd.c1 (by decide) (lift fun W s b=>arm_bytes s o hl hn _ _ _ _ _ _ _ _ _ r1 r2 rw' A1 A2)
  ·exact plays_fields _ _ _ _ _ _ _ _ _ _ rfl sd.c0 sd.c1 (by decide) (lift fun W s b=>arm_setbytes s o hl hn _ _ _ _ _ _ _ _ r1 r2 rw' A1 A2 a c d dl b nl sm hfr)
  ·exact plays_handles _ _ _ _ _ _ _ _ _ _ rfl sd.c0 sd.c1 (by decide) (lift fun W s b=>arm_root s o hl hn _ _ _ _ _ _ _ _ _ r1 r2 rw')
  ·exact plays_handles _ _ _ _ _ _ _ _ _ _ rfl sd.c0 sd.c1 (by decide) (lift fun W s b=>arm_at s o hl hn _ _ _ _ _ _ _ _ _ r1 r2 rw' A1 A2)
  ·exact plays_handles _ _ _ _ _ _ _ _ _ _ rfl sd.c0 sd.c1 (by decide) (lift fun W s b=>arm_put s o hl hn _ _ _ _ _ _ _ _ _ r1 r2 rw' A1 A2)
  ·exact plays_handles _ _ _ _ _ _ _ _ _ _ rfl sd.c0 sd.c1 (by decide) (lift fun W s b=>arm_drop s o hl hn _ _ _ _ _ _ _ _ _ r1 r2 rw' A1 A2)
  ·exact arm_collect sd o hl hn _ _ _ _ _ _ _ _ _
  ·exact arm_resize sd o hl hn _ _ _ _ _ _ _ _ _
  ·exact arm_stats sd o hl hn _ _ _ _ _ _ _ _ _
  ·exact arm_image sd o hl hn _ _ _ _ _ _ _ _ _
end
def SideP (ps i:Nat) (S:Nat→Prop) (W:World):Prop:=
 (Bare W ps∧S ps)∨∃ ph pd tag dt M H C v l,SideAt W ps ph pd tag dt M M H C v l∧Okd M i∧l.length≤i∧∀ g,ownS ps tag dt v g≠0→S g
theorem SideP.same {ps i j:Nat}{S S':Nat→Prop}{W W':World} (h:SideP ps i S W) (hi:i≤j) (hs:W.heap.size≤W'.heap.size) (hb:∀ g,S g→g<W.heap.size→W'.heap[g]?=W.heap[g]?∧S' g):SideP ps j S' W':=by
 rcases h with ⟨b,hp⟩|⟨ph,pd,tag,dt,M,H,C,v,l,q1,q2,q3,q4⟩
 ·have:=hb ps hp (block_lt_of_cell b.c0)
  exact .inl ⟨b.like this.1,this.2⟩
 ·exact .inr ⟨ph,pd,tag,dt,M,H,C,v,l,q1.same hs fun g hg=>(hb g (q4 g hg) (q1.lt g hg)).1,q2.mono hi,Nat.le_trans q3 hi,fun g hg=>(hb g (q4 g hg) (q1.lt g hg)).2⟩
def Oth (j ph:Nat) (S:Nat→Prop) (W:World):Prop:=∃ tag M H,HAt W ph tag M H∧(∀ g,tag g≠0→S g)∧objM M 1=(1+j%200,0,1,0)
theorem Oth.same {j ph:Nat}{S S':Nat→Prop}{W W':World} (h:Oth j ph S W) (hs:W.heap.size≤W'.heap.size) (hb:∀ g,S g→g<W.heap.size→W'.heap[g]?=W.heap[g]?∧S' g):Oth j ph S' W':=by
 obtain ⟨tag,M,H,q1,q2,q3⟩:=h
 exact ⟨tag,M,H,q1.samew hs fun g hg=>(hb g (q2 g hg) (q1.raw.un g hg)).1,fun g hg=>(hb g (q2 g hg) (q1.raw.un g hg)).2,q3⟩
def ptrV (l:List Nat) (j:Nat):Value:=.pointer (some ⟨l.getD j 0,0,none⟩)
def sideOf (pa pb c:Nat):Nat:=if c=1 then pa else pb
structure HIn (w0:World) (B pa pb i:Nat) (ov:Value) (own:Nat→Nat) (lo:List Nat) (W:World):Prop where
 be:Below B w0 W
 ow:∀ g,own g≠0→B≤g∧g<W.heap.size
 sd:∀ c,c=1∨c=2→SideP (sideOf pa pb c) i (fun g=>own g=c) W
 ln:Line W 34 ov lo.length (ptrV lo)
 lw:∀ g,ov.ownBlock=some g→own g=3
 le:lo.length≤1000
 ot:∀ j,j<lo.length→Oth j (lo.getD j 0) (fun g=>own g=4+j) W
section
variable {w0 W W':World}{B pa pb i:Nat}{ov:Value}{own:Nat→Nat}{lo:List Nat}
theorem HIn.below (h:HIn w0 B pa pb i ov own lo W) {j:Nat} (hj:i≤j) (hB:B≤W.heap.size) (k:Below W.heap.size W W'):HIn w0 B pa pb j ov own lo W' where
 be:=h.be.trans (k.mono hB)
 ow g hg:=⟨(h.ow g hg).1,Nat.lt_of_lt_of_le (h.ow g hg).2 k.size⟩
 sd c hc:=(h.sd c hc).same hj k.size fun g e hg=>⟨k.block g hg,e⟩
 ln:=h.ln.same fun g hg=>k.block g (h.ln.lt g hg)
 lw:=h.lw
 le:=h.le
 ot m hm:=(h.ot m hm).same k.size fun g e hg=>⟨k.block g hg,e⟩
theorem HIn.plays (h:HIn w0 B pa pb i ov own lo W) (hB:B≤W.heap.size) {c ph pd:Nat} (hc:c=1∨c=2) {o2:Nat→Nat} (ho:∀ g,o2 g≠0→own g=c) (hc0:sideOf pa pb c<W.heap.size) (go:SideGo o2 (sideOf pa pb c) ph pd (i+1) W W'):∃ own',HIn w0 B pa pb (i+1) ov own' lo W':=by
 obtain ⟨tag,dt,M,H,C,v,l,q1,q2,q3,f⟩:=go
 have hz:∀ g,g<W.heap.size→own g≠c→W'.heap[g]?=W.heap[g]?∧ownS (sideOf pa pb c) tag dt v g=0:=fun g hg hn=>f.blk g hg (by
  by_cases e:o2 g=0
  ·exact e
  ·exact absurd (ho g e) hn)
 have hn0:∀ d,d≠c→∀ g,own g=d→g<W.heap.size→W'.heap[g]?=W.heap[g]?∧(if ownS (sideOf pa pb c) tag dt v g≠0 then c else if own g=c then 0 else own g)=d:=fun d hd g e hg=>by
  obtain ⟨e1,e2⟩:=hz g hg (by omega)
  refine ⟨e1,?_⟩
  rw[if_neg (by rw[e2];simp),if_neg (by omega)]
  exact e
 refine ⟨fun g=>if ownS (sideOf pa pb c) tag dt v g≠0 then c else if own g=c then 0 else own g,?_,fun g hg=>?_,fun d hd=>?_,?_,fun g hg=>?_,h.le,fun j hj=>?_⟩
 ·refine ⟨f.os.trans h.be.os,f.tape.trans h.be.tape,f.output.trans h.be.output,Nat.le_trans h.be.size f.size,fun g hg=>?_⟩
  have hgw:g<W.heap.size:=Nat.lt_of_lt_of_le hg hB
  have ho0:own g=0:=by
   by_cases e:own g=0
   ·exact e
   ·have:=(h.ow g e).1;omega
  rw[(hz g hgw (by omega)).1]
  exact h.be.block g hg
 ·by_cases e:ownS (sideOf pa pb c) tag dt v g≠0
  ·refine ⟨?_,q1.lt g e⟩
   by_cases hgw:g<W.heap.size
   ·by_cases e2:own g=c
    ·exact (h.ow g (by omega)).1
    ·exact absurd (hz g hgw e2).2 e
   ·omega
  ·rw[if_neg e] at hg
   by_cases e2:own g=c
   ·rw[if_pos e2] at hg;exact absurd rfl hg
   ·rw[if_neg e2] at hg
    exact ⟨(h.ow g hg).1,Nat.lt_of_lt_of_le (h.ow g hg).2 f.size⟩
 ·by_cases e:d=c
  ·subst e
   refine .inr ⟨ph,pd,tag,dt,M,H,C,v,l,q1,q2,q3,fun g hg=>?_⟩
   dsimp only
   rw[if_pos hg]
  ·exact (h.sd d hd).same (Nat.le_succ _) f.size (hn0 d e)
 ·exact h.ln.same fun g hg=>(hn0 3 (by omega) g (h.lw g hg) (h.ln.lt g hg)).1
 ·exact (hn0 3 (by omega) g (h.lw g hg) (h.ln.lt g hg)).2
 ·exact (h.ot j hj).same f.size (hn0 (4+j) (by omega))
theorem HIn.more {W2 W3:World}{ov':Value}{ph:Nat}{tag:Nat→Nat}{M:Hp}{H:HC} (h:HIn w0 B pa pb i ov own lo W) (hB:B≤W.heap.size) (hlo:lo.length<1000) (k:Below W.heap.size W W2) (he:HAt W2 ph tag M H) (ht:∀ g,tag g≠0→W.heap.size≤g) (ho:objM M 1=(1+lo.length%200,0,1,0)) {x:Obj}
  (hl:Line W3 34 ov' (lo.length+1) (fun j=>if j<lo.length then ptrV lo j else .pointer (some ⟨ph,0,none⟩))) (gr:Grew 34 lo.length (.pointer (some ⟨ph,0,none⟩)) (W2.alloc x) W3 ov ov'):∃ own',HIn w0 B pa pb i ov' own' (lo ++ [ph]) W3∧∀ g,g<W.heap.size→own g=0→own' g=0∧W3.heap[g]?=W.heap[g]?:=by
 have hsz:(W2.alloc x).heap.size=W2.heap.size+1:=by simp
 have k2:Below W2.heap.size W2 (W2.alloc x):=(Below.refl _ _).alloc (Nat.le_refl _) _
 have hs3:W2.heap.size≤W3.heap.size:=by have:=gr.size;omega
 have hb3:∀ g,g<W2.heap.size→ov.ownBlock≠some g→W3.heap[g]?=W2.heap[g]?:=fun g hg hn=>by
  rw[gr.other g (by rw[hsz];omega) hn]
  exact k2.block g hg
 have htl:∀ g,tag g≠0→g<W2.heap.size:=he.raw.un
 have hbo:∀ g,g<W.heap.size→ov.ownBlock≠some g→W3.heap[g]?=W.heap[g]?:=fun g hg hn=>by
  rw[hb3 g (Nat.lt_of_lt_of_le hg k.size) hn]
  exact k.block g hg
 have htz:∀ g,g<W.heap.size→tag g=0:=fun g hg=>by
  by_cases e:tag g=0
  ·exact e
  ·have:=ht g e;omega
 have hov:∀ g,ov.ownBlock=some g→g<W.heap.size:=fun g hg=>h.ln.lt g hg
 have hwn:∀ d,d≠3→d≠0→∀ g,own g=d→g<W.heap.size→W3.heap[g]?=W.heap[g]?∧(if tag g≠0 then 4+lo.length else if ov'.ownBlock=some g then 3 else own g)=d:=fun d h3 h0 g e hg=>by
  have hn:ov.ownBlock≠some g:=fun q=>by
   have:=h.lw g q
   omega
  refine ⟨hbo g hg hn,?_⟩
  rw[if_neg (by rw[htz g hg];simp),if_neg (fun q=>?_),e]
  rcases gr.own g q with z|z
  ·exact hn z
  ·have:=k.size;omega
 refine ⟨fun g=>if tag g≠0 then 4+lo.length else if ov'.ownBlock=some g then 3 else own g,⟨?_,fun g hg=>?_,fun c hc=>?_,?_,fun g hg=>?_,?_,fun j hj=>?_⟩,fun g hg e=>?_⟩
 ·refine ⟨?_,?_,?_,?_,fun g hg=>?_⟩
  ·rw[gr.os];exact k.os.trans h.be.os
  ·rw[gr.tape];exact k.tape.trans h.be.tape
  ·rw[gr.output];exact k.output.trans h.be.output
  ·exact Nat.le_trans (Nat.le_trans h.be.size k.size) hs3
  ·have hgw:g<W.heap.size:=Nat.lt_of_lt_of_le hg hB
   rw[hbo g hgw (fun q=>by have:=(h.ow g (by rw[h.lw g q];decide)).1;omega)]
   exact h.be.block g hg
 ·by_cases e:tag g≠0
  ·exact ⟨Nat.le_trans hB (ht g e),Nat.lt_of_lt_of_le (htl g e) hs3⟩
  ·rw[if_neg e] at hg
   by_cases e2:ov'.ownBlock=some g
   ·refine ⟨?_,hl.lt g e2⟩
    rcases gr.own g e2 with z|z
    ·exact (h.ow g (by rw[h.lw g z];decide)).1
    ·have:=k.size;omega
   ·rw[if_neg e2] at hg
    exact ⟨(h.ow g hg).1,Nat.lt_of_lt_of_le (h.ow g hg).2 (Nat.le_trans k.size hs3)⟩
 ·exact (h.sd c hc).same (Nat.le_refl _) (Nat.le_trans k.size hs3) (hwn c (by omega) (by omega))
 ·rw[List.length_append]
  refine hl.congr fun j hj=>?_
  by_cases q:j<lo.length
  ·rw[if_pos q]
   unfold ptrV
   rw[List.getD_eq_getElem?_getD,List.getD_eq_getElem?_getD,List.getElem?_append_left q]
  ·rw[if_neg q]
   have:j=lo.length:=by omega
   subst this
   unfold ptrV
   rw[List.getD_eq_getElem?_getD,List.getElem?_append_right (Nat.le_refl _)]
   simp
 ·have e0:tag g=0:=by
   rcases gr.own g hg with z|z
   ·exact htz g (hov g z)
   ·by_cases e:tag g=0
    ·exact e
    ·have:=htl g e;omega
  rw[if_neg (by rw[e0];simp),if_pos hg]
 ·rw[List.length_append];show lo.length+1≤1000;omega
 ·rw[List.length_append] at hj
  by_cases q:j<lo.length
  ·have e:(lo ++ [ph]).getD j 0=lo.getD j 0:=by
    rw[List.getD_eq_getElem?_getD,List.getD_eq_getElem?_getD,List.getElem?_append_left q]
   rw[e]
   exact (h.ot j q).same (Nat.le_trans k.size hs3) (hwn (4+j) (by omega) (by omega))
  ·have hj2:j=lo.length:=by
    have:j<lo.length+1:=hj
    omega
   subst hj2
   have e:(lo ++ [ph]).getD lo.length 0=ph:=by
    rw[List.getD_eq_getElem?_getD,List.getElem?_append_right (Nat.le_refl _)]
    simp
   rw[e]
   refine ⟨tag,M,H,he.samew hs3 fun g hg=>hb3 g (htl g hg) (fun q=>?_),fun g hg=>?_,ho⟩
   ·have:=hov g q
    have:=ht g hg
    omega
   ·dsimp only
    rw[if_pos hg]
 ·have hn:ov.ownBlock≠some g:=fun q=>by
   have:=h.lw g q
   omega
  refine ⟨?_,hbo g hg hn⟩
  show (if tag g≠0 then 4+lo.length else if ov'.ownBlock=some g then 3 else own g)=0
  rw[if_neg (by rw[htz g hg];simp),if_neg (fun q=>?_),e]
  rcases gr.own g q with z|z
  ·exact hn z
  ·have:=k.size;omega
end
theorem one_heap (k:Nat):objM (addS (newM 128) k 0 1) 1=(k,0,1,0):=by rfl
theorem one_alloc {k v x:Nat}{M:Hp} (h:AllocR (newM 128) k 0 1 M v x):M=addS (newM 128) k 0 1∧v=1∧x=0:=by
 have a:AllocR (newM 128) k 0 1 (addS (newM 128) k 0 1) 1 0:=.inl ⟨by decide,newM 128,.inl ⟨by decide,rfl⟩,.inl ⟨by decide,rfl,rfl,rfl⟩⟩
 obtain ⟨e1,e2,e3⟩:=h.one a
 exact ⟨e1,e2,e3⟩
def toW (q:OpL):OpW:=⟨q.on,q.dd,q.A,q.B,q.C,q.r,q.v,q.raw,q.wv,q.a,q.d.length,q.c⟩
theorem OpC.like {w w':World}{b o:Nat}{q:OpW} (h:OpC w b o q) (e:w'.heap[b]?=w.heap[b]?):OpC w' b o q:=by
 have k:∀ i,w'.cell? ⟨b,i,none⟩=w.cell? ⟨b,i,none⟩:=fun i=>by simp only[World.cell?,e]
 exact ⟨(k _).trans h.m0,(k _).trans h.m1,(k _).trans h.m2,(k _).trans h.m3,(k _).trans h.m4,(k _).trans h.m5,(k _).trans h.m6,(k _).trans h.m7,(k _).trans h.m8,(k _).trans h.m9⟩
theorem OpC.new (w:World) (q:OpW):OpC (w.alloc (.cells (opB q) 44)) w.heap.size 0 q:=by
 have hx:∀ i u,(opB q)[i]?=some u→(w.alloc (.cells (opB q) 44)).cell? ⟨w.heap.size,i,none⟩=some u:=fun i u e=>by
  simp only[World.cell?,heap_alloc_new]
  exact e
 exact ⟨hx 0 _ rfl,hx _ _ rfl,hx _ _ rfl,hx _ _ rfl,hx _ _ rfl,hx _ _ rfl,hx _ _ rfl,hx _ _ rfl,hx _ _ rfl,hx _ _ rfl⟩
def Ops3 (w:World) (a:Option Addr) (n:Nat):Prop:=n=0∨∃ b off,a=some ⟨b,off,none⟩∧b<w.heap.size∧∀ i,i<n→∃ q,OpC w b (off+i*10) (toW q)∧OpOk w q
theorem begin_side {w:World}{ps:Nat} (n:Int) (b:Bare w ps):
  Calls Tryz.prog 14 #[.pointer (some ⟨ps,0,none⟩),.int .i64 n] w fun e w'=>e=.returned (.bool true)∧∃ S:Nat→Prop,SideP ps 0 S w'∧But [ps] w w'∧∀ g,S g→(g=ps∨w.heap.size≤g)∧g<w'.heap.size:=by
 have hpl:ps<w.heap.size:=block_lt_of_cell b.c0
 by_cases h:n<128∨1048576<n
 ·refine (begin_no b h).mono ?_
  rintro e w' ⟨rfl,q1,q2⟩
  exact ⟨rfl,fun g=>g=ps,.inl ⟨q1,rfl⟩,q2,fun g hg=>⟨.inl hg,by rw[hg];exact Nat.lt_of_lt_of_le hpl q2.size⟩⟩
 ·obtain ⟨n',rfl⟩:∃ n':Nat,n=(n':Nat):=⟨n.toNat,by omega⟩
  refine (begin_yes n' b (by omega) (by omega)).mono ?_
  rintro e w' ⟨rfl,ph,pd,tag,dt,H,C,q1,q2,q3⟩
  exact ⟨rfl,fun g=>ownS ps tag dt (.slice none 0 0) g≠0,.inr ⟨ph,pd,tag,dt,newM n',H,C,_,[],q1,Okd.new n',Nat.le_refl _,fun g hg=>hg⟩,q2,fun g hg=>⟨q3 g hg,q1.lt g hg⟩⟩
theorem Bare.new (w:World):Bare (w.alloc (.cells #[.pointer none,.pointer none,.slice none 0 0] 38)) w.heap.size:=by
 have hx:∀ i u,(#[.pointer none,.pointer none,.slice none 0 0]:Array Value)[i]?=some u→(w.alloc (.cells #[.pointer none,.pointer none,.slice none 0 0] 38)).cell? ⟨w.heap.size,i,none⟩=some u:=fun i u e=>by
  simp only[World.cell?,heap_alloc_new]
  exact e
 exact ⟨hx 0 _ rfl,hx 1 _ rfl,hx 2 _ rfl,fun o ho=>by simp only[World.frozen?,heap_alloc_new];simp⟩
section
variable {w0:World}{B pa pb:Nat}
def HI (w0:World) (B pa pb i m:Nat) (v:Value) (W:World):Prop:=∃ own lo,lo.length=m∧HIn w0 B pa pb i v own lo W
def HJn (w w0:World) (B pa pb i m b:Nat) (q:OpW) (v:Value) (W:World):Prop:=∃ own lo q',q=toW q'∧lo.length=m∧HIn w0 B pa pb i v own lo W∧OpC W b 0 q∧own b=0∧b<W.heap.size∧OpOk w q'∧i<65536
def HK (w w0:World) (B pa pb i m b:Nat) (q:OpW) (v:Value) (ph:Nat) (M:Hp) (W:World):Prop:=∃ Wj own lo q' tag H,q=toW q'∧lo.length=m∧m<1000∧HIn w0 B pa pb i v own lo Wj∧OpC Wj b 0 q∧own b=0∧b<Wj.heap.size∧OpOk w q'∧i<65536∧Below Wj.heap.size Wj W∧HAt W ph tag M H∧∀ g,tag g≠0→Wj.heap.size≤g
theorem HIn.two {own:Nat→Nat}{lo:List Nat}{i:Nat}{v:Value}{W:World} (h:HIn w0 B pa pb i v own lo W) (hw:w0.heap.size=B):B≤W.heap.size:=by
 have:=h.be.size
 omega
theorem HJn.plays {w:World}{i m b c:Nat}{q:OpW}{v:Value}{W:World} (h:HJn w w0 B pa pb i m b q v W) (hw:w0.heap.size=B) (hwB:w.heap.size≤B) (bw:Below w.heap.size w w0) (hc:c=1∨c=2):
  (W.cell? ⟨sideOf pa pb c,0,none⟩=some (.pointer none)∧HI w0 B pa pb (i+1) m v W)∨∃ ph,W.cell? ⟨sideOf pa pb c,0,none⟩=some (.pointer (some ⟨ph,0,none⟩))∧Calls Tryz.prog 17 #[.pointer (some ⟨sideOf pa pb c,0,none⟩),.agg (opB q)] W fun e w'=>e=.returned (.bool true)∧HI w0 B pa pb (i+1) m v w':=by
 obtain ⟨own,lo,q',rfl,hl,hin,hop,hb0,hbl,ok,hi⟩:=h
 have hB:=hin.two hw
 have bW:Below w.heap.size w W:=bw.trans (hin.be.mono hwB)
 rcases hin.sd c hc with ⟨br,_⟩|⟨ph,pd,tag,dt,M,H,C,v',l,sd,o,hll,ho⟩
 ·exact .inl ⟨br.c0,own,lo,hl,hin.below (Nat.le_succ _) hB (Below.refl _ _)⟩
 ·refine .inr ⟨ph,sd.c0,?_⟩
  refine (arm_any sd o hll (by omega) q' (ok.below bW) (fun hd b' off ea=>?_)).mono ?_
  ·have hlt:b'<w.heap.size:=by
    rcases ok.by' with z|⟨b2,o2,z1,z2,_⟩
    ·exact absurd z hd
    ·rw[z1] at ea
     cases ea
     exact z2
   by_cases e:ownS (sideOf pa pb c) tag dt v' b'=0
   ·exact e
   ·have h1:=ho b' e
    have h2:=(hin.ow b' (by rw[h1];omega)).1
    omega
  ·rintro e w' ⟨rfl,go⟩
   obtain ⟨own',hin'⟩:=hin.plays hB hc ho (block_lt_of_cell sd.c0) go
   exact ⟨rfl,own',lo,hl,hin'⟩
end
theorem holds_law (w:World) (l0 l1 lo hi:Int) (a:Option Addr) (n cap:Nat) (hS:Ops3 w a n):
  Calls Tryz.prog 9 #[.agg #[.int .i64 l0,.int .i64 l1,.slice a n cap],.int .i64 lo,.int .i64 hi] w fun e w'=>e=.returned (.bool true)∧Below w.heap.size w w':=by
 obtain ⟨W1,hW1⟩:∃ W1,W1=w.alloc (.cells #[.int .i64 l0,.int .i64 l1,.slice a n cap] 25):=⟨_,rfl⟩
 have hs1:W1.heap.size=w.heap.size+1:=by rw[hW1];simp
 have bw1:Below w.heap.size w W1:=by rw[hW1];exact (Below.refl _ _).alloc (Nat.le_refl _) _
 have hc:∀ i u,(#[.int .i64 l0,.int .i64 l1,.slice a n cap]:Array Value)[i]?=some u→W1.cell? ⟨w.heap.size,i,none⟩=some u:=fun i u e=>by
  rw[hW1]
  simp only[World.cell?,heap_alloc_new]
  exact e
 have box:∀ W,Below (w.heap.size+1) W1 W→∀ i u,(#[.int .i64 l0,.int .i64 l1,.slice a n cap]:Array Value)[i]?=some u→W.cell? ⟨w.heap.size,i,none⟩=some u:=fun W k i u e=>(k.cell (p:=⟨w.heap.size,i,none⟩) (Nat.lt_succ_self _)).trans (hc i u e)
 have hso:∀ c,c=1∨c=2→sideOf (w.heap.size+1) (w.heap.size+1+1) c=w.heap.size+c:=fun c h=>by
  unfold sideOf
  rcases h with rfl|rfl
  ·rfl
  ·rfl
 refine holds_walk l0 l1 lo hi a n cap
  (P1:=fun W=>∃ S:Nat→Prop,SideP (w.heap.size+1) 0 S W∧Below (w.heap.size+1) W1 W∧Bare W (w.heap.size+1+1)∧∀ g,S g→w.heap.size+1≤g∧g≠w.heap.size+1+1∧g<W.heap.size)
  (I:=HI W1 (w.heap.size+1) (w.heap.size+1) (w.heap.size+1+1))
  (E:=fun m v W=>∃ i,HI W1 (w.heap.size+1) (w.heap.size+1) (w.heap.size+1+1) i m v W)
  (J:=HJn w W1 (w.heap.size+1) (w.heap.size+1) (w.heap.size+1+1))
  (K:=fun i m b q v ph W=>HK w W1 (w.heap.size+1) (w.heap.size+1) (w.heap.size+1+1) i m b q v ph (newM 128) W)
  (L:=fun i m b q v ph W=>HK w W1 (w.heap.size+1) (w.heap.size+1) (w.heap.size+1+1) i m b q v ph (addS (newM 128) (1+m%200) 0 1) W)
  ?_ ?_ ?_ ?_ ?_ ?_ ?_ ?_ ?_ ?_ ?_ ?_ ?_
 ·rw[← hW1]
  have hs2:(W1.alloc (.cells #[.pointer none,.pointer none,.slice none 0 0] 38)).heap.size=w.heap.size+1+1:=by simp [hs1]
  have k2:Below W1.heap.size W1 (W1.alloc (.cells #[.pointer none,.pointer none,.slice none 0 0] 38)):=(Below.refl _ _).alloc (Nat.le_refl _) _
  have b2:=Bare.new W1
  rw[hs1] at b2
  have k3:Below (w.heap.size+1+1) (W1.alloc (.cells #[.pointer none,.pointer none,.slice none 0 0] 38)) ((W1.alloc (.cells #[.pointer none,.pointer none,.slice none 0 0] 38)).alloc (.cells #[.pointer none,.pointer none,.slice none 0 0] 38)):=(Below.refl _ _).alloc (by omega) _
  have b3:=Bare.new (W1.alloc (.cells #[.pointer none,.pointer none,.slice none 0 0] 38))
  rw[hs2] at b3
  have b2':=b2.like (k3.block (w.heap.size+1) (by omega))
  have hs3:((W1.alloc (.cells #[.pointer none,.pointer none,.slice none 0 0] 38)).alloc (.cells #[.pointer none,.pointer none,.slice none 0 0] 38)).heap.size=w.heap.size+1+1+1:=by simp [hs1]
  have k13:Below (w.heap.size+1) W1 ((W1.alloc (.cells #[.pointer none,.pointer none,.slice none 0 0] 38)).alloc (.cells #[.pointer none,.pointer none,.slice none 0 0] 38)):=by
   rw[hs1] at k2
   exact k2.trans (k3.mono (by omega))
  refine (begin_side l0 b2').mono ?_
  rintro e w' ⟨rfl,S,q1,q2,q3⟩
  have kb:Below (w.heap.size+1) W1 w':=by
   refine ⟨q2.os.trans k13.os,q2.tape.trans k13.tape,q2.output.trans k13.output,Nat.le_trans k13.size q2.size,fun g hg=>?_⟩
   rw[q2.block g (by rw[hs3];omega) (by intro h;have:=List.mem_singleton.1 h;omega)]
   exact k13.block g hg
  refine ⟨rfl,box w' kb 1 _ rfl,S,q1,kb,b3.like (q2.block _ (by rw[hs3];omega) (by intro h;have:=List.mem_singleton.1 h;omega)),fun g hg=>?_⟩
  obtain ⟨z1,z2⟩:=q3 g hg
  rw[hs3] at z1
  exact ⟨by omega,by omega,z2⟩
 ·rintro W ⟨S,q1,kb,b3,hSg⟩
  have hp3:=block_lt_of_cell b3.c0
  refine (begin_side l1 b3).mono ?_
  rintro e w' ⟨rfl,S2,z1,z2,z3⟩
  have hz:∀ g,g<W.heap.size→g≠w.heap.size+1+1→w'.heap[g]?=W.heap[g]?:=fun g h1 h2=>z2.block g h1 (by intro h;exact h2 (List.mem_singleton.1 h))
  have kb':Below (w.heap.size+1) W1 w':=by
   refine ⟨z2.os.trans kb.os,z2.tape.trans kb.tape,z2.output.trans kb.output,Nat.le_trans kb.size z2.size,fun g hg=>?_⟩
   rw[hz g (by dsimp only at hp3;omega) (by omega)]
   exact kb.block g hg
  classical
  refine ⟨rfl,fun g=>if S g then 1 else if S2 g then 2 else 0,[],rfl,kb',fun g hg=>?_,fun c hc'=>?_,.inl ⟨rfl,rfl⟩,fun g hg=>(by cases hg),Nat.zero_le _,fun j hj=>absurd hj (Nat.not_lt_zero _)⟩
  ·by_cases e1:S g
   ·have:=hSg g e1
    exact ⟨this.1,Nat.lt_of_lt_of_le this.2.2 z2.size⟩
   ·by_cases e2:S2 g
    ·have:=z3 g e2
     dsimp only at hp3
     exact ⟨by omega,this.2⟩
    ·exact absurd (by simp [e1,e2]) hg
  ·rcases hc' with rfl|rfl
   ·refine q1.same (Nat.le_refl _) z2.size fun g hg hlt=>?_
    have:=hSg g hg
    exact ⟨hz g hlt this.2.1,by simp [hg]⟩
   ·refine z1.same (Nat.le_refl _) (Nat.le_refl _) fun g hg hlt=>⟨rfl,?_⟩
    have h1:=z3 g hg
    have h2:¬ S g:=fun e=>by
     have:=hSg g e
     omega
    simp [hg,h2]
 ·rintro i m v W ⟨own,lo',hl,hin⟩
  exact box W hin.be 2 _ rfl
 ·rintro i m v W ⟨own,lo',hl,hin⟩ hin1 hi6
  rcases hS with h|⟨bb,off,rfl,hbb,hq⟩
  ·omega
  ·obtain ⟨q',hop,ok⟩:=hq i hin1
   have bW:Below w.heap.size w W:=bw1.trans (hin.be.mono (by omega))
   have hB:=hin.two hs1
   refine ⟨bb,off,toW q',rfl,hop.like (bW.block bb hbb),own,lo',q',rfl,hl,hin.below (Nat.le_refl _) hB ((Below.refl _ _).alloc (Nat.le_refl _) _),OpC.new W _,?_,by simp,ok,hi6⟩
   by_cases e:own W.heap.size=0
   ·exact e
   ·exact absurd (hin.ow _ e).2 (Nat.lt_irrefl _)
 ·rintro i m b q v W ⟨own,lo',q',rfl,hl,hin,hop,_⟩
  exact hop
 ·rintro i m b q v W ⟨own,lo',q',rfl,hl,hin,hop,hb0,hbl,ok,hi⟩ hm
  refine (hnew_any 128 (by decide) (by decide)).mono ?_
  rintro e w' ⟨ph,tag,H,rfl,q2,q3,q4⟩
  exact ⟨ph,rfl,W,own,lo',q',tag,H,rfl,hl,hm,hin,hop,hb0,hbl,ok,hi,q4,q2,q3⟩
 ·rintro i m b q v ph W ⟨Wj,own,lo',q',tag,H,rfl,hl,hm,hin,hop,hb0,hbl,ok,hi,kb,he,ht⟩
  have hk2:m%200<200:=Nat.mod_lt _ (by decide)
  have E:(1+((m%200:Nat):Int))=((1+m%200:Nat):Int):=by omega
  rw[E]
  refine (halloc_any he (by show 1≤1;decide) (Nat.zero_le _) (Nat.zero_le _) (Nat.zero_le _) (1+m%200) 0 1 ⟨by omega,by omega,by decide,by decide,by decide,by decide⟩).mono ?_
  rintro e w' ⟨tag',H',M',y,x,al,f,rfl,he'⟩
  obtain ⟨rfl,rfl,rfl⟩:=one_alloc al
  have htz:∀ g,g<Wj.heap.size→tag g=0:=fun g hg=>by
   by_cases e:tag g=0
   ·exact e
   ·have:=ht g e;omega
  refine ⟨_,_,rfl,Wj,own,lo',q',tag',H',rfl,hl,hm,hin,hop,hb0,hbl,ok,hi,?_,he',fun g hg=>?_⟩
  ·refine ⟨f.os.trans kb.os,f.tape.trans kb.tape,f.output.trans kb.output,Nat.le_trans kb.size f.size,fun g hg=>?_⟩
   rw[(f.blk g (Nat.lt_of_lt_of_le hg kb.size) (htz g hg)).1]
   exact kb.block g hg
  ·by_cases h:Wj.heap.size≤g
   ·exact h
   ·exact absurd (f.blk g (Nat.lt_of_lt_of_le (by omega) kb.size) (htz g (by omega))).2 hg
 ·rintro i m b q v ph W ⟨Wj,own,lo',q',tag,H,rfl,hl,hm,hin,hop,hb0,hbl,ok,hi,kb,he,ht⟩
  have kx:Below W.heap.size W (W.alloc (.cells #[.pointer (some ⟨ph,0,none⟩)] 34)):=(Below.refl _ _).alloc (Nat.le_refl _) _
  have kj:Below Wj.heap.size Wj (W.alloc (.cells #[.pointer (some ⟨ph,0,none⟩)] 34)):=kb.trans (kx.mono kb.size)
  subst hl
  refine ⟨ptrV lo',hin.ln.same fun g hg=>kj.block g (hin.ln.lt g hg),fun v' w' l9 g9=>?_⟩
  obtain ⟨own',hin',hz⟩:=hin.more (hin.two hs1) hm kb he ht (one_heap _) l9 g9
  have:=hz b hbl hb0
  exact ⟨own',lo' ++ [ph],q',rfl,by rw[List.length_append];rfl,hin',hop.like this.2,this.1,Nat.lt_of_lt_of_le hbl (Nat.le_trans kj.size g9.size),ok,hi⟩
 ·intro i m b q v W h
  exact h.plays hs1 (by omega) bw1 (c:=1) (.inl rfl)
 ·intro i m b q v W h
  exact h.plays hs1 (by omega) bw1 (c:=2) (.inr rfl)
 ·intro i m v W h
  exact ⟨i,h⟩
 ·rintro m v W j ⟨i,own,lo',rfl,hin⟩ hj
  obtain ⟨g,c9,e1,_,e2⟩:=hin.ln.at (by omega)
  obtain ⟨tag,M,H,he,ht,ho⟩:=hin.ot j hj
  refine ⟨g,c9,lo'.getD j 0,e1,(e2 j hj).1,(hobject_any he 1 (by decide)).mono ?_⟩
  rintro e w' ⟨rfl,k⟩
  rw[ho]
  refine ⟨?_,i,own,lo',rfl,hin.below (Nat.le_refl _) (hin.two hs1) k⟩
  have E:(((1+j%200:Nat)):Int)=(1+((j%200:Nat):Int)):=by omega
  show Ending.returned (.tuple #[.int .i64 ((1+j%200:Nat):Int),_,_,_])=_
  rw[E]
  rfl
 ·rintro m v W ⟨i,own,lo',rfl,hin⟩
  exact bw1.trans (hin.be.mono (by omega))
end Go.Proofs.YtidfllgaeiopjabGreat
