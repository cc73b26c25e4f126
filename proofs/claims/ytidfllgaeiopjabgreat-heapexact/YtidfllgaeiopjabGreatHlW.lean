import Derived.Test.YtidfllgaeiopjabGreatHGet
import Derived.Test.YtidfllgaeiopjabGreatTakeAll
import Derived.Test.YtidfllgaeiopjabGreatPool3
import Derived.Deep.DeepCutAuto
import Derived.Deep.RegionHeld3
namespace Go.Proofs.YtidfllgaeiopjabGreat
open Go.ChangeShapes Go.WideShapes Go.ChangeAt Go.RowKit
set_option linter.unusedVariables false
set_option maxRecDepth 100000
set_option maxHeartbeats 1000000
theorem alloc_bad {w:World}{ph:Nat} (k r s:Int) (h:¬ Fits k r s):
  Calls Tryz.prog 16 #[.pointer (some ⟨ph,0,none⟩),.int .i64 k,.int .i64 r,.int .i64 s] w fun e w'=>e=.returned (.tuple #[.int .u64 0,.int .i64 34])∧w'=w:=by
 have H1:=hide (head_no k r s w h)
 clear h
 go_enter Tryz.func16,Tryz.ntmps16
 go_wp2_with fail
 refine (unhide H1).mono ?_
 clear H1
 rintro e w1 ⟨rfl,rfl⟩
 go_wp2
 go_ret2
 exact ⟨rfl,rfl⟩
theorem alloc_small {w:World}{ph k r s:Nat} (h:Fits k r s) (hs:1+r+s≤64) {R:Ending→World→Prop}
  (HS:Calls Tryz.prog 43 #[.pointer (some ⟨ph,0,none⟩),.int .i64 (k:Nat),.int .i64 (r:Nat),.int .i64 (s:Nat),.int .i64 ((1+r+s:Nat):Int)] w fun e w'=>(∃ v x:Int,e=.returned (.tuple #[.int .u64 v,.int .i64 x]))∧R e w'):
  Calls Tryz.prog 16 #[.pointer (some ⟨ph,0,none⟩),.int .i64 (k:Nat),.int .i64 (r:Nat),.int .i64 (s:Nat)] w fun e w'=>R e w':=by
 have H1:=hide (head_yes k r s w h)
 have H2:=hide HS
 have a1:IntKind.i64.wrap ((1:Int)+(r:Nat))=(1:Int)+(r:Nat):=wrap_small _ (by omega) (by omega)
 have a2:IntKind.i64.wrap ((1:Int)+(r:Nat)+(s:Nat))=((1+r+s:Nat):Int):=by rw[show (1:Int)+(r:Nat)+(s:Nat)=((1+r+s:Nat):Int) by omega];exact wrap_small _ (by omega) (by omega)
 have d1:decide ((64:Int)<((1+r+s:Nat):Int))=false:=decide_eq_false (by omega)
 clear HS h
 obtain ⟨z,hz⟩:∃ z,1+r+s=z:=⟨_,rfl⟩
 rw[hz] at H2 a2 d1
 clear hz hs
 go_enter Tryz.func16,Tryz.ntmps16
 go_wp2_with fail
 refine (unhide H1).mono ?_
 clear H1
 rintro e w1 ⟨rfl,rfl⟩
 go_wp2_with fail
 refine (unhide H2).mono ?_
 clear H2
 rintro e w2 ⟨⟨v,x,rfl⟩,hR⟩
 go_wp2
 exact hR
theorem alloc_large {w:World}{ph k r s:Nat} (h:Fits k r s) (hs:64<1+r+s) {R:Ending→World→Prop}
  (HS:Calls Tryz.prog 42 #[.pointer (some ⟨ph,0,none⟩),.int .i64 (k:Nat),.int .i64 (r:Nat),.int .i64 (s:Nat),.int .i64 ((2+r+s:Nat):Int)] w fun e w'=>(∃ v x:Int,e=.returned (.tuple #[.int .u64 v,.int .i64 x]))∧R e w'):
  Calls Tryz.prog 16 #[.pointer (some ⟨ph,0,none⟩),.int .i64 (k:Nat),.int .i64 (r:Nat),.int .i64 (s:Nat)] w fun e w'=>R e w':=by
 have H1:=hide (head_yes k r s w h)
 have H2:=hide HS
 have f1:(r:Int)≤1048576:=h.2.2.2.1
 have f2:(s:Int)≤1048576:=h.2.2.2.2.2
 have a1:IntKind.i64.wrap ((1:Int)+(r:Nat))=(1:Int)+(r:Nat):=wrap_small _ (by omega) (by omega)
 obtain ⟨z,hz⟩:∃ z,1+r+s=z:=⟨_,rfl⟩
 have hz2:2+r+s=1+z:=by omega
 have a2:IntKind.i64.wrap ((1:Int)+(r:Nat)+(s:Nat))=(z:Int):=by rw[show (1:Int)+(r:Nat)+(s:Nat)=(z:Int) by omega];exact wrap_small _ (by omega) (by omega)
 obtain ⟨y,hy⟩:∃ y,1+z=y:=⟨_,rfl⟩
 have a3:IntKind.i64.wrap ((1:Int)+(z:Nat))=(y:Int):=by rw[show (1:Int)+(z:Nat)=(y:Int) by omega];exact wrap_small _ (by omega) (by omega)
 have d1:decide ((64:Int)<(z:Int))=true:=decide_eq_true (by omega)
 rw[hz2,hy] at H2
 clear HS h
 go_enter Tryz.func16,Tryz.ntmps16
 go_wp2_with fail
 refine (unhide H1).mono ?_
 clear H1
 rintro e w1 ⟨rfl,rfl⟩
 go_wp2_with fail
 refine (unhide H2).mono ?_
 clear H2
 rintro e w2 ⟨⟨v,x,rfl⟩,hR⟩
 go_wp2
 exact hR
theorem himage_walk {w:World}{ph pa:Nat} (e1:w.cell? ⟨ph,1,none⟩=some (.pointer (some ⟨pa,0,none⟩))) {R:Value→World→Prop}
  (HI:Calls Tryz.prog 79 #[.pointer (some ⟨pa,0,none⟩)] w fun e w'=>∃ a n c,e=.returned (.slice a n c)∧R (.slice a n c) w'):
  Calls Tryz.prog 30 #[.pointer (some ⟨ph,0,none⟩)] w fun e w'=>∃ v,e=.returned v∧R v w':=by
 have H1:=hide HI
 clear HI
 go_enter Tryz.func30,Tryz.ntmps30
 go_wp2_with fail
 refine (unhide H1).mono ?_
 clear H1
 rintro e w1 ⟨a,n,c,rfl,hR⟩
 go_wp2
 go_ret
 exact ⟨_,rfl,hR⟩
theorem hnew_bad {w:World}{n:Int} (h:n<128∨1048576<n):
  Calls Tryz.prog 15 #[.int .i64 n] w fun e w'=>e=.returned (.tuple #[.pointer none,.int .i64 30])∧w'=w:=by
 by_cases h1:n<128
 ·have d1:decide (n<128)=true:=decide_eq_true h1
  go_enter Tryz.func15,Tryz.ntmps15
  go_wp2
  go_ret2
  exact ⟨rfl,rfl⟩
 ·have d1:decide (n<128)=false:=decide_eq_false h1
  have d2:decide (1048576<n)=true:=decide_eq_true (by omega)
  go_enter Tryz.func15,Tryz.ntmps15
  go_wp2
  go_ret2
  exact ⟨rfl,rfl⟩
theorem hnew_walk {w:World}{n:Nat} (h1:128≤n) (h2:n≤1048576) {G1:(Nat × Nat × Nat)→World→Prop}{G2:(Nat × Nat × Nat)→(Nat × Nat × Nat)→World→Prop}
  (HN:Calls Tryz.prog 40 #[.int .i64 64] w fun e w'=>∃ a:Nat × Nat × Nat,e=.returned (.pointer (some ⟨a.1,0,none⟩))∧G1 a w')
  (HN2:∀ a W,G1 a W→Calls Tryz.prog 40 #[.int .i64 64] W fun e w'=>∃ s:Nat × Nat × Nat,e=.returned (.pointer (some ⟨s.1,0,none⟩))∧G2 a s w'):
  Calls Tryz.prog 15 #[.int .i64 (n:Nat)] w fun e w'=>∃ (a s:Nat × Nat × Nat) (w2:World),G2 a s w2∧w'=w2.alloc (.cells #[.int .i64 (n:Nat),.pointer (some ⟨a.1,0,none⟩),.pointer (some ⟨s.1,0,none⟩),.slice none 0 0,.slice none 0 0,.int .i64 0,.slice none 0 0,.slice none 0 0,.int .i64 0,.int .i64 0,.int .i64 0,.int .i64 0,.int .i64 0,.int .i64 0] 118)∧e=.returned (.tuple #[.pointer (some ⟨w2.heap.size,0,none⟩),.int .i64 0]):=by
 have H1:=hide HN
 have H2:=hide HN2
 have d1:decide ((n:Int)<128)=false:=decide_eq_false (by omega)
 have d2:decide ((1048576:Int)<(n:Nat))=false:=decide_eq_false (by omega)
 clear HN HN2
 go_enter Tryz.func15,Tryz.ntmps15
 go_wp2_with fail
 refine (unhide H1).mono ?_
 clear H1
 rintro e w1 ⟨a,rfl,hg1⟩
 have H2':=hide (unhide H2 a w1 hg1)
 clear H2 hg1
 go_wp2_with fail
 refine (unhide H2').mono ?_
 clear H2'
 rintro e w2 ⟨s,rfl,hg2⟩
 go_wp2
 go_ret2
 exact ⟨a,s,w2,hg2,rfl,rfl⟩
theorem und47:∃ fs,Tryz.prog.underlying 125=some (.struct fs):=⟨_,by rfl⟩
theorem inf47:(Tryz.prog.info? 125).map (·.size)=some 9:=by rfl
theorem stat_res {w:World}{lim half used lg cb ch co rs mv:Int} (tmps:Array Value) (ht:tmps.getD 2 undef=.pointer (some ⟨w.heap.size,0,none⟩)):
  (results Tryz.f51 tmps).run Tryz.prog (w.alloc (.cells #[.int .i64 lim,.int .i64 half,.int .i64 used,.int .i64 lg,.int .i64 cb,.int .i64 ch,.int .i64 co,.int .i64 rs,.int .i64 mv] 125)).drew=.ok (.agg #[.int .i64 lim,.int .i64 half,.int .i64 used,.int .i64 lg,.int .i64 cb,.int .i64 ch,.int .i64 co,.int .i64 rs,.int .i64 mv]) (w.alloc (.cells #[.int .i64 lim,.int .i64 half,.int .i64 used,.int .i64 lg,.int .i64 cb,.int .i64 ch,.int .i64 co,.int .i64 rs,.int .i64 mv] 125)).drew:=by
 obtain ⟨fs,h1⟩:=und47
 exact results_cell_row (p:=2) (ty:=125) rfl tmps _ w.heap.size 125 _ (0,0) (.struct fs) ht (heap_alloc_new _ _) h1 rfl inf47
theorem below_ad (w:World) (o:Obj):Below w.heap.size w (w.alloc o).drew:=
 ((Below.refl _ _).alloc (Nat.le_refl _) o).trans ((Still.below (w:=w.alloc o) (w':=(w.alloc o).drew) ⟨rfl,rfl,rfl,rfl⟩).mono (by show w.heap.size≤(w.alloc o).heap.size;simp))
theorem hstats_walk {w:World}{ph pa lim half used lg cb ch co rs mv:Nat} (e0:w.cell? ⟨ph,0,none⟩=some (.int .i64 (lim:Nat))) (e1:w.cell? ⟨ph,1,none⟩=some (.pointer (some ⟨pa,0,none⟩)))
  (e9:w.cell? ⟨ph,9,none⟩=some (.int .i64 (lg:Nat))) (e5:w.cell? ⟨ph,5,none⟩=some (.int .i64 (cb:Nat))) (e8:w.cell? ⟨ph,8,none⟩=some (.int .i64 (ch:Nat)))
  (e11:w.cell? ⟨ph,11,none⟩=some (.int .i64 (mv:Nat))) (e12:w.cell? ⟨ph,12,none⟩=some (.int .i64 (co:Nat))) (e13:w.cell? ⟨ph,13,none⟩=some (.int .i64 (rs:Nat)))
  (HU:∀ W,Below w.heap.size w W→Calls Tryz.prog 95 #[.pointer (some ⟨pa,0,none⟩)] W fun e w'=>e=.returned (.int .i64 (used:Nat))∧w'=W)
  (HS:∀ W,Below w.heap.size w W→Calls Tryz.prog 96 #[.pointer (some ⟨pa,0,none⟩)] W fun e w'=>e=.returned (.int .i64 (half:Nat))∧w'=W):
  Calls Tryz.prog 51 #[.pointer (some ⟨ph,0,none⟩)] w fun e w'=>e=.returned (.agg #[.int .i64 (lim:Nat),.int .i64 (half:Nat),.int .i64 (used:Nat),.int .i64 (lg:Nat),.int .i64 (cb:Nat),.int .i64 (ch:Nat),.int .i64 (co:Nat),.int .i64 (rs:Nat),.int .i64 (mv:Nat)])∧Below w.heap.size w w':=by
 have H1:=hide HU
 have H2:=hide HS
 clear HU HS
 go_enter Tryz.func51,Tryz.ntmps51
 go_wp2
 go_region_held3 (fun w'=>w'.cell? ⟨ph,0,none⟩=some (.int .i64 (lim:Nat))∧w'.cell? ⟨ph,1,none⟩=some (.pointer (some ⟨pa,0,none⟩))∧w'.cell? ⟨ph,9,none⟩=some (.int .i64 (lg:Nat))∧w'.cell? ⟨ph,5,none⟩=some (.int .i64 (cb:Nat))∧w'.cell? ⟨ph,8,none⟩=some (.int .i64 (ch:Nat))∧w'.cell? ⟨ph,11,none⟩=some (.int .i64 (mv:Nat))∧w'.cell? ⟨ph,12,none⟩=some (.int .i64 (co:Nat))∧w'.cell? ⟨ph,13,none⟩=some (.int .i64 (rs:Nat))) (go_keep) (first|(go_at_call 96;refine (unhide H2 _ (below_ad w _)).mono ?_;rintro e w5 ⟨rfl,rfl⟩)|(go_at_call 95;refine (unhide H1 _ (below_ad w _)).mono ?_;rintro e w6 ⟨rfl,rfl⟩))
 all_goals go_wp2
 all_goals exact bodyPost_ret (stat_res _ rfl) rfl ⟨rfl,below_ad w _⟩
set_option linter.unusedSimpArgs false
set_option maxHeartbeats 4000000
structure OpW where
 on:Int
 dd:Int
 A:Int
 B:Int
 C:Int
 r:Int
 v:Int
 raw:Nat
 wv:Nat
 a:Option Addr
 d:Nat
 c:Nat
structure OpC (w:World) (b o:Nat) (q:OpW):Prop where
 m0:w.cell? ⟨b,o,none⟩=some (.int .i64 q.on)
 m1:w.cell? ⟨b,o+1,none⟩=some (.int .i64 q.dd)
 m2:w.cell? ⟨b,o+2,none⟩=some (.int .i64 q.A)
 m3:w.cell? ⟨b,o+3,none⟩=some (.int .i64 q.B)
 m4:w.cell? ⟨b,o+4,none⟩=some (.int .i64 q.C)
 m5:w.cell? ⟨b,o+5,none⟩=some (.int .i64 q.r)
 m6:w.cell? ⟨b,o+6,none⟩=some (.int .i64 q.v)
 m7:w.cell? ⟨b,o+7,none⟩=some (.int .u64 (q.raw:Nat))
 m8:w.cell? ⟨b,o+8,none⟩=some (.int .u64 (q.wv:Nat))
 m9:w.cell? ⟨b,o+9,none⟩=some (.slice q.a q.d q.c)
def opB (q:OpW):Array Value:=#[.int .i64 q.on,.int .i64 q.dd,.int .i64 q.A,.int .i64 q.B,.int .i64 q.C,.int .i64 q.r,.int .i64 q.v,.int .u64 (q.raw:Nat),.int .u64 (q.wv:Nat),.slice q.a q.d q.c]
theorem Tryz.info34x:(Tryz.prog.info? 34).map (fun i=>(i.zero,i.size,i.bytes))=some (some (.pointer none),1,8):=by kernel_rfl
theorem two_b (w:World) (x y z:Obj):Below (w.heap.size+1) (w.alloc x) (((w.alloc x).alloc y).alloc z):=((Below.refl _ _).alloc (by simp) _).alloc (by simp) _
theorem holds_walk {w:World} (l0 l1 lo hi:Int) (a:Option Addr) (n cap:Nat) {P1:World→Prop}{I:Nat→Nat→Value→World→Prop}{E:Nat→Value→World→Prop}{J:Nat→Nat→Nat→OpW→Value→World→Prop}{K L:Nat→Nat→Nat→OpW→Value→Nat→World→Prop}{R:World→Prop}
  (HA:Calls Tryz.prog 14 #[.pointer (some ⟨w.heap.size+1,0,none⟩),.int .i64 l0] (((w.alloc (.cells #[.int .i64 l0,.int .i64 l1,.slice a n cap] 25)).alloc (.cells #[.pointer none,.pointer none,.slice none 0 0] 38)).alloc (.cells #[.pointer none,.pointer none,.slice none 0 0] 38)) fun e w'=>e=.returned (.bool true)∧w'.cell? ⟨w.heap.size,1,none⟩=some (.int .i64 l1)∧P1 w')
  (HB:∀ W,P1 W→Calls Tryz.prog 14 #[.pointer (some ⟨w.heap.size+1+1,0,none⟩),.int .i64 l1] W fun e w'=>e=.returned (.bool true)∧I 0 0 (.slice none 0 0) w')
  (HS:∀ i m v W,I i m v W→W.cell? ⟨w.heap.size,2,none⟩=some (.slice a n cap))
  (HO:∀ i m v W,I i m v W→i<n→i<65536→∃ bb off q,a=some ⟨bb,off,none⟩∧OpC W bb (off+i*10) q∧J i m W.heap.size q v (W.alloc (.cells (opB q) 44)))
  (HJ:∀ i m b q v W,J i m b q v W→OpC W b 0 q)
  (HN:∀ i m b q v W,J i m b q v W→m<1000→Calls Tryz.prog 15 #[.int .i64 128] W fun e w'=>∃ ph,e=.returned (.tuple #[.pointer (some ⟨ph,0,none⟩),.int .i64 0])∧K i m b q v ph w')
  (HL:∀ i m b q v ph W,K i m b q v ph W→Calls Tryz.prog 16 #[.pointer (some ⟨ph,0,none⟩),.int .i64 (1+(m%200:Nat)),.int .i64 0,.int .i64 1] W fun e w'=>∃ y x,e=.returned (.tuple #[y,x])∧L i m b q v ph w')
  (HP:∀ i m b q v ph W,L i m b q v ph W→∃ f,Line (W.alloc (.cells #[.pointer (some ⟨ph,0,none⟩)] 34)) 34 v m f∧∀ v' w',Line w' 34 v' (m+1) (fun j=>if j<m then f j else .pointer (some ⟨ph,0,none⟩))→Grew 34 m (.pointer (some ⟨ph,0,none⟩)) (W.alloc (.cells #[.pointer (some ⟨ph,0,none⟩)] 34)) w' v v'→J i (m+1) b q v' w')
  (HC1:∀ i m b q v W,J i m b q v W→(W.cell? ⟨w.heap.size+1,0,none⟩=some (.pointer none)∧I (i+1) m v W)∨∃ ph,W.cell? ⟨w.heap.size+1,0,none⟩=some (.pointer (some ⟨ph,0,none⟩))∧Calls Tryz.prog 17 #[.pointer (some ⟨w.heap.size+1,0,none⟩),.agg (opB q)] W fun e w'=>e=.returned (.bool true)∧I (i+1) m v w')
  (HC2:∀ i m b q v W,J i m b q v W→(W.cell? ⟨w.heap.size+1+1,0,none⟩=some (.pointer none)∧I (i+1) m v W)∨∃ ph,W.cell? ⟨w.heap.size+1+1,0,none⟩=some (.pointer (some ⟨ph,0,none⟩))∧Calls Tryz.prog 17 #[.pointer (some ⟨w.heap.size+1+1,0,none⟩),.agg (opB q)] W fun e w'=>e=.returned (.bool true)∧I (i+1) m v w')
  (HE:∀ i m v W,I i m v W→E m v W)
  (HF:∀ m v W j,E m v W→j<m→∃ g c9 ph,v=.slice (some ⟨g,0,none⟩) m c9∧W.cell? ⟨g,j,none⟩=some (.pointer (some ⟨ph,0,none⟩))∧Calls Tryz.prog 18 #[.pointer (some ⟨ph,0,none⟩),.int .u64 1] W fun e w'=>e=.returned (.tuple #[.int .i64 (1+(j%200:Nat)),.int .i64 0,.int .i64 1,.int .i64 0])∧E m v w')
  (HR:∀ m v W,E m v W→R W)
  : Calls Tryz.prog 9 #[.agg #[.int .i64 l0,.int .i64 l1,.slice a n cap],.int .i64 lo,.int .i64 hi] w fun e w'=>e=.returned (.bool true)∧R w':=by
 have y0:(((w.alloc (.cells #[.int .i64 l0,.int .i64 l1,.slice a n cap] 25)).alloc (.cells #[.pointer none,.pointer none,.slice none 0 0] 38)).alloc (.cells #[.pointer none,.pointer none,.slice none 0 0] 38)).cell? ⟨w.heap.size,0,none⟩=some (.int .i64 l0):=by
  rw[(two_b w _ _ _).cell (p:=⟨w.heap.size,0,none⟩) (Nat.lt_succ_self _)]
  exact World.cell?_alloc_at _ _ _ _ rfl
 obtain ⟨t0,hti,hy0,hy1,hy2⟩:=info_parts Tryz.info34x
 have A1:=hide HA
 have A2:=hide HB
 have A3:=hide HS
 have A4:=hide HO
 have A5:=hide HJ
 have A6:=hide HN
 have A7:=hide HL
 have A8:=hide HP
 have A9:=hide HC1
 have A10:=hide HC2
 have A11:=hide HE
 have A12:=hide HF
 have A13:=hide HR
 clear HA HB HS HO HJ HN HL HP HC1 HC2 HE HF HR
 go_enter Tryz.func9,Tryz.ntmps9
 go_wp2_with fail
 refine (unhide A1).mono ?_
 rintro e w1 ⟨rfl,y1,p1⟩
 have B2:=hide (unhide A2 _ p1)
 clear A1 A2 p1 y0
 go_wp2_with fail
 refine (unhide B2).mono ?_
 rintro e w2 ⟨rfl,i0⟩
 have HI0:=hide i0
 clear i0 B2 y1
 go_wp2_with fail
 go_loopw [9,10] (fun ov iv wr=>∃ i m a9 c9,ov=.slice a9 m c9∧iv=.int .i64 (i:Nat)∧i≤n∧i≤65536∧m≤1000∧Hid (I i m (.slice a9 m c9) wr)) (fun _ iv _=>65536-(intOf iv).toNat)
 case atStart=>exact ⟨0,0,none,0,rfl,rfl,Nat.zero_le _,Nat.zero_le _,Nat.zero_le _,HI0⟩
 case round=>
  obtain ⟨i,m,a9,c9,rfl,rfl,hin,hi6,hm,hI⟩:=hrel
  have y2:=unhide A3 _ _ _ _ (unhide hI)
  have w1':IntKind.i64.wrap ((i:Int)+1)=(i:Int)+1:=wrap_small _ (by omega) (by omega)
  by_cases hlt:i<n∧i<65536
  ·obtain ⟨bb,off,q,rfl,hop,hJ⟩:=unhide A4 _ _ _ _ (unhide hI) hlt.1 hlt.2
   obtain ⟨m0,m1,m2,m3,m4,m5,m6,m7,m8,m9⟩:=hop
   obtain ⟨on,dd,A,B,C,r,v,raw,wv,da,dl,dc⟩:=q
   dsimp only at m0 m1 m2 m3 m4 m5 m6 m7 m8 m9
   unfold opB at hJ A9 A10
   dsimp only at hJ
   have HJ:=hide hJ
   clear hJ
   have d1:decide ((i:Int)<(n:Nat))=true:=decide_eq_true (by omega)
   have d2:decide ((i:Int)<65536)=true:=decide_eq_true (by omega)
   have i1:(0:Int)≤(i:Nat):=by omega
   have i2:(i:Int)<(n:Nat):=by omega
   have HLT:=hide (⟨hlt,hin,hi6,hm⟩:(i<n∧i<65536)∧i≤n∧i≤65536∧m≤1000)
   clear hlt hin hi6 hm hI A3 A4
   generalize hwr:wr.heap.size=b at *
   go_upto_region 10 with fail
   (try rw[hwr])
   generalize hW1:World.alloc wr _=W1 at *
   clear hW1 m0 m1 m2 m3 m4 m5 m6 m7 m8 m9 y2
   by_cases h8:i%8=7
   ·have r1:((i:Int)%8)=7:=by omega
    have r2:((i:Int).tmod 8)=7:=by rw[Int.tmod_eq_emod_of_nonneg (by omega)];omega
    clear h8
    by_cases hmm:m<1000
    ·have d3:decide ((m:Int)<1000)=true:=decide_eq_true (by omega)
     have H24:=hide (unhide A6 _ _ _ _ _ _ (unhide HJ) hmm)
     have HMM:=hide hmm
     clear hmm HJ
     go_wp2_with fail
     refine (unhide H24).mono ?_
     rintro e w3 ⟨ph,rfl,k3⟩
     have H25:=hide (unhide A7 _ _ _ _ _ _ _ k3)
     obtain ⟨kk,hkk⟩:∃ kk,m%200=kk:=⟨_,rfl⟩
     rw[hkk] at H25
     have hk2:kk<200:=by rw[← hkk];exact Nat.mod_lt _ (by decide)
     have t1:((m:Int).tmod 200)=(kk:Int):=by rw[← hkk,Int.tmod_eq_emod_of_nonneg (by omega)];simp
     have t2:((m:Int)%200)=(kk:Int):=by rw[← hkk];simp
     have t3:IntKind.i64.wrap (kk:Int)=(kk:Int):=wrap_small _ (by omega) (by omega)
     have t4:IntKind.i64.wrap (1+(kk:Int))=1+(kk:Int):=wrap_small _ (by omega) (by omega)
     clear k3 H24 hkk hk2
     go_wp2_with fail
     refine (unhide H25).mono ?_
     rintro e w4 ⟨y,x,rfl,k4⟩
     obtain ⟨f9,ln9,fin9⟩:=unhide A8 _ _ _ _ _ _ _ k4
     have HL9:=hide ln9
     have HF9:=hide fin9
     have HC9:Hid ((w4.alloc (.cells #[.pointer (some ⟨ph,0,none⟩)] 34)).cell? ⟨w4.heap.size,0,none⟩=some (.pointer (some ⟨ph,0,none⟩))):=hide (cell_made rfl _ _)
     clear k4 ln9 fin9 H25 t1 t2 t3 t4
     go_wp2_with (refine append_line rfl (.tmp 79) (.tmp 81) 40 rfl 34 t0 (.pointer none) 8 Tryz.underlying40 hti hy0 hy1 hy2 rfl (.slice a9 m c9) m _ (by simp [Act.eval]) (unhide HL9) w4.heap.size (by simp [Act.eval]) (.pointer (some ⟨ph,0,none⟩)) (unhide HC9) rfl (by have:=unhide HMM;omega) (by have:=unhide HMM;omega) ?_)
     intro v9 w9 hl9 hg9
     have HJ:=hide (unhide HF9 _ _ hl9 hg9)
     obtain ⟨a8,c8,rfl⟩:=hl9.shape
     have HM:=hide (show m+1≤1000 from unhide HMM)
     clear hl9 hg9 HL9 HF9 HC9 HMM
     generalize hm1:m+1=m' at *
     clear hm1
     obtain ⟨m0,m1,m2,m3,m4,m5,m6,m7,m8,m9⟩:=unhide A5 _ _ _ _ _ _ (unhide HJ)
     simp only[Nat.zero_add] at m0 m1 m2 m3 m4 m5 m6 m7 m8 m9
     obtain ⟨bx,hbx⟩:∃ bx,bits BinOp.and IntKind.i64 on 1=bx:=⟨_,rfl⟩
     by_cases hb1:bx=1
     ·subst hb1
      rcases unhide A10 _ _ _ _ _ _ (unhide HJ) with ⟨y5,hI5⟩|⟨ph5,y5,hc5⟩
      ·have HI5:=hide hI5
       clear hI5 HJ
       go_wp2_with fail
       all_goals go_roundw
       all_goals first|exact ⟨i+1,m',a8,c8,rfl,by simp,by have:=unhide HLT;omega,by have:=unhide HLT;omega,unhide HM,HI5⟩|(have:=unhide HLT;simp [intOf];omega)
      ·have H48:=hide hc5
       clear hc5 HJ
       go_wp2_with fail
       refine (unhide H48).mono ?_
       rintro e w5 ⟨rfl,hI5⟩
       have HI5:=hide hI5
       clear hI5 H48 y5 m0 m1 m2 m3 m4 m5 m6 m7 m8 m9
       go_wp2_with fail
       all_goals go_roundw
       all_goals first|exact ⟨i+1,m',a8,c8,rfl,by simp,by have:=unhide HLT;omega,by have:=unhide HLT;omega,unhide HM,HI5⟩|(have:=unhide HLT;simp [intOf];omega)
     ·have hb2:(bx == 1)=false:=by simp [hb1]
      have hb3:(bx=1)=False:=by simp [hb1]
      clear hb1
      rcases unhide A9 _ _ _ _ _ _ (unhide HJ) with ⟨y5,hI5⟩|⟨ph5,y5,hc5⟩
      ·have HI5:=hide hI5
       clear hI5 HJ
       go_wp2_with fail
       all_goals go_roundw
       all_goals first|exact ⟨i+1,m',a8,c8,rfl,by simp,by have:=unhide HLT;omega,by have:=unhide HLT;omega,unhide HM,HI5⟩|(have:=unhide HLT;simp [intOf];omega)
      ·have H48:=hide hc5
       clear hc5 HJ
       go_wp2_with fail
       refine (unhide H48).mono ?_
       rintro e w5 ⟨rfl,hI5⟩
       have HI5:=hide hI5
       clear hI5 H48 y5 m0 m1 m2 m3 m4 m5 m6 m7 m8 m9
       go_wp2_with fail
       all_goals go_roundw
       all_goals first|exact ⟨i+1,m',a8,c8,rfl,by simp,by have:=unhide HLT;omega,by have:=unhide HLT;omega,unhide HM,HI5⟩|(have:=unhide HLT;simp [intOf];omega)
    ·have d3:decide ((m:Int)<1000)=false:=decide_eq_false (by omega)
     have HM:=hide (unhide HLT).2.2.2
     clear hmm
     obtain ⟨m0,m1,m2,m3,m4,m5,m6,m7,m8,m9⟩:=unhide A5 _ _ _ _ _ _ (unhide HJ)
     simp only[Nat.zero_add] at m0 m1 m2 m3 m4 m5 m6 m7 m8 m9
     obtain ⟨bx,hbx⟩:∃ bx,bits BinOp.and IntKind.i64 on 1=bx:=⟨_,rfl⟩
     by_cases hb1:bx=1
     ·subst hb1
      rcases unhide A10 _ _ _ _ _ _ (unhide HJ) with ⟨y5,hI5⟩|⟨ph5,y5,hc5⟩
      ·have HI5:=hide hI5
       clear hI5 HJ
       go_wp2_with fail
       all_goals go_roundw
       all_goals first|exact ⟨i+1,m,a9,c9,rfl,by simp,by have:=unhide HLT;omega,by have:=unhide HLT;omega,unhide HM,HI5⟩|(have:=unhide HLT;simp [intOf];omega)
      ·have H48:=hide hc5
       clear hc5 HJ
       go_wp2_with fail
       refine (unhide H48).mono ?_
       rintro e w5 ⟨rfl,hI5⟩
       have HI5:=hide hI5
       clear hI5 H48 y5 m0 m1 m2 m3 m4 m5 m6 m7 m8 m9
       go_wp2_with fail
       all_goals go_roundw
       all_goals first|exact ⟨i+1,m,a9,c9,rfl,by simp,by have:=unhide HLT;omega,by have:=unhide HLT;omega,unhide HM,HI5⟩|(have:=unhide HLT;simp [intOf];omega)
     ·have hb2:(bx == 1)=false:=by simp [hb1]
      have hb3:(bx=1)=False:=by simp [hb1]
      clear hb1
      rcases unhide A9 _ _ _ _ _ _ (unhide HJ) with ⟨y5,hI5⟩|⟨ph5,y5,hc5⟩
      ·have HI5:=hide hI5
       clear hI5 HJ
       go_wp2_with fail
       all_goals go_roundw
       all_goals first|exact ⟨i+1,m,a9,c9,rfl,by simp,by have:=unhide HLT;omega,by have:=unhide HLT;omega,unhide HM,HI5⟩|(have:=unhide HLT;simp [intOf];omega)
      ·have H48:=hide hc5
       clear hc5 HJ
       go_wp2_with fail
       refine (unhide H48).mono ?_
       rintro e w5 ⟨rfl,hI5⟩
       have HI5:=hide hI5
       clear hI5 H48 y5 m0 m1 m2 m3 m4 m5 m6 m7 m8 m9
       go_wp2_with fail
       all_goals go_roundw
       all_goals first|exact ⟨i+1,m,a9,c9,rfl,by simp,by have:=unhide HLT;omega,by have:=unhide HLT;omega,unhide HM,HI5⟩|(have:=unhide HLT;simp [intOf];omega)
   ·have r0:((i%8:Nat):Int)≠7:=by omega
    obtain ⟨rr,hrr⟩:∃ rr,i%8=rr:=⟨_,rfl⟩
    have r1:((i:Int)%8)=(rr:Int):=by omega
    have r2:((i:Int).tmod 8)=(rr:Int):=by rw[Int.tmod_eq_emod_of_nonneg (by omega)];omega
    have r3:((rr:Int) == 7)=false:=by simp;omega
    have r4:((rr:Int)=7)=False:=by simp;omega
    have HM:=hide (unhide HLT).2.2.2
    clear h8 r0 hrr
    obtain ⟨m0,m1,m2,m3,m4,m5,m6,m7,m8,m9⟩:=unhide A5 _ _ _ _ _ _ (unhide HJ)
    simp only[Nat.zero_add] at m0 m1 m2 m3 m4 m5 m6 m7 m8 m9
    obtain ⟨bx,hbx⟩:∃ bx,bits BinOp.and IntKind.i64 on 1=bx:=⟨_,rfl⟩
    by_cases hb1:bx=1
    ·subst hb1
     rcases unhide A10 _ _ _ _ _ _ (unhide HJ) with ⟨y5,hI5⟩|⟨ph5,y5,hc5⟩
     ·have HI5:=hide hI5
      clear hI5 HJ
      go_wp2_with fail
      all_goals go_roundw
      all_goals first|exact ⟨i+1,m,a9,c9,rfl,by simp,by have:=unhide HLT;omega,by have:=unhide HLT;omega,unhide HM,HI5⟩|(have:=unhide HLT;simp [intOf];omega)
     ·have H48:=hide hc5
      clear hc5 HJ
      go_wp2_with fail
      refine (unhide H48).mono ?_
      rintro e w5 ⟨rfl,hI5⟩
      have HI5:=hide hI5
      clear hI5 H48 y5 m0 m1 m2 m3 m4 m5 m6 m7 m8 m9
      go_wp2_with fail
      all_goals go_roundw
      all_goals first|exact ⟨i+1,m,a9,c9,rfl,by simp,by have:=unhide HLT;omega,by have:=unhide HLT;omega,unhide HM,HI5⟩|(have:=unhide HLT;simp [intOf];omega)
    ·have hb2:(bx == 1)=false:=by simp [hb1]
     have hb3:(bx=1)=False:=by simp [hb1]
     clear hb1
     rcases unhide A9 _ _ _ _ _ _ (unhide HJ) with ⟨y5,hI5⟩|⟨ph5,y5,hc5⟩
     ·have HI5:=hide hI5
      clear hI5 HJ
      go_wp2_with fail
      all_goals go_roundw
      all_goals first|exact ⟨i+1,m,a9,c9,rfl,by simp,by have:=unhide HLT;omega,by have:=unhide HLT;omega,unhide HM,HI5⟩|(have:=unhide HLT;simp [intOf];omega)
     ·have H48:=hide hc5
      clear hc5 HJ
      go_wp2_with fail
      refine (unhide H48).mono ?_
      rintro e w5 ⟨rfl,hI5⟩
      have HI5:=hide hI5
      clear hI5 H48 y5 m0 m1 m2 m3 m4 m5 m6 m7 m8 m9
      go_wp2_with fail
      all_goals go_roundw
      all_goals first|exact ⟨i+1,m,a9,c9,rfl,by simp,by have:=unhide HLT;omega,by have:=unhide HLT;omega,unhide HM,HI5⟩|(have:=unhide HLT;simp [intOf];omega)
  ·have HE:=hide (unhide A11 _ _ _ _ (unhide hI))
   have hcs:(i<n)=False∨((i<n)=True∧(i<65536)=False):=by
    by_cases q:i<n
    ·exact .inr ⟨eq_true q,eq_false (by omega)⟩
    ·exact .inl (eq_false q)
   have HM:=hide hm
   clear hlt hin hi6 hI hm A3 A4 A5 A6 A7 A8 A9 A10 A11 w1'
   rcases hcs with q1|⟨q1,q2⟩
   all_goals
    have d1:decide ((i:Int)<(n:Nat))=decide (i<n):=by simp
    have d2:decide ((i:Int)<65536)=decide (i<65536):=decide_eq_decide.2 (by omega)
    have d3:decide (i<n)=decide (i<n):=rfl
    first
     | (have e1:decide (i<n)=false:=by simp only[q1];rfl)
     | (have e1:decide (i<n)=true:=by simp only[q1];rfl)
    try rw[e1] at d1
    first
     | (have e2:decide (i<65536)=false:=by simp only[q2];rfl)
     | (have e2:True:=trivial)
    try rw[e2] at d2
    clear d3
    go_wp2_with fail
    clear d1 d2 e1 e2 q1
    clear y2
    go_loopw [16] (fun jv wr=>∃ j:Nat,jv=.int .i64 (j:Nat)∧j≤m∧Hid (E m (.slice a9 m c9) wr)) (fun jv _=>m-(intOf jv).toNat)
    case atStart=>exact ⟨0,rfl,Nat.zero_le _,HE⟩
    case round=>
     obtain ⟨j,rfl,hj,hEj⟩:=hrel
     have w2':IntKind.i64.wrap ((j:Int)+1)=(j:Int)+1:=wrap_small _ (by omega) (by have:=unhide HM;omega)
     by_cases hjm:j<m
     ·obtain ⟨g,c8,ph,ev,ec,hc⟩:=unhide A12 _ _ _ _ (unhide hEj) hjm
      cases ev
      have H45:=hide hc
      obtain ⟨kk,hkk⟩:∃ kk,j%200=kk:=⟨_,rfl⟩
      rw[hkk] at H45
      have hk2:kk<200:=by rw[← hkk];exact Nat.mod_lt _ (by decide)
      have t1:((j:Int).tmod 200)=(kk:Int):=by rw[← hkk,Int.tmod_eq_emod_of_nonneg (by omega)];simp
      have t2:((j:Int)%200)=(kk:Int):=by rw[← hkk];simp
      have t3:IntKind.i64.wrap (kk:Int)=(kk:Int):=wrap_small _ (by omega) (by omega)
      have t4:IntKind.i64.wrap (1+(kk:Int))=1+(kk:Int):=wrap_small _ (by omega) (by omega)
      have t5:((1+(kk:Int)) != (1+(kk:Int)))=false:=by simp
      have dj:decide ((j:Int)<(m:Nat))=true:=decide_eq_true (by omega)
      have j1:(0:Int)≤(j:Nat):=by omega
      have j2:(j:Int)<(m:Nat):=by omega
      clear hc hkk hk2
      go_wp2_with fail
      refine (unhide H45).mono ?_
      rintro e w6 ⟨rfl,hE6⟩
      have HE6:=hide hE6
      clear hE6 H45 ec
      go_wp2_with fail
      all_goals go_roundw
      all_goals first|exact ⟨j+1,by simp,by omega,HE6⟩|(simp [intOf];omega)
     ·have hjN:j=m:=by omega
      subst hjN
      have dj:decide ((j:Int)<(j:Nat))=false:=decide_eq_false (by omega)
      go_wp2_with fail
      go_ret
      exact ⟨rfl,unhide A13 _ _ _ (unhide hEj)⟩
end Go.Proofs.YtidfllgaeiopjabGreat
