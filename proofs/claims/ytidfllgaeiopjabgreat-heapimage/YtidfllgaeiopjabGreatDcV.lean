import Derived.Test.YtidfllgaeiopjabGreatSdL
import Derived.Test.YtidfllgaeiopjabGreatDcT
import Derived.Test.YtidfllgaeiopjabGreatRootM
namespace Go.Proofs.YtidfllgaeiopjabGreat
open Go.ChangeShapes Go.WideShapes Go.ChangeAt Go.RowKit
set_option linter.unusedVariables false
set_option linter.unusedSimpArgs false
set_option maxRecDepth 100000
set_option maxHeartbeats 1000000
theorem handles_root {w:World}{ps ph pd ref:Nat} (on A B Cc r v:Int) (raw wv:Nat) (dv:Value) (c0:w.cell? ⟨ps,0,none⟩=some (.pointer (some ⟨ph,0,none⟩))) (c1:w.cell? ⟨ps,1,none⟩=some (.pointer (some ⟨pd,0,none⟩))) {G1 G2:Int→Int→World→Prop}{R:World→Prop}
  (H109:∀ W,Still (w.alloc (.cells (opC on 7 A B Cc r v raw wv dv) 44)) W→Calls Tryz.prog 102 #[.pointer (some ⟨ps,0,none⟩),.int .i64 r,.int .u64 (raw:Nat)] W fun e w'=>e=.returned (.int .u64 (ref:Nat))∧Still W w')
  (HP:∀ W,Still (w.alloc (.cells (opC on 7 A B Cc r v raw wv dv) 44)) W→Calls Tryz.prog 20 #[.pointer (some ⟨ph,0,none⟩),.int .u64 (ref:Nat)] W fun e w'=>∃ y x:Int,e=.returned (.tuple #[.int .i64 y,.int .i64 x])∧w'.heap[ps]?=W.heap[ps]?∧w'.heap[w.heap.size]?=W.heap[w.heap.size]?∧G1 y x w')
  (HD:∀ W W' y x,G1 y x W→Still W W'→Calls Tryz.prog 109 #[.pointer (some ⟨pd,0,none⟩),.int .u64 (ref:Nat)] W' fun e w'=>e=.returned (.tuple #[.int .i64 y,.int .i64 x])∧w'.heap[ps]?=W'.heap[ps]?∧w'.heap[w.heap.size]?=W'.heap[w.heap.size]?∧G2 y x w')
  (HR:∀ W W' y x,G2 y x W→Still W W'→R W'):
  Calls Tryz.prog 47 #[.pointer (some ⟨ps,0,none⟩),.agg (opC on 7 A B Cc r v raw wv dv)] w fun e w'=>e=.returned (.bool true)∧R w':=by
 have L0:=LimbO.new c0 c1 on 7 A B Cc r v raw wv dv
 have A0:Hid (∀ W,Still (w.alloc (.cells (opC on 7 A B Cc r v raw wv dv) 44)) W→Calls Tryz.prog 102 #[.pointer (some ⟨ps,0,none⟩),.int .i64 r,.int .u64 (raw:Nat)] W fun e w'=>e=.returned (.int .u64 (ref:Nat))∧LimbO ps ph pd w.heap.size on 7 A B Cc r v raw wv dv w'∧Hid (Still (w.alloc (.cells (opC on 7 A B Cc r v raw wv dv) 44)) w')):=hide (fun W s=>(H109 W s).mono fun e w' ⟨q1,q2⟩=>⟨q1,L0.like (by rw[q2.heap,s.heap]) (by rw[q2.heap,s.heap]),hide (s.trans q2)⟩)
 have A1:Hid (∀ W,Still (w.alloc (.cells (opC on 7 A B Cc r v raw wv dv) 44)) W→Calls Tryz.prog 20 #[.pointer (some ⟨ph,0,none⟩),.int .u64 (ref:Nat)] W fun e w'=>∃ y x:Int,e=.returned (.tuple #[.int .i64 y,.int .i64 x])∧LimbO ps ph pd w.heap.size on 7 A B Cc r v raw wv dv w'∧Hid (G1 y x w')):=hide (fun W s=>(HP W s).mono fun e w' ⟨y,x,q1,q2,q3,q4⟩=>⟨y,x,q1,L0.like (by rw[q2,s.heap]) (by rw[q3,s.heap]),hide q4⟩)
 have A2:Hid (∀ W W' y x,LimbO ps ph pd w.heap.size on 7 A B Cc r v raw wv dv W→Hid (G1 y x W)→Still W W'→Calls Tryz.prog 109 #[.pointer (some ⟨pd,0,none⟩),.int .u64 (ref:Nat)] W' fun e w'=>e=.returned (.tuple #[.int .i64 y,.int .i64 x])∧LimbO ps ph pd w.heap.size on 7 A B Cc r v raw wv dv w'∧Hid (G2 y x w')):=hide (fun W W' y x L g s=>(HD W W' y x (unhide g) s).mono fun e w' ⟨q1,q2,q3,q4⟩=>⟨q1,L.like (by rw[q2,s.heap]) (by rw[q3,s.heap]),hide q4⟩)
 have A3:=hide HR
 have HS0:=hide (Still.refl (w.alloc (.cells (opC on 7 A B Cc r v raw wv dv) 44)))
 obtain ⟨c0,c1,m0,m1,m2,m3,m4,m5,m6,m7,m8,m9⟩:=L0
 clear H109 HP HD HR
 unfold opC at *
 generalize hW:World.alloc w _=W0 at *
 generalize hB:w.heap.size=b at *
 go_enter Tryz.func47,Tryz.ntmps47
 go_wp2_with fail
 (try rw[hW]);(try rw[hB])
 go_wp2_with fail
 refine (unhide A0 _ (by first|exact unhide HS0|exact (unhide HS0).drew _)).mono ?_
 rintro e w1 ⟨rfl,⟨c0,c1,m0,m1,m2,m3,m4,m5,m6,m7,m8,m9⟩,HS1⟩
 go_wp2_with fail
 refine (unhide A1 _ (by first|exact unhide HS1|exact (unhide HS1).drew _)).mono ?_
 rintro e w2 ⟨y,x,rfl,⟨c0,c1,m0,m1,m2,m3,m4,m5,m6,m7,m8,m9⟩,g1⟩
 have HL2:Hid (LimbO ps ph pd b on 7 A B Cc r v raw wv dv w2):=hide ⟨c0,c1,m0,m1,m2,m3,m4,m5,m6,m7,m8,m9⟩
 go_wp2_with fail
 refine (unhide A2 _ _ y x (unhide HL2) g1 (by first|exact Still.refl _|exact (Still.refl _).drew _)).mono ?_
 rintro e w3 ⟨rfl,⟨c0,c1,m0,m1,m2,m3,m4,m5,m6,m7,m8,m9⟩,g2⟩
 go_wp2_with fail
 all_goals go_ret
 all_goals exact ⟨by simp,unhide A3 _ _ y x (unhide g2) (by first|exact Still.refl _|exact (Still.refl _).drew _)⟩
theorem handles_at {w:World}{ps ph pd ref:Nat} (on A B Cc r v:Int) (raw wv:Nat) (dv:Value) (c0:w.cell? ⟨ps,0,none⟩=some (.pointer (some ⟨ph,0,none⟩))) (c1:w.cell? ⟨ps,1,none⟩=some (.pointer (some ⟨pd,0,none⟩))) {G1 G2:Nat→Nat→World→Prop}{R:World→Prop}
  (H109:∀ W,Still (w.alloc (.cells (opC on 8 A B Cc r v raw wv dv) 44)) W→Calls Tryz.prog 102 #[.pointer (some ⟨ps,0,none⟩),.int .i64 r,.int .u64 (raw:Nat)] W fun e w'=>e=.returned (.int .u64 (ref:Nat))∧Still W w')
  (HP:∀ W,Still (w.alloc (.cells (opC on 8 A B Cc r v raw wv dv) 44)) W→Calls Tryz.prog 22 #[.pointer (some ⟨ph,0,none⟩),.int .i64 A] W fun e w'=>∃ y x:Nat,e=.returned (.tuple #[.int .u64 (y:Nat),.int .i64 (x:Nat)])∧w'.heap[ps]?=W.heap[ps]?∧w'.heap[w.heap.size]?=W.heap[w.heap.size]?∧G1 y x w')
  (HD:∀ W W' y x,G1 y x W→Still W W'→Calls Tryz.prog 110 #[.pointer (some ⟨pd,0,none⟩),.int .i64 A] W' fun e w'=>e=.returned (.tuple #[.int .u64 (y:Nat),.int .i64 (x:Nat)])∧w'.heap[ps]?=W'.heap[ps]?∧w'.heap[w.heap.size]?=W'.heap[w.heap.size]?∧G2 y x w')
  (H73:∀ W W' y x,G2 y x W→Still W W'→Calls Tryz.prog 45 #[.pointer (some ⟨ps,0,none⟩),.int .u64 (y:Nat)] W' fun e w'=>e=.returned (.tuple #[])∧R w'):
  Calls Tryz.prog 47 #[.pointer (some ⟨ps,0,none⟩),.agg (opC on 8 A B Cc r v raw wv dv)] w fun e w'=>e=.returned (.bool true)∧R w':=by
 have L0:=LimbO.new c0 c1 on 8 A B Cc r v raw wv dv
 have A0:Hid (∀ W,Still (w.alloc (.cells (opC on 8 A B Cc r v raw wv dv) 44)) W→Calls Tryz.prog 102 #[.pointer (some ⟨ps,0,none⟩),.int .i64 r,.int .u64 (raw:Nat)] W fun e w'=>e=.returned (.int .u64 (ref:Nat))∧LimbO ps ph pd w.heap.size on 8 A B Cc r v raw wv dv w'∧Hid (Still (w.alloc (.cells (opC on 8 A B Cc r v raw wv dv) 44)) w')):=hide (fun W s=>(H109 W s).mono fun e w' ⟨q1,q2⟩=>⟨q1,L0.like (by rw[q2.heap,s.heap]) (by rw[q2.heap,s.heap]),hide (s.trans q2)⟩)
 have A1:Hid (∀ W,Still (w.alloc (.cells (opC on 8 A B Cc r v raw wv dv) 44)) W→Calls Tryz.prog 22 #[.pointer (some ⟨ph,0,none⟩),.int .i64 A] W fun e w'=>∃ y x:Nat,e=.returned (.tuple #[.int .u64 (y:Nat),.int .i64 (x:Nat)])∧LimbO ps ph pd w.heap.size on 8 A B Cc r v raw wv dv w'∧Hid (G1 y x w')):=hide (fun W s=>(HP W s).mono fun e w' ⟨y,x,q1,q2,q3,q4⟩=>⟨y,x,q1,L0.like (by rw[q2,s.heap]) (by rw[q3,s.heap]),hide q4⟩)
 have A2:Hid (∀ W W' y x,LimbO ps ph pd w.heap.size on 8 A B Cc r v raw wv dv W→Hid (G1 y x W)→Still W W'→Calls Tryz.prog 110 #[.pointer (some ⟨pd,0,none⟩),.int .i64 A] W' fun e w'=>e=.returned (.tuple #[.int .u64 (y:Nat),.int .i64 (x:Nat)])∧LimbO ps ph pd w.heap.size on 8 A B Cc r v raw wv dv w'∧Hid (G2 y x w')):=hide (fun W W' y x L g s=>(HD W W' y x (unhide g) s).mono fun e w' ⟨q1,q2,q3,q4⟩=>⟨q1,L.like (by rw[q2,s.heap]) (by rw[q3,s.heap]),hide q4⟩)
 have A3:=hide H73
 have HS0:=hide (Still.refl (w.alloc (.cells (opC on 8 A B Cc r v raw wv dv) 44)))
 obtain ⟨c0,c1,m0,m1,m2,m3,m4,m5,m6,m7,m8,m9⟩:=L0
 clear H109 HP HD H73
 unfold opC at *
 generalize hW:World.alloc w _=W0 at *
 generalize hB:w.heap.size=b at *
 go_enter Tryz.func47,Tryz.ntmps47
 go_wp2_with fail
 (try rw[hW]);(try rw[hB])
 go_wp2_with fail
 refine (unhide A0 _ (by first|exact unhide HS0|exact (unhide HS0).drew _)).mono ?_
 rintro e w1 ⟨rfl,⟨c0,c1,m0,m1,m2,m3,m4,m5,m6,m7,m8,m9⟩,HS1⟩
 go_wp2_with fail
 go_region_held3 (fun W=>W.cell? ⟨ps,0,none⟩=some (.pointer (some ⟨ph,0,none⟩))∧W.cell? ⟨b,2,none⟩=some (.int .i64 A)) (go_keep) (first|(go_at_call 22;refine (unhide A1 _ (by first|exact unhide HS1|exact (unhide HS1).drew _)).mono ?_;rintro e w2 ⟨y,x,rfl,⟨c0,c1,m0,m1,m2,m3,m4,m5,m6,m7,m8,m9⟩,g1⟩))
 all_goals go_wp2_with fail
 have HL2:Hid (LimbO ps ph pd b on 8 A B Cc r v raw wv dv w2):=hide ⟨c0,c1,m0,m1,m2,m3,m4,m5,m6,m7,m8,m9⟩
 go_region_held3 (fun W=>W.cell? ⟨ps,1,none⟩=some (.pointer (some ⟨pd,0,none⟩))∧W.cell? ⟨b,2,none⟩=some (.int .i64 A)) (go_keep) (first|(go_at_call 110;refine (unhide A2 _ _ y x (unhide HL2) g1 (by first|exact Still.refl _|exact (Still.refl _).drew _)).mono ?_;rintro e w3 ⟨rfl,⟨c0,c1,m0,m1,m2,m3,m4,m5,m6,m7,m8,m9⟩,g2⟩))
 all_goals go_wp2_with fail
 all_goals refine (unhide A3 _ _ y x (unhide g2) (by first|exact Still.refl _|exact (Still.refl _).drew _)).mono ?_
 all_goals rintro e w4 ⟨rfl,hR⟩
 all_goals have HR4:=hide hR
 all_goals clear hR
 all_goals go_wp2_with fail
 all_goals go_ret
 all_goals exact ⟨by simp,unhide HR4⟩
theorem handles_put {w:World}{ps ph pd ref:Nat} (on A B Cc r v:Int) (raw wv:Nat) (dv:Value) (c0:w.cell? ⟨ps,0,none⟩=some (.pointer (some ⟨ph,0,none⟩))) (c1:w.cell? ⟨ps,1,none⟩=some (.pointer (some ⟨pd,0,none⟩))) {G1 G2:Int→World→Prop}{R:World→Prop}
  (H109:∀ W,Still (w.alloc (.cells (opC on 9 A B Cc r v raw wv dv) 44)) W→Calls Tryz.prog 102 #[.pointer (some ⟨ps,0,none⟩),.int .i64 r,.int .u64 (raw:Nat)] W fun e w'=>e=.returned (.int .u64 (ref:Nat))∧Still W w')
  (HP:∀ W,Still (w.alloc (.cells (opC on 9 A B Cc r v raw wv dv) 44)) W→Calls Tryz.prog 66 #[.pointer (some ⟨ph,0,none⟩),.int .i64 A,.int .u64 (ref:Nat)] W fun e w'=>∃ x:Int,e=.returned (.int .i64 x)∧w'.heap[ps]?=W.heap[ps]?∧w'.heap[w.heap.size]?=W.heap[w.heap.size]?∧G1 x w')
  (HD:∀ W W' x,G1 x W→Still W W'→Calls Tryz.prog 111 #[.pointer (some ⟨pd,0,none⟩),.int .i64 A,.int .u64 (ref:Nat)] W' fun e w'=>e=.returned (.int .i64 x)∧w'.heap[ps]?=W'.heap[ps]?∧w'.heap[w.heap.size]?=W'.heap[w.heap.size]?∧G2 x w')
  (HR:∀ W W' x,G2 x W→Still W W'→R W'):
  Calls Tryz.prog 47 #[.pointer (some ⟨ps,0,none⟩),.agg (opC on 9 A B Cc r v raw wv dv)] w fun e w'=>e=.returned (.bool true)∧R w':=by
 have L0:=LimbO.new c0 c1 on 9 A B Cc r v raw wv dv
 have A0:Hid (∀ W,Still (w.alloc (.cells (opC on 9 A B Cc r v raw wv dv) 44)) W→Calls Tryz.prog 102 #[.pointer (some ⟨ps,0,none⟩),.int .i64 r,.int .u64 (raw:Nat)] W fun e w'=>e=.returned (.int .u64 (ref:Nat))∧LimbO ps ph pd w.heap.size on 9 A B Cc r v raw wv dv w'∧Hid (Still (w.alloc (.cells (opC on 9 A B Cc r v raw wv dv) 44)) w')):=hide (fun W s=>(H109 W s).mono fun e w' ⟨q1,q2⟩=>⟨q1,L0.like (by rw[q2.heap,s.heap]) (by rw[q2.heap,s.heap]),hide (s.trans q2)⟩)
 have A1:Hid (∀ W,Still (w.alloc (.cells (opC on 9 A B Cc r v raw wv dv) 44)) W→Calls Tryz.prog 66 #[.pointer (some ⟨ph,0,none⟩),.int .i64 A,.int .u64 (ref:Nat)] W fun e w'=>∃ x:Int,e=.returned (.int .i64 x)∧LimbO ps ph pd w.heap.size on 9 A B Cc r v raw wv dv w'∧Hid (G1 x w')):=hide (fun W s=>(HP W s).mono fun e w' ⟨x,q1,q2,q3,q4⟩=>⟨x,q1,L0.like (by rw[q2,s.heap]) (by rw[q3,s.heap]),hide q4⟩)
 have A2:Hid (∀ W W' x,LimbO ps ph pd w.heap.size on 9 A B Cc r v raw wv dv W→Hid (G1 x W)→Still W W'→Calls Tryz.prog 111 #[.pointer (some ⟨pd,0,none⟩),.int .i64 A,.int .u64 (ref:Nat)] W' fun e w'=>e=.returned (.int .i64 x)∧LimbO ps ph pd w.heap.size on 9 A B Cc r v raw wv dv w'∧Hid (G2 x w')):=hide (fun W W' x L g s=>(HD W W' x (unhide g) s).mono fun e w' ⟨q1,q2,q3,q4⟩=>⟨q1,L.like (by rw[q2,s.heap]) (by rw[q3,s.heap]),hide q4⟩)
 have A3:=hide HR
 have HS0:=hide (Still.refl (w.alloc (.cells (opC on 9 A B Cc r v raw wv dv) 44)))
 obtain ⟨c0,c1,m0,m1,m2,m3,m4,m5,m6,m7,m8,m9⟩:=L0
 clear H109 HP HD HR
 unfold opC at *
 generalize hW:World.alloc w _=W0 at *
 generalize hB:w.heap.size=b at *
 go_enter Tryz.func47,Tryz.ntmps47
 go_wp2_with fail
 (try rw[hW]);(try rw[hB])
 go_wp2_with fail
 refine (unhide A0 _ (by first|exact unhide HS0|exact (unhide HS0).drew _)).mono ?_
 rintro e w1 ⟨rfl,⟨c0,c1,m0,m1,m2,m3,m4,m5,m6,m7,m8,m9⟩,HS1⟩
 go_wp2_with fail
 go_region_held3 (fun W=>W.cell? ⟨ps,0,none⟩=some (.pointer (some ⟨ph,0,none⟩))∧W.cell? ⟨b,2,none⟩=some (.int .i64 A)) (go_keep) (first|(go_at_call 66;refine (unhide A1 _ (by first|exact unhide HS1|exact (unhide HS1).drew _)).mono ?_;rintro e w2 ⟨x,rfl,⟨c0,c1,m0,m1,m2,m3,m4,m5,m6,m7,m8,m9⟩,g1⟩))
 all_goals go_wp2_with fail
 have HL2:Hid (LimbO ps ph pd b on 9 A B Cc r v raw wv dv w2):=hide ⟨c0,c1,m0,m1,m2,m3,m4,m5,m6,m7,m8,m9⟩
 go_region_held3 (fun W=>W.cell? ⟨ps,1,none⟩=some (.pointer (some ⟨pd,0,none⟩))∧W.cell? ⟨b,2,none⟩=some (.int .i64 A)) (go_keep) (first|(go_at_call 111;refine (unhide A2 _ _ x (unhide HL2) g1 (by first|exact Still.refl _|exact (Still.refl _).drew _)).mono ?_;rintro e w3 ⟨rfl,⟨c0,c1,m0,m1,m2,m3,m4,m5,m6,m7,m8,m9⟩,g2⟩))
 all_goals go_wp2_with fail
 all_goals go_ret
 all_goals exact ⟨by simp,unhide A3 _ _ x (unhide g2) (by first|exact Still.refl _|exact (Still.refl _).drew _)⟩
theorem handles_drop {w:World}{ps ph pd ref:Nat} (on A B Cc r v:Int) (raw wv:Nat) (dv:Value) (c0:w.cell? ⟨ps,0,none⟩=some (.pointer (some ⟨ph,0,none⟩))) (c1:w.cell? ⟨ps,1,none⟩=some (.pointer (some ⟨pd,0,none⟩))) {G1 G2:Int→World→Prop}{R:World→Prop}
  (H109:∀ W,Still (w.alloc (.cells (opC on 10 A B Cc r v raw wv dv) 44)) W→Calls Tryz.prog 102 #[.pointer (some ⟨ps,0,none⟩),.int .i64 r,.int .u64 (raw:Nat)] W fun e w'=>e=.returned (.int .u64 (ref:Nat))∧Still W w')
  (HP:∀ W,Still (w.alloc (.cells (opC on 10 A B Cc r v raw wv dv) 44)) W→Calls Tryz.prog 65 #[.pointer (some ⟨ph,0,none⟩),.int .i64 A] W fun e w'=>∃ x:Int,e=.returned (.int .i64 x)∧w'.heap[ps]?=W.heap[ps]?∧w'.heap[w.heap.size]?=W.heap[w.heap.size]?∧G1 x w')
  (HD:∀ W W' x,G1 x W→Still W W'→Calls Tryz.prog 112 #[.pointer (some ⟨pd,0,none⟩),.int .i64 A] W' fun e w'=>e=.returned (.int .i64 x)∧w'.heap[ps]?=W'.heap[ps]?∧w'.heap[w.heap.size]?=W'.heap[w.heap.size]?∧G2 x w')
  (HR:∀ W W' x,G2 x W→Still W W'→R W'):
  Calls Tryz.prog 47 #[.pointer (some ⟨ps,0,none⟩),.agg (opC on 10 A B Cc r v raw wv dv)] w fun e w'=>e=.returned (.bool true)∧R w':=by
 have L0:=LimbO.new c0 c1 on 10 A B Cc r v raw wv dv
 have A0:Hid (∀ W,Still (w.alloc (.cells (opC on 10 A B Cc r v raw wv dv) 44)) W→Calls Tryz.prog 102 #[.pointer (some ⟨ps,0,none⟩),.int .i64 r,.int .u64 (raw:Nat)] W fun e w'=>e=.returned (.int .u64 (ref:Nat))∧LimbO ps ph pd w.heap.size on 10 A B Cc r v raw wv dv w'∧Hid (Still (w.alloc (.cells (opC on 10 A B Cc r v raw wv dv) 44)) w')):=hide (fun W s=>(H109 W s).mono fun e w' ⟨q1,q2⟩=>⟨q1,L0.like (by rw[q2.heap,s.heap]) (by rw[q2.heap,s.heap]),hide (s.trans q2)⟩)
 have A1:Hid (∀ W,Still (w.alloc (.cells (opC on 10 A B Cc r v raw wv dv) 44)) W→Calls Tryz.prog 65 #[.pointer (some ⟨ph,0,none⟩),.int .i64 A] W fun e w'=>∃ x:Int,e=.returned (.int .i64 x)∧LimbO ps ph pd w.heap.size on 10 A B Cc r v raw wv dv w'∧Hid (G1 x w')):=hide (fun W s=>(HP W s).mono fun e w' ⟨x,q1,q2,q3,q4⟩=>⟨x,q1,L0.like (by rw[q2,s.heap]) (by rw[q3,s.heap]),hide q4⟩)
 have A2:Hid (∀ W W' x,LimbO ps ph pd w.heap.size on 10 A B Cc r v raw wv dv W→Hid (G1 x W)→Still W W'→Calls Tryz.prog 112 #[.pointer (some ⟨pd,0,none⟩),.int .i64 A] W' fun e w'=>e=.returned (.int .i64 x)∧LimbO ps ph pd w.heap.size on 10 A B Cc r v raw wv dv w'∧Hid (G2 x w')):=hide (fun W W' x L g s=>(HD W W' x (unhide g) s).mono fun e w' ⟨q1,q2,q3,q4⟩=>⟨q1,L.like (by rw[q2,s.heap]) (by rw[q3,s.heap]),hide q4⟩)
 have A3:=hide HR
 have HS0:=hide (Still.refl (w.alloc (.cells (opC on 10 A B Cc r v raw wv dv) 44)))
 obtain ⟨c0,c1,m0,m1,m2,m3,m4,m5,m6,m7,m8,m9⟩:=L0
 clear H109 HP HD HR
 unfold opC at *
 generalize hW:World.alloc w _=W0 at *
 generalize hB:w.heap.size=b at *
 go_enter Tryz.func47,Tryz.ntmps47
 go_wp2_with fail
 (try rw[hW]);(try rw[hB])
 go_wp2_with fail
 refine (unhide A0 _ (by first|exact unhide HS0|exact (unhide HS0).drew _)).mono ?_
 rintro e w1 ⟨rfl,⟨c0,c1,m0,m1,m2,m3,m4,m5,m6,m7,m8,m9⟩,HS1⟩
 go_wp2_with fail
 go_region_held3 (fun W=>W.cell? ⟨ps,0,none⟩=some (.pointer (some ⟨ph,0,none⟩))∧W.cell? ⟨b,2,none⟩=some (.int .i64 A)) (go_keep) (first|(go_at_call 65;refine (unhide A1 _ (by first|exact unhide HS1|exact (unhide HS1).drew _)).mono ?_;rintro e w2 ⟨x,rfl,⟨c0,c1,m0,m1,m2,m3,m4,m5,m6,m7,m8,m9⟩,g1⟩))
 all_goals go_wp2_with fail
 have HL2:Hid (LimbO ps ph pd b on 10 A B Cc r v raw wv dv w2):=hide ⟨c0,c1,m0,m1,m2,m3,m4,m5,m6,m7,m8,m9⟩
 go_region_held3 (fun W=>W.cell? ⟨ps,1,none⟩=some (.pointer (some ⟨pd,0,none⟩))∧W.cell? ⟨b,2,none⟩=some (.int .i64 A)) (go_keep) (first|(go_at_call 112;refine (unhide A2 _ _ x (unhide HL2) g1 (by first|exact Still.refl _|exact (Still.refl _).drew _)).mono ?_;rintro e w3 ⟨rfl,⟨c0,c1,m0,m1,m2,m3,m4,m5,m6,m7,m8,m9⟩,g2⟩))
 all_goals go_wp2_with fail
 all_goals go_ret
 all_goals exact ⟨by simp,unhide A3 _ _ x (unhide g2) (by first|exact Still.refl _|exact (Still.refl _).drew _)⟩
theorem plays_fields {w:World}{ps ph pd:Nat} (on dd A B Cc r v:Int) (raw wv:Nat) (dv:Value) (hod:dv.oneCell'=true) (c0:w.cell? ⟨ps,0,none⟩=some (.pointer (some ⟨ph,0,none⟩))) (c1:w.cell? ⟨ps,1,none⟩=some (.pointer (some ⟨pd,0,none⟩))) (hd:2≤dd∧dd≤6) {R:World→Prop}
  (HC:∀ W,Still (w.alloc (.cells (opC on dd A B Cc r v raw wv dv) 44)) W→Calls Tryz.prog 46 #[.pointer (some ⟨ps,0,none⟩),.agg (opC on dd A B Cc r v raw wv dv)] W fun e w'=>e=.returned (.bool true)∧R w'):
  Calls Tryz.prog 17 #[.pointer (some ⟨ps,0,none⟩),.agg (opC on dd A B Cc r v raw wv dv)] w fun e w'=>e=.returned (.bool true)∧R w':=by
 have L0:=LimbO.new c0 c1 on dd A B Cc r v raw wv dv
 have A1:=hide HC
 have HS0:=hide (Still.refl (w.alloc (.cells (opC on dd A B Cc r v raw wv dv) 44)))
 obtain ⟨c0,c1,m0,m1,m2,m3,m4,m5,m6,m7,m8,m9⟩:=L0
 clear HC
 unfold opC at *
 generalize hW:World.alloc w _=W0 at *
 generalize hS:w.heap.size=b at *
 have hdd:dd=2∨dd=3∨dd=4∨dd=5∨dd=6:=by omega
 clear hd
 rcases hdd with rfl|rfl|rfl|rfl|rfl
 all_goals go_enter Tryz.func17,Tryz.ntmps17
 all_goals go_wp2_with fail
 all_goals ((try rw[hW]);(try rw[hS]))
 all_goals go_wp2_with fail
 all_goals refine (unhide A1 _ (by first|exact unhide HS0|exact (unhide HS0).drew _)).mono ?_
 all_goals rintro e w2 ⟨rfl,hR⟩
 all_goals have HR4:=hide hR
 all_goals clear hR
 all_goals go_wp2_with fail
 all_goals go_ret
 all_goals exact ⟨by simp,unhide HR4⟩
theorem plays_handles {w:World}{ps ph pd:Nat} (on dd A B Cc r v:Int) (raw wv:Nat) (dv:Value) (hod:dv.oneCell'=true) (c0:w.cell? ⟨ps,0,none⟩=some (.pointer (some ⟨ph,0,none⟩))) (c1:w.cell? ⟨ps,1,none⟩=some (.pointer (some ⟨pd,0,none⟩))) (hd:7≤dd∧dd≤10) {R:World→Prop}
  (HC:∀ W,Still (w.alloc (.cells (opC on dd A B Cc r v raw wv dv) 44)) W→Calls Tryz.prog 47 #[.pointer (some ⟨ps,0,none⟩),.agg (opC on dd A B Cc r v raw wv dv)] W fun e w'=>e=.returned (.bool true)∧R w'):
  Calls Tryz.prog 17 #[.pointer (some ⟨ps,0,none⟩),.agg (opC on dd A B Cc r v raw wv dv)] w fun e w'=>e=.returned (.bool true)∧R w':=by
 have L0:=LimbO.new c0 c1 on dd A B Cc r v raw wv dv
 have A1:=hide HC
 have HS0:=hide (Still.refl (w.alloc (.cells (opC on dd A B Cc r v raw wv dv) 44)))
 obtain ⟨c0,c1,m0,m1,m2,m3,m4,m5,m6,m7,m8,m9⟩:=L0
 clear HC
 unfold opC at *
 generalize hW:World.alloc w _=W0 at *
 generalize hS:w.heap.size=b at *
 have hdd:dd=7∨dd=8∨dd=9∨dd=10:=by omega
 clear hd
 rcases hdd with rfl|rfl|rfl|rfl
 all_goals go_enter Tryz.func17,Tryz.ntmps17
 all_goals go_wp2_with fail
 all_goals ((try rw[hW]);(try rw[hS]))
 all_goals go_wp2_with fail
 all_goals refine (unhide A1 _ (by first|exact unhide HS0|exact (unhide HS0).drew _)).mono ?_
 all_goals rintro e w2 ⟨rfl,hR⟩
 all_goals have HR4:=hide hR
 all_goals clear hR
 all_goals go_wp2_with fail
 all_goals go_ret
 all_goals exact ⟨by simp,unhide HR4⟩
theorem plays_collect {w:World}{ps ph pd:Nat} (on A B Cc r v:Int) (raw wv:Nat) (dv:Value) (c0:w.cell? ⟨ps,0,none⟩=some (.pointer (some ⟨ph,0,none⟩))) (c1:w.cell? ⟨ps,1,none⟩=some (.pointer (some ⟨pd,0,none⟩))) {G1:World→Prop}{R:World→Prop}
  (H14:∀ W,Still (w.alloc (.cells (opC on 11 A B Cc r v raw wv dv) 44)) W→Calls Tryz.prog 21 #[.pointer (some ⟨ph,0,none⟩)] W fun e w'=>e=.returned (.tuple #[])∧w'.heap[ps]?=W.heap[ps]?∧w'.heap[w.heap.size]?=W.heap[w.heap.size]?∧G1 w')
  (H76:∀ W W',G1 W→Still W W'→Calls Tryz.prog 48 #[.pointer (some ⟨pd,0,none⟩)] W' fun e w'=>e=.returned (.tuple #[])∧R w'):
  Calls Tryz.prog 17 #[.pointer (some ⟨ps,0,none⟩),.agg (opC on 11 A B Cc r v raw wv dv)] w fun e w'=>e=.returned (.bool true)∧R w':=by
 have L0:=LimbO.new c0 c1 on 11 A B Cc r v raw wv dv
 have A1:Hid (∀ W,Still (w.alloc (.cells (opC on 11 A B Cc r v raw wv dv) 44)) W→Calls Tryz.prog 21 #[.pointer (some ⟨ph,0,none⟩)] W fun e w'=>e=.returned (.tuple #[])∧LimbO ps ph pd w.heap.size on 11 A B Cc r v raw wv dv w'∧Hid (G1 w')):=hide (fun W s=>(H14 W s).mono fun e w' ⟨q1,q2,q3,q4⟩=>⟨q1,L0.like (by rw[q2,s.heap]) (by rw[q3,s.heap]),hide q4⟩)
 have A2:=hide H76
 have HS0:=hide (Still.refl (w.alloc (.cells (opC on 11 A B Cc r v raw wv dv) 44)))
 obtain ⟨c0,c1,m0,m1,m2,m3,m4,m5,m6,m7,m8,m9⟩:=L0
 clear H14 H76
 unfold opC at *
 generalize hW:World.alloc w _=W0 at *
 generalize hB:w.heap.size=b at *
 go_enter Tryz.func17,Tryz.ntmps17
 go_wp2_with fail
 (try rw[hW]);(try rw[hB])
 go_wp2_with fail
 refine (unhide A1 _ (by first|exact unhide HS0|exact (unhide HS0).drew _)).mono ?_
 rintro e w2 ⟨rfl,⟨c0,c1,m0,m1,m2,m3,m4,m5,m6,m7,m8,m9⟩,g1⟩
 go_wp2_with fail
 refine (unhide A2 _ _ (unhide g1) (by first|exact Still.refl _|exact (Still.refl _).drew _)).mono ?_
 rintro e w4 ⟨rfl,hR⟩
 have HR4:=hide hR
 clear hR
 go_wp2_with fail
 all_goals go_ret
 all_goals exact ⟨by simp,unhide HR4⟩
theorem plays_resize {w:World}{ps ph pd:Nat} (on A B Cc r v:Int) (raw wv:Nat) (dv:Value) (c0:w.cell? ⟨ps,0,none⟩=some (.pointer (some ⟨ph,0,none⟩))) (c1:w.cell? ⟨ps,1,none⟩=some (.pointer (some ⟨pd,0,none⟩))) {G1:Nat→World→Prop}{R:World→Prop}
  (H18:∀ W,Still (w.alloc (.cells (opC on 12 A B Cc r v raw wv dv) 44)) W→Calls Tryz.prog 49 #[.pointer (some ⟨ph,0,none⟩),.int .i64 A] W fun e w'=>∃ x:Nat,e=.returned (.int .i64 (x:Nat))∧w'.heap[ps]?=W.heap[ps]?∧w'.heap[w.heap.size]?=W.heap[w.heap.size]?∧G1 x w')
  (H77:∀ W W' x,G1 x W→Still W W'→Calls Tryz.prog 50 #[.pointer (some ⟨pd,0,none⟩),.int .i64 A] W' fun e w'=>e=.returned (.int .i64 (x:Nat))∧w'.heap[ps]?=W'.heap[ps]?∧w'.heap[w.heap.size]?=W'.heap[w.heap.size]?∧(∀ W2,Still w' W2→R W2)):
  Calls Tryz.prog 17 #[.pointer (some ⟨ps,0,none⟩),.agg (opC on 12 A B Cc r v raw wv dv)] w fun e w'=>e=.returned (.bool true)∧R w':=by
 have L0:=LimbO.new c0 c1 on 12 A B Cc r v raw wv dv
 have A1:Hid (∀ W,Still (w.alloc (.cells (opC on 12 A B Cc r v raw wv dv) 44)) W→Calls Tryz.prog 49 #[.pointer (some ⟨ph,0,none⟩),.int .i64 A] W fun e w'=>∃ x:Nat,e=.returned (.int .i64 (x:Nat))∧LimbO ps ph pd w.heap.size on 12 A B Cc r v raw wv dv w'∧Hid (G1 x w')):=hide (fun W s=>(H18 W s).mono fun e w' ⟨x,q1,q2,q3,q4⟩=>⟨x,q1,L0.like (by rw[q2,s.heap]) (by rw[q3,s.heap]),hide q4⟩)
 have A2:Hid (∀ W W' x,LimbO ps ph pd w.heap.size on 12 A B Cc r v raw wv dv W→Hid (G1 x W)→Still W W'→Calls Tryz.prog 50 #[.pointer (some ⟨pd,0,none⟩),.int .i64 A] W' fun e w'=>e=.returned (.int .i64 (x:Nat))∧LimbO ps ph pd w.heap.size on 12 A B Cc r v raw wv dv w'∧Hid (∀ W2,Still w' W2→R W2)):=hide (fun W W' x L g s=>(H77 W W' x (unhide g) s).mono fun e w' ⟨q1,q2,q3,q4⟩=>⟨q1,L.like (by rw[q2,s.heap]) (by rw[q3,s.heap]),hide q4⟩)
 have HS0:=hide (Still.refl (w.alloc (.cells (opC on 12 A B Cc r v raw wv dv) 44)))
 obtain ⟨c0,c1,m0,m1,m2,m3,m4,m5,m6,m7,m8,m9⟩:=L0
 clear H18 H77
 unfold opC at *
 generalize hW:World.alloc w _=W0 at *
 generalize hB:w.heap.size=b at *
 go_enter Tryz.func17,Tryz.ntmps17
 go_wp2_with fail
 (try rw[hW]);(try rw[hB])
 go_wp2_with fail
 go_region_held3 (fun W=>W.cell? ⟨ps,0,none⟩=some (.pointer (some ⟨ph,0,none⟩))∧W.cell? ⟨b,2,none⟩=some (.int .i64 A)) (go_keep) (first|(go_at_call 49;refine (unhide A1 _ ((unhide HS0).drew _)).mono ?_;rintro e w2 ⟨x,rfl,⟨c0,c1,m0,m1,m2,m3,m4,m5,m6,m7,m8,m9⟩,g1⟩))
 all_goals go_wp2_with fail
 have HL2:Hid (LimbO ps ph pd b on 12 A B Cc r v raw wv dv w2):=hide ⟨c0,c1,m0,m1,m2,m3,m4,m5,m6,m7,m8,m9⟩
 go_region_held3 (fun W=>W.cell? ⟨ps,1,none⟩=some (.pointer (some ⟨pd,0,none⟩))∧W.cell? ⟨b,2,none⟩=some (.int .i64 A)) (go_keep) (first|(go_at_call 50;refine (unhide A2 _ _ x (unhide HL2) g1 (by first|exact Still.refl _|exact (Still.refl _).drew _)).mono ?_;rintro e w3 ⟨rfl,⟨c0,c1,m0,m1,m2,m3,m4,m5,m6,m7,m8,m9⟩,g2⟩))
 all_goals go_wp2_with fail
 all_goals go_ret
 all_goals exact ⟨by simp,unhide g2 _ (by first|exact Still.refl _|exact (Still.refl _).drew _)⟩
theorem plays_image {w:World}{ps ph pd:Nat} (on A B Cc r v:Int) (raw wv:Nat) (dv:Value) (c0:w.cell? ⟨ps,0,none⟩=some (.pointer (some ⟨ph,0,none⟩))) (c1:w.cell? ⟨ps,1,none⟩=some (.pointer (some ⟨pd,0,none⟩))) {G1:Value→World→Prop}{G2:Value→Value→World→Prop}{R:World→Prop}
  (H15:∀ W,Still (w.alloc (.cells (opC on 14 A B Cc r v raw wv dv) 44)) W→Calls Tryz.prog 30 #[.pointer (some ⟨ph,0,none⟩)] W fun e w'=>∃ y,e=.returned y∧w'.heap[ps]?=W.heap[ps]?∧w'.heap[w.heap.size]?=W.heap[w.heap.size]?∧G1 y w')
  (H80:∀ W W' y,G1 y W→Still W W'→Calls Tryz.prog 54 #[.pointer (some ⟨pd,0,none⟩)] W' fun e w'=>∃ z,e=.returned z∧G2 y z w')
  (H17:∀ W W' y z,G2 y z W→Still W W'→Calls Tryz.prog 55 #[y,z] W' fun e w'=>e=.returned (.bool true)∧R w'):
  Calls Tryz.prog 17 #[.pointer (some ⟨ps,0,none⟩),.agg (opC on 14 A B Cc r v raw wv dv)] w fun e w'=>e=.returned (.bool true)∧R w':=by
 have L0:=LimbO.new c0 c1 on 14 A B Cc r v raw wv dv
 have A1:Hid (∀ W,Still (w.alloc (.cells (opC on 14 A B Cc r v raw wv dv) 44)) W→Calls Tryz.prog 30 #[.pointer (some ⟨ph,0,none⟩)] W fun e w'=>∃ y,e=.returned y∧LimbO ps ph pd w.heap.size on 14 A B Cc r v raw wv dv w'∧Hid (G1 y w')):=hide (fun W s=>(H15 W s).mono fun e w' ⟨y,q1,q2,q3,q4⟩=>⟨y,q1,L0.like (by rw[q2,s.heap]) (by rw[q3,s.heap]),hide q4⟩)
 have A2:=hide H80
 have A3:=hide H17
 have HS0:=hide (Still.refl (w.alloc (.cells (opC on 14 A B Cc r v raw wv dv) 44)))
 obtain ⟨c0,c1,m0,m1,m2,m3,m4,m5,m6,m7,m8,m9⟩:=L0
 clear H15 H80 H17
 unfold opC at *
 generalize hW:World.alloc w _=W0 at *
 generalize hB:w.heap.size=b at *
 go_enter Tryz.func17,Tryz.ntmps17
 go_wp2_with fail
 (try rw[hW]);(try rw[hB])
 go_wp2_with fail
 refine (unhide A1 _ (by first|exact unhide HS0|exact (unhide HS0).drew _)).mono ?_
 rintro e w2 ⟨y,rfl,⟨c0,c1,m0,m1,m2,m3,m4,m5,m6,m7,m8,m9⟩,g1⟩
 go_wp2_with fail
 refine (unhide A2 _ _ y (unhide g1) (by first|exact Still.refl _|exact (Still.refl _).drew _)).mono ?_
 rintro e w3 ⟨z,rfl,g2⟩
 have HG2:=hide g2
 clear g2
 go_wp2_with fail
 refine (unhide A3 _ _ y z (unhide HG2) (by first|exact Still.refl _|exact (Still.refl _).drew _)).mono ?_
 rintro e w4 ⟨rfl,hR⟩
 have HR4:=hide hR
 clear hR
 go_wp2_with fail
 all_goals go_ret
 all_goals exact ⟨by simp,unhide HR4⟩
theorem plays_none {w:World}{ps ph pd:Nat} (on dd A B Cc r v:Int) (raw wv:Nat) (dv:Value) (c0:w.cell? ⟨ps,0,none⟩=some (.pointer (some ⟨ph,0,none⟩))) (c1:w.cell? ⟨ps,1,none⟩=some (.pointer (some ⟨pd,0,none⟩))) (hd:dd<1∨14<dd):
  Calls Tryz.prog 17 #[.pointer (some ⟨ps,0,none⟩),.agg (opC on dd A B Cc r v raw wv dv)] w fun e w'=>e=.returned (.bool true)∧Below w.heap.size w w':=by
 have L0:=LimbO.new c0 c1 on dd A B Cc r v raw wv dv
 have HB:Hid (Below w.heap.size w (w.alloc (.cells (opC on dd A B Cc r v raw wv dv) 44))):=hide ((Below.refl _ _).alloc (Nat.le_refl _) _)
 obtain ⟨c0,c1,m0,m1,m2,m3,m4,m5,m6,m7,m8,m9⟩:=L0
 have d1:(dd=1)=False:=by simp;omega
 have b1:(dd == 1)=false:=by simp;omega
 have d2:(dd=2)=False:=by simp;omega
 have b2:(dd == 2)=false:=by simp;omega
 have d3:(dd=3)=False:=by simp;omega
 have b3:(dd == 3)=false:=by simp;omega
 have d4:(dd=4)=False:=by simp;omega
 have b4:(dd == 4)=false:=by simp;omega
 have d5:(dd=5)=False:=by simp;omega
 have b5:(dd == 5)=false:=by simp;omega
 have d6:(dd=6)=False:=by simp;omega
 have b6:(dd == 6)=false:=by simp;omega
 have d7:(dd=7)=False:=by simp;omega
 have b7:(dd == 7)=false:=by simp;omega
 have d8:(dd=8)=False:=by simp;omega
 have b8:(dd == 8)=false:=by simp;omega
 have d9:(dd=9)=False:=by simp;omega
 have b9:(dd == 9)=false:=by simp;omega
 have d10:(dd=10)=False:=by simp;omega
 have b10:(dd == 10)=false:=by simp;omega
 have d11:(dd=11)=False:=by simp;omega
 have b11:(dd == 11)=false:=by simp;omega
 have d12:(dd=12)=False:=by simp;omega
 have b12:(dd == 12)=false:=by simp;omega
 have d13:(dd=13)=False:=by simp;omega
 have b13:(dd == 13)=false:=by simp;omega
 have d14:(dd=14)=False:=by simp;omega
 have b14:(dd == 14)=false:=by simp;omega
 clear hd
 unfold opC at *
 generalize hW:World.alloc w _=W0 at *
 generalize hS:w.heap.size=b at *
 go_enter Tryz.func17,Tryz.ntmps17
 go_wp2_with fail
 (try rw[hW]);(try rw[hS])
 go_wp2_with fail
 all_goals go_ret
 all_goals exact ⟨by simp,unhide HB⟩
theorem getD_snocB (l:List Ob) (x:Ob) (j:Nat) (hj:j<l.length+1):(l ++ [x]).getD j ob0=if j<l.length then l.getD j ob0 else x:=by
 by_cases h:j<l.length
 ·rw[if_pos h,List.getD_eq_getElem?_getD,List.getElem?_append_left h,List.getD_eq_getElem?_getD]
 ·have:j=l.length:=by omega
  subst this
  rw[if_neg h]
  simp
theorem getD_rep (n j:Nat):(List.replicate n 0).getD j 0=0:=by
 rw[List.getD_eq_getElem?_getD,List.getElem?_replicate]
 split <;> rfl
theorem DRaw.grown {w W:World}{pd:Nat}{dt:Nat→Nat}{N:Nat→Nat}{ol:List Ob}{sm sl:List Nat}{rt:List (Option Nat)}{C:DC} (h:DRaw w pd dt N ol sm sl rt C) {k r s at0:Nat}{bg:Bool}{v9 r9 s9:Value} (m:MadeO pd k r s ol.length bg at0 (obCell C ol) C.vO w W v9 r9 s9):
  ∃ dt' C',DRaw W pd dt' N (ol ++ [newOb k r s bg at0]) sm sl rt C'∧Fr dt dt' w W:=by
 have hl:(ol ++ [newOb k r s bg at0]).length=ol.length+1:=by simp
 obtain ⟨dt',hdt⟩:∃ dt':Nat→Nat,∀ g,dt' g=if s9.ownBlock=some g then 7+2*ol.length else if r9.ownBlock=some g then 6+2*ol.length else if v9.ownBlock=some g then 2 else dt g:=⟨_,fun _=>rfl⟩
 have hold:∀ g,g<w.heap.size→dt' g=dt g:=fun g hg=>by
  rw[hdt,if_neg (fun e=>by have:=m.so g e;omega),if_neg (fun e=>by have:=m.ro g e;omega)]
  split
  ·rename_i e
   rcases m.own g e with q|q
   ·exact (h.t2 g q).symm
   ·omega
  ·rfl
 have hk:∀ g n,n≠0→dt g=n→dt' g=n:=fun g n hn e=>(hold g (h.un g (by omega))).trans e
 have hb:∀ g,dt g≠0→dt g≠1→dt g≠2→W.heap[g]?=w.heap[g]?:=fun g h0 h1 h2=>m.blk g (h.un g h0) (by rintro rfl;exact h1 h.t1) (fun e=>h2 (h.t2 g e))
 have hnw:newOb k r s bg at0=⟨k,List.replicate r 0,List.replicate s 0,true,bg,at0⟩:=rfl
 refine ⟨dt',⟨v9,C.vS,C.vL,C.vR,fun j=>if j=ol.length then r9 else C.rf j,fun j=>if j=ol.length then s9 else C.rw j⟩,?_,⟨m.os,m.tape,m.output,m.size,fun g hg e=>⟨m.blk g hg (by rintro rfl;rw[h.t1] at e;cases e) (fun q=>by have:=h.t2 g q;omega),(hold g hg).trans e⟩⟩⟩
 refine {
  num:=fun i hi=>(m.cc i (by omega)).trans (h.num i hi),c6:=m.c6,c7:=(m.cc 7 (by decide)).trans h.c7,c8:=(m.cc 8 (by decide)).trans h.c8,c9:=(m.cc 9 (by decide)).trans h.c9
  fz:=fun i hi=>(m.ff i).trans (h.fz i hi)
  ob:=?_
  sm:=h.sm.same fun g e=>hb g (by rw[h.t3 g e];decide) (by rw[h.t3 g e];decide) (by rw[h.t3 g e];decide)
  sl:=h.sl.same fun g e=>hb g (by rw[h.t4 g e];decide) (by rw[h.t4 g e];decide) (by rw[h.t4 g e];decide)
  rt:=h.rt.same fun g e=>hb g (by rw[h.t5 g e];decide) (by rw[h.t5 g e];decide) (by rw[h.t5 g e];decide)
  rf:=?_
  rw:=?_
  t1:=hk _ _ (by decide) h.t1
  t2:=fun g e=>?_
  t3:=fun g e=>hk _ _ (by decide) (h.t3 g e)
  t4:=fun g e=>hk _ _ (by decide) (h.t4 g e)
  t5:=fun g e=>hk _ _ (by decide) (h.t5 g e)
  t6:=fun j g hj e=>?_
  t7:=fun j g hj e=>?_
  un:=fun g e=>?_ }
 ·rw[hl]
  refine m.wide.congr fun q hq=>?_
  by_cases e:q<ol.length*6
  ·rw[if_pos e]
   unfold obCell obField
   dsimp only
   rw[getD_snocB _ _ _ (by omega),if_pos (show q / 6<ol.length by omega),if_neg (show ¬ q / 6=ol.length by omega),if_neg (show ¬ q / 6=ol.length by omega)]
  ·rw[if_neg e]
   unfold obCell obField
   dsimp only
   have h6:q / 6=ol.length:=by omega
   rw[getD_snocB _ _ _ (by omega),if_neg (show ¬ q / 6<ol.length by omega),if_pos h6,if_pos h6,hnw]
   have:q-ol.length*6=q%6:=by omega
   rw[this]
   have hm:q%6<6:=Nat.mod_lt _ (by decide)
   generalize q%6=c at *
   have:c=0∨c=1∨c=2∨c=3∨c=4∨c=5:=by omega
   rcases this with rfl|rfl|rfl|rfl|rfl|rfl <;> rfl
 ·intro j hj
  rw[hl] at hj
  dsimp only
  rw[getD_snocB _ _ _ hj]
  by_cases e:j<ol.length
  ·rw[if_pos e,if_neg (by omega)]
   exact (h.rf j e).same fun g q=>hb g (by rw[h.t6 j g e q];omega) (by rw[h.t6 j g e q];omega) (by rw[h.t6 j g e q];omega)
  ·rw[if_neg e,if_pos (by omega),hnw]
   dsimp only
   rw[List.length_replicate]
   refine m.refs.congr fun q hq=>?_
   unfold numsV
   rw[getD_rep]
   rfl
 ·intro j hj
  rw[hl] at hj
  dsimp only
  rw[getD_snocB _ _ _ hj]
  by_cases e:j<ol.length
  ·rw[if_pos e,if_neg (by omega)]
   exact (h.rw j e).same fun g q=>hb g (by rw[h.t7 j g e q];omega) (by rw[h.t7 j g e q];omega) (by rw[h.t7 j g e q];omega)
  ·rw[if_neg e,if_pos (by omega),hnw]
   dsimp only
   rw[List.length_replicate]
   refine m.raws.congr fun q hq=>?_
   unfold wordV
   rw[getD_rep]
   rfl
 ·dsimp only at e
  rw[hdt,if_neg (m.vs g e),if_neg (m.vr g e),if_pos e]
 ·rw[hl] at hj
  dsimp only at e
  by_cases q:j=ol.length
  ·rw[if_pos q] at e
   rw[hdt,if_neg (m.rs g e),if_pos e,q]
  ·rw[if_neg q] at e
   exact hk _ _ (by omega) (h.t6 j g (by omega) e)
 ·rw[hl] at hj
  dsimp only at e
  by_cases q:j=ol.length
  ·rw[if_pos q] at e
   rw[hdt,if_pos e,q]
  ·rw[if_neg q] at e
   exact hk _ _ (by omega) (h.t7 j g (by omega) e)
 ·rw[hdt] at e
  split at e
  ·rename_i q;exact m.raws.lt g q
  ·split at e
   ·rename_i q;exact m.refs.lt g q
   ·split at e
    ·rename_i q;exact m.wide.lt g q
    ·exact Nat.lt_of_lt_of_le (h.un g e) m.size
theorem djoin_any {w:World}{pd:Nat}{dt:Nat→Nat}{N:Nat→Nat}{ol:List Ob}{sm sl:List Nat}{rt:List (Option Nat)}{C:DC} (h:DRaw w pd dt N ol sm sl rt C) (hn:ol.length≤900000) (hn1:1≤ol.length) (k r s at0:Nat) (bg:Bool) (hr:r≤1048576) (hs:s≤1048576) (ha:at0≤10000000):
  Calls Tryz.prog 101 #[.pointer (some ⟨pd,0,none⟩),.int .i64 (k:Nat),.int .i64 (r:Nat),.int .i64 (s:Nat),.bool bg,.int .i64 (at0:Nat)] w fun e w'=>e=.returned (.int .u64 ((if bg=true then topW+at0 else at0:Nat):Nat))∧∃ dt' C',DRaw w' pd dt' N (ol ++ [newOb k r s bg at0]) sm sl rt C'∧Fr dt dt' w w':=by
 obtain ⟨aO,cO,eO⟩:=h.ob.shape
 have c6:=h.c6
 have hW:=h.ob
 have hap:C.vO.ownBlock≠some pd:=fun e=>by have:=h.t2 pd e;rw[h.t1] at this;cases this
 rw[eO] at c6 hW hap
 refine join_walk k r s bg at0 hr hs c6 (h.fz 6 (by decide)) (by omega) hW hap (R:=fun w'=>∃ dt' C',DRaw w' pd dt' N (ol ++ [newOb k r s bg at0]) sm sl rt C'∧Fr dt dt' w w') fun W3 v9 r9 s9 m=>?_
 rw[← eO] at m
 obtain ⟨dt',C',q1,q2⟩:=h.grown m
 have hl:(ol ++ [newOb k r s bg at0]).length=ol.length+1:=by simp
 have hg:(ol ++ [newOb k r s bg at0]).getD ol.length ob0=newOb k r s bg at0:=by rw[getD_snocB _ _ _ (by omega),if_neg (by omega)]
 have:=dref_any q1 (by omega) (i:=ol.length) (by omega) (by rw[hg];exact ha)
 have e:refL (ol ++ [newOb k r s bg at0]) ol.length=if bg=true then topW+at0 else at0:=by
  unfold refL
  rw[if_neg (by omega),hg]
  rfl
 rw[e] at this
 exact this.mono fun e w' ⟨z1,z2⟩=>⟨z1,dt',C',q1.still z2.below,q2.trans (Fr.still z2)⟩
set_option maxHeartbeats 2000000
def AllD (pd:Nat) (dt:Nat→Nat) (M:Hp) (k r s:Nat) (w w':World) (v x:Nat):Prop:=∃ M',AllocR M k r s M' v x∧∃ dt' C',DAt w' pd dt' M' (M'.large-M'.kept) C'∧Fr dt dt' w w'
structure TailS (pd:Nat) (dt:Nat→Nat) (M:Hp) (k r s:Nat) (w W1:World) (half used nO cO nS cS:Nat) (aO aS:Option Addr) (fS:Nat→Value):Prop where
 c1:W1.cell? ⟨pd,1,none⟩=some (.int .i64 (half:Nat))
 c2:W1.cell? ⟨pd,2,none⟩=some (.int .i64 (used:Nat))
 c6:W1.cell? ⟨pd,6,none⟩=some (.slice aO nO cO)
 c7:W1.cell? ⟨pd,7,none⟩=some (.slice aS nS cS)
 b:half≤100000000∧used≤10000000∧nO≤10000000∧nS≤10000000
 app:∀ wr,Still W1 wr→AppS pd 7 nS fS (.int .i64 (nO:Nat)) aS cS W1 wr
 no:half<used+(1+r+s)→∀ W',Still W1 W'→AllD pd dt M k r s w W' 0 31
 yes:used+(1+r+s)≤half→∀ Wd v',AppR pd 7 nS fS (.int .i64 (nO:Nat)) (.slice aS nS cS) W1 Wd v'→Wd.cell? ⟨pd,2,none⟩=some (.int .i64 (used:Nat))∧Calls Tryz.prog 101 #[.pointer (some ⟨pd,0,none⟩),.int .i64 (k:Nat),.int .i64 (r:Nat),.int .i64 (s:Nat),.bool false,.int .i64 (used:Nat)] Wd fun e w'=>e=.returned (.int .u64 (used:Nat))∧w'.cell? ⟨pd,2,none⟩=some (.int .i64 (used:Nat))∧w'.frozen? ⟨pd,2,none⟩=false∧Hid (∀ W',Still (w'.setCell ⟨pd,2,none⟩ (.int .i64 ((used+(1+r+s):Nat):Int))) W'→AllD pd dt M k r s w W' used 0)
theorem tailS_any {pd sn:Nat}{dt dt1:Nat→Nat}{M M1:Hp}{k r s:Nat}{w W1:World}{C1:DC} (h:DAt W1 pd dt1 M1 sn C1) (hsn:sn=M1.large-M1.kept) (f:Fr dt dt1 w W1) (hrs:1+r+s≤64) (pre:PreS M M1 (1+r+s)) (hu:M1.used≤10000000) (hh:M1.half≤100000000) (hsm:M1.small.length≤10000000) (h1:1≤M1.objs.length) (hn:M1.objs.length≤900000):∃ cO cS aO aS,TailS pd dt M k r s w W1 M1.half M1.used M1.objs.length cO M1.small.length cS aO aS (numsV M1.small):=by
 obtain ⟨aO,cO,eO⟩:=h.ob.shape
 obtain ⟨aS,cS,eS⟩:=h.sm.shape
 have nm:=h.nums
 have c7:=h.c7
 have hL:=h.sm
 have hap:C1.vS.ownBlock≠some pd:=fun e=>by have:=h.t3 pd e;rw[h.t1] at this;cases this
 rw[eS] at c7 hL hap
 refine ⟨cO,cS,aO,aS,nm.n1,nm.n2,by rw[h.c6,eO],c7,⟨by omega,by omega,by omega,by omega⟩,fun wr st=>app_cell c7 (h.fz 7 (by decide)) hL hap st,fun hno W' st=>⟨M1,.inl ⟨hrs,M1,pre,.inr ⟨hno,rfl,rfl,rfl⟩⟩,dt1,C1,by rw[← hsn];exact h.still st.below,f.trans (Fr.still st)⟩,fun hyes Wd v' ra=>?_⟩
 rw[← eS] at ra
 obtain ⟨q1,q2⟩:=DRaw.appS h M1.objs.length ra
 refine ⟨q1.num 2 (by omega),?_⟩
 refine (djoin_any q1 hn h1 k r s M1.used false (by omega) (by omega) (by omega)).mono fun e w' ⟨z1,dt2,C2,z2,z3⟩=>⟨by rw[z1];simp,z2.num 2 (by omega),z2.fz 2 (by decide),hide (fun W' st=>?_)⟩
 have z4:=z2.setN (i:=2) (by omega) (M1.used+(1+r+s))
 refine ⟨addS M1 k r s,.inl ⟨hrs,M1,pre,.inl ⟨hyes,rfl,rfl,rfl⟩⟩,dt2,C2,?_,((f.trans q2).trans z3).trans ((Fr.set (by rw[z2.t1];decide) _ _).trans (Fr.still st))⟩
 have z5:DAt (w'.setCell ⟨pd,2,none⟩ (.int .i64 ((M1.used+(1+r+s):Nat):Int))) pd dt2 (addS M1 k r s) ((addS M1 k r s).large-(addS M1 k r s).kept) C2:=by
  refine z4.congr fun j hj=>?_
  have:j=0∨j=1∨j=2∨j=3∨j=4∨j=5∨j=10∨j=11∨j=12:=by omega
  rcases this with rfl|rfl|rfl|rfl|rfl|rfl|rfl|rfl|rfl <;> first|rfl|exact hsn
 exact z5.still st.below
theorem fitM_more (M:Hp) (s:Nat):(fitM M s).small=M.small∧(fitM M s).large=M.large∧(fitM M s).kept=M.kept:=by
 unfold fitM becM
 split
 ·split
  ·split <;> exact ⟨rfl,rfl,rfl⟩
  ·exact ⟨rfl,rfl,rfl⟩
 ·split
  ·split <;> exact ⟨rfl,rfl,rfl⟩
  ·exact ⟨rfl,rfl,rfl⟩
theorem dSize_any (r s:Nat) (hr:r≤10000000) (hs:s≤10000000) (w:World):Calls Tryz.prog 97 #[.int .i64 (r:Nat),.int .i64 (s:Nat)] w fun e w'=>e=.returned (.int .i64 ((1+r+s:Nat):Int))∧w'=w:=by
 have a1:IntKind.i64.wrap (1+(r:Int))=1+(r:Int):=wrap_small _ (by omega) (by omega)
 have a2:IntKind.i64.wrap (1+(r:Int)+(s:Int))=1+(r:Int)+(s:Int):=wrap_small _ (by omega) (by omega)
 go_enter Tryz.func97,Tryz.ntmps97
 go_wp2_with fail
 all_goals go_ret
 all_goals exact ⟨by simp [a1,a2],rfl⟩
theorem dalloc_small {w:World}{pd sn:Nat}{dt:Nat→Nat}{M:Hp}{C:DC} (h:DAt w pd dt M sn C) (hsn:sn=M.large-M.kept) (wf:HpWf M) (hz:ob M 0=ob0) (hn:M.objs.length≤900000) (h1:1≤M.objs.length) (hrl:M.roots.length≤1000000) (hcl:M.coll≤100000000000) (hrz:M.resz≤100000000000) {k r s:Nat} (hk:1≤k∧k≤255) (hrs:1+r+s≤64):
  Calls Tryz.prog 44 #[.pointer (some ⟨pd,0,none⟩),.int .i64 (k:Nat),.int .i64 (r:Nat),.int .i64 (s:Nat)] w fun e w'=>∃ v x:Nat,e=.returned (.tuple #[.int .u64 (v:Nat),.int .i64 (x:Nat)])∧AllD pd dt M k r s w w' v x:=by
 have hu:=wf.ok.u2;have hh:=wf.ok.h2
 have nm:=h.nums
 have n1:=nm.n1
 have n2:=nm.n2
 have H104:=hide (fun W=>dSize_any r s (by omega) (by omega) W)
 have d1:decide ((k:Int)<1)=false:=decide_eq_false (by omega)
 have d2:decide ((255:Int)<(k:Nat))=false:=decide_eq_false (by omega)
 have d3:decide ((r:Int)<0)=false:=decide_eq_false (by omega)
 have d4:decide ((1048576:Int)<(r:Nat))=false:=decide_eq_false (by omega)
 have d5:decide ((s:Int)<0)=false:=decide_eq_false (by omega)
 have d6:decide ((1048576:Int)<(s:Nat))=false:=decide_eq_false (by omega)
 obtain ⟨Z,hZ⟩:∃ Z,1+r+s=Z:=⟨_,rfl⟩
 rw[hZ] at H104
 have d7:decide ((64:Int)<(Z:Nat))=false:=decide_eq_false (by omega)
 have u0:IntKind.i64.wrap ((M.used:Int)+(Z:Int))=(M.used:Int)+(Z:Int):=wrap_small _ (by omega) (by omega)
 obtain ⟨i0,hi,hy0,hy1,hy2⟩:=info_parts Tryz.info3
 by_cases c:M.used+(1+r+s)≤M.half
 ·have d8:decide ((M.half:Int)<(M.used:Int)+(Z:Int))=false:=decide_eq_false (by omega)
  have hTd:∃ cO cS aO aS,TailS pd dt M k r s w w.drew M.half M.used M.objs.length cO M.small.length cS aO aS (numsV M.small):=tailS_any (h.still (Below.refl _ _).drew) hsn (Fr.of_below (Below.refl _ _).drew) hrs (.inl ⟨c,rfl⟩) (by omega) (by omega) (by have:=small_len wf;omega) h1 hn
  obtain ⟨cO,cS,aO,aS,hT⟩:=hTd
  have HT:=hide hT
  clear h wf hT nm hz hsn
  generalize hhf:M.half=half at *
  generalize hus:M.used=used at *
  generalize hno:M.objs.length=nO at *
  generalize hns:M.small.length=nS at *
  generalize hfs:numsV M.small=fS at *
  clear hhf hus hno hns hfs
  go_enter Tryz.func44,Tryz.ntmps44
  go_wp2_with fail
  refine (unhide H104 _).mono ?_
  rintro e w2 ⟨rfl,rfl⟩
  clear H104
  go_wp2_with fail
  go_region_held3 (fun W=>W.cell? ⟨pd,1,none⟩=some (.int .i64 (half:Nat))∧W.cell? ⟨pd,2,none⟩=some (.int .i64 (used:Nat))) (go_keep) (fail)
  clear n1 n2
  generalize hW:World.drew w2=W at *
  clear hW
  obtain ⟨c1,c2,c6,c7,⟨b1,b2,b3,b4⟩,happ,hno,hyes⟩:=unhide HT
  have u1:IntKind.i64.wrap ((used:Int)+(Z:Int))=(used:Int)+(Z:Int):=wrap_small _ (by omega) (by omega)
  have d9:decide ((half:Int)<(used:Int)+(Z:Int))=false:=decide_eq_false (by omega)
  have HYES:=hide (hyes (by omega))
  have HAPP:=hide happ
  clear happ hno hyes HT
  go_wp2_with fail
  go_region_held3 (fun W=>W.cell? ⟨pd,1,none⟩=some (.int .i64 (half:Nat))∧W.cell? ⟨pd,2,none⟩=some (.int .i64 (used:Nat))) (go_keep) (fail)
  go_wp2_with fail
  have hS:(fun w'=>w'.cell? ⟨pd,7,none⟩=some (.slice aS nS cS)∧w'.cell? ⟨pd,6,none⟩=some (.slice aO nO cO)) (W.drew.drew):=⟨c7,c6⟩
  refine till_begin (fun w'=>w'.cell? ⟨pd,7,none⟩=some (.slice aS nS cS)∧w'.cell? ⟨pd,6,none⟩=some (.slice aO nO cO)) 14 (by kernel_rfl) ?_
  refine AnyTill.take 0 (v:=?_) rfl (by kernel_rfl) (by kernel_rfl) (by kernel_rfl) (by kernel_rfl) (fun _ _ _ h=>h) ?_ rfl hS ?_
  rotate_left
  ·intro w hSw
   obtain ⟨s1,s2⟩:=hSw
   go_simp
   all_goals with_reducible rfl
  try simp only[Act.put,List.getElem_toArray,List.getElem_cons_succ,List.getElem_cons_zero,List.setIfInBounds_toArray,List.set_cons_zero,List.set_cons_succ]
  refine AnyTill.take 1 (v:=?_) rfl (by kernel_rfl) (by kernel_rfl) (by kernel_rfl) (by kernel_rfl) (fun _ _ _ h=>h) ?_ rfl hS ?_
  rotate_left
  ·intro w hSw
   obtain ⟨s1,s2⟩:=hSw
   go_simp
   all_goals with_reducible rfl
  try simp only[Act.put,List.getElem_toArray,List.getElem_cons_succ,List.getElem_cons_zero,List.setIfInBounds_toArray,List.set_cons_zero,List.set_cons_succ]
  refine AnyTill.take 2 (v:=?_) rfl (by kernel_rfl) (by kernel_rfl) (by kernel_rfl) (by kernel_rfl) (fun _ _ _ h=>h) ?_ rfl hS ?_
  rotate_left
  ·intro w hSw
   obtain ⟨s1,s2⟩:=hSw
   go_simp
   all_goals with_reducible rfl
  try simp only[Act.put,List.getElem_toArray,List.getElem_cons_succ,List.getElem_cons_zero,List.setIfInBounds_toArray,List.set_cons_zero,List.set_cons_succ]
  refine AnyTill.take 3 (v:=?_) rfl (by kernel_rfl) (by kernel_rfl) (by kernel_rfl) (by kernel_rfl) (fun _ _ _ h=>h) ?_ rfl hS ?_
  rotate_left
  ·intro w hSw
   obtain ⟨s1,s2⟩:=hSw
   go_simp
   all_goals with_reducible rfl
  try simp only[Act.put,List.getElem_toArray,List.getElem_cons_succ,List.getElem_cons_zero,List.setIfInBounds_toArray,List.set_cons_zero,List.set_cons_succ]
  refine AnyTill.take 4 (v:=?_) rfl (by kernel_rfl) (by kernel_rfl) (by kernel_rfl) (by kernel_rfl) (fun _ _ _ h=>h) ?_ rfl hS ?_
  rotate_left
  ·intro w hSw
   obtain ⟨s1,s2⟩:=hSw
   go_simp
   all_goals with_reducible rfl
  try simp only[Act.put,List.getElem_toArray,List.getElem_cons_succ,List.getElem_cons_zero,List.setIfInBounds_toArray,List.set_cons_zero,List.set_cons_succ]
  refine AnyTill.take 5 (v:=?_) rfl (by kernel_rfl) (by kernel_rfl) (by kernel_rfl) (by kernel_rfl) (fun _ _ _ h=>h) ?_ rfl hS ?_
  rotate_left
  ·intro w hSw
   obtain ⟨s1,s2⟩:=hSw
   go_simp
   all_goals with_reducible rfl
  try simp only[Act.put,List.getElem_toArray,List.getElem_cons_succ,List.getElem_cons_zero,List.setIfInBounds_toArray,List.set_cons_zero,List.set_cons_succ]
  refine AnyTill.take 6 (v:=?_) rfl (by kernel_rfl) (by kernel_rfl) (by kernel_rfl) (by kernel_rfl) (fun _ _ _ h=>h) ?_ rfl hS ?_
  rotate_left
  ·intro w hSw
   obtain ⟨s1,s2⟩:=hSw
   go_simp
   all_goals with_reducible rfl
  try simp only[Act.put,List.getElem_toArray,List.getElem_cons_succ,List.getElem_cons_zero,List.setIfInBounds_toArray,List.set_cons_zero,List.set_cons_succ]
  refine AnyTill.take 7 (v:=?_) rfl (by kernel_rfl) (by kernel_rfl) (by kernel_rfl) (by kernel_rfl) (fun _ _ _ h=>h) ?_ rfl hS ?_
  rotate_left
  ·intro w hSw
   obtain ⟨s1,s2⟩:=hSw
   go_simp
   all_goals with_reducible rfl
  try simp only[Act.put,List.getElem_toArray,List.getElem_cons_succ,List.getElem_cons_zero,List.setIfInBounds_toArray,List.set_cons_zero,List.set_cons_succ]
  refine AnyTill.take 8 (v:=?_) rfl (by kernel_rfl) (by kernel_rfl) (by kernel_rfl) (by kernel_rfl) (fun _ _ _ h=>h) ?_ rfl hS ?_
  rotate_left
  ·intro w hSw
   obtain ⟨s1,s2⟩:=hSw
   go_simp
   all_goals with_reducible rfl
  try simp only[Act.put,List.getElem_toArray,List.getElem_cons_succ,List.getElem_cons_zero,List.setIfInBounds_toArray,List.set_cons_zero,List.set_cons_succ]
  refine AnyTill.take 9 (v:=?_) rfl (by kernel_rfl) (by kernel_rfl) (by kernel_rfl) (by kernel_rfl) (fun _ _ _ h=>h) ?_ rfl hS ?_
  rotate_left
  ·intro w hSw
   obtain ⟨s1,s2⟩:=hSw
   go_simp
   all_goals with_reducible rfl
  try simp only[Act.put,List.getElem_toArray,List.getElem_cons_succ,List.getElem_cons_zero,List.setIfInBounds_toArray,List.set_cons_zero,List.set_cons_succ]
  obtain ⟨x1,x2,x3,x4⟩:=unhide HAPP (W.drew.drew) ⟨rfl,rfl,rfl,rfl⟩
  have x6:(W.drew.drew.alloc (.cells #[.int .i64 (nO:Nat)] 3)).cell? ⟨pd,6,none⟩=some (.slice aO nO cO):=by
   rw[← c6]
   simp only[World.cell?,heap_alloc_old W.drew.drew _ (show pd<W.drew.drew.heap.size from block_lt_of_cell c6)]
   rfl
  refine AnyTill.one (i:=10) (by kernel_rfl) (AnyTill.op rfl rfl fun K hK=>?_)
  go_simp
  refine hK _ _ (fun _=>⟨x2,x6⟩) ?_
  clear hK K
  try simp only[Act.put,List.getElem_toArray,List.getElem_cons_succ,List.getElem_cons_zero,List.setIfInBounds_toArray,List.set_cons_zero,List.set_cons_succ]
  refine AnyTill.one (i:=11) (by kernel_rfl) (AnyTill.law rfl rfl fun K hK=>?_)
  refine step_append_line rfl (.tmp 77) (.tmp 83) 65 rfl 3 i0 (.int .i64 0) 8 Tryz.underlying65 hi hy0 hy1 hy2 rfl (.slice aS nS cS) nS fS (by simp [Act.eval]) x1 W.heap.size (by simp [Act.eval]) (.int .i64 (nO:Nat)) x3 rfl (by omega) (by omega) ?_
  intro v9 w9 hl9 hg9
  obtain ⟨k1,k2,⟨a9,cp9,rfl,k3⟩,ko,kp,hst⟩:=x4 _ _ hl9 hg9
  have k6:w9.cell? ⟨pd,6,none⟩=some (.slice aO nO cO):=(cell_like kp _).trans c6
  have HST:=hide hst
  clear hl9 hg9 hst ko kp
  refine hK _ _ (fun _=>⟨k1,k6⟩) ?_
  clear hK K
  try simp only[Act.put,List.getElem_toArray,List.getElem_cons_succ,List.getElem_cons_zero,List.setIfInBounds_toArray,List.set_cons_zero,List.set_cons_succ]
  refine AnyTill.one (i:=12) (by kernel_rfl) (AnyTill.op rfl rfl fun K hK=>?_)
  go_simp
  refine hK _ _ (fun _=>⟨k1,k6⟩) ?_
  clear hK K
  try simp only[Act.put,List.getElem_toArray,List.getElem_cons_succ,List.getElem_cons_zero,List.setIfInBounds_toArray,List.set_cons_zero,List.set_cons_succ]
  refine AnyTill.one (i:=13) (by kernel_rfl) (AnyTill.op rfl rfl fun K hK=>?_)
  go_simp
  refine hK _ _ (fun _=>⟨k1,k6⟩) ?_
  clear hK K
  try simp only[Act.put,List.getElem_toArray,List.getElem_cons_succ,List.getElem_cons_zero,List.setIfInBounds_toArray,List.set_cons_zero,List.set_cons_succ]
  refine AnyTill.one (i:=14) (by kernel_rfl) (AnyTill.op rfl rfl fun K hK=>?_)
  go_simp
  refine hK _ _ (fun h=>absurd rfl h) ?_
  clear hK K
  try simp only[Act.put,List.getElem_toArray,List.getElem_cons_succ,List.getElem_cons_zero,List.setIfInBounds_toArray,List.set_cons_zero,List.set_cons_succ]
  refine AnyTill.done (by kernel_rfl) ?_
  obtain ⟨y2,h108⟩:=unhide HYES _ _ (unhide HST _ rfl rfl rfl rfl)
  have H108:=hide h108
  clear h108 HST HYES HAPP x1 x2 x3 x4 x6 k1 k2 k3 k6 hS c1 c2 c6 c7
  go_wp2_with fail
  refine (unhide H108).mono ?_
  rintro e w5 ⟨rfl,e2,z2,hfin⟩
  clear H108
  go_wp2_with fail
  all_goals go_ret2
  all_goals exact ⟨used,0,by simp,unhide hfin _ (by rw[show ((used+(1+r+s):Nat):Int)=(used:Int)+(Z:Int) by omega];exact Still.refl _)⟩
 ·have d8:decide ((M.half:Int)<(M.used:Int)+(Z:Int))=true:=decide_eq_true (by omega)
  have H106:Hid (∀ W,Still w W→Calls Tryz.prog 99 #[.pointer (some ⟨pd,0,none⟩)] W fun e w'=>e=.returned (.tuple #[])∧Hid (Calls Tryz.prog 100 #[.pointer (some ⟨pd,0,none⟩),.int .i64 (Z:Nat)] w' fun e w''=>e=.returned (.tuple #[])∧∃ (half used nO cO nS cS:Nat) (aO aS:Option Addr) (fS:Nat→Value),Hid (TailS pd dt M k r s w w'' half used nO cO nS cS aO aS fS))):=hide (fun W st=>(dcoll_any (h.still st.below) wf hz (by omega) h1 hrl hcl).mono fun e w' ⟨q1,M0,q2,dt',C',q3,q4⟩=>⟨q1,hide (by
   obtain ⟨b0,b1,b2,b3,b4,b5⟩:=coll_bounds wf q2
   refine (dfit_any q3 Z (by omega) b1 b2 b3 b4 (by omega)).mono fun e w'' ⟨z1,⟨C2,z2⟩,z3⟩=>⟨z1,?_⟩
   have q2':=q2
   obtain ⟨t,_,_,f,rfl⟩:=q2'
   obtain ⟨o1,o2,o3,o4,o5⟩:=fitM_objs (collM M t.k) Z
   obtain ⟨m1,m2,m3⟩:=fitM_more (collM M t.k) Z
   have hlen:(fitM (collM M t.k) Z).objs.length=M.objs.length:=by rw[o1];show ((List.range M.objs.length).map _).length=_;simp
   have hhalf:(fitM (collM M t.k) Z).half≤100000000:=by
    have e1:=fit_half (collM M t.k) Z
    obtain ⟨g1,g2,g3,g4⟩:=wantOf_ok ((collM M t.k).used+Z) (by omega)
    rw[e1]
    split
    ·split <;> omega
    ·split <;> omega
   obtain ⟨cO,cS,aO,aS,hT⟩:=tailS_any (k:=k) z2 (by rw[m2,m3];show 0=lgOf M (slC M t.k)-lgOf M (slC M t.k);omega) ((Fr.still st).trans (q4.trans z3)) hrs (.inr ⟨by omega,_,q2,by rw[hZ]⟩) (by rw[o4];omega) hhalf (by rw[m1];have:=small_len b0;omega) (by omega) (by omega)
   exact ⟨_,_,_,cO,_,cS,aO,aS,_,hide hT⟩)⟩)
  clear h wf nm hz hsn
  generalize hhf:M.half=half0 at *
  generalize hus:M.used=used0 at *
  clear hhf hus
  go_enter Tryz.func44,Tryz.ntmps44
  go_wp2_with fail
  refine (unhide H104 _).mono ?_
  rintro e w2 ⟨rfl,rfl⟩
  clear H104
  go_wp2_with fail
  go_region_held3 (fun W=>W.cell? ⟨pd,1,none⟩=some (.int .i64 (half0:Nat))∧W.cell? ⟨pd,2,none⟩=some (.int .i64 (used0:Nat))) (go_keep) (fail)
  clear n1 n2
  go_wp2_with fail
  refine (unhide H106 _ ((Still.refl _).drew _)).mono ?_
  rintro e w3 ⟨rfl,h107⟩
  clear H106
  go_wp2_with fail
  refine (unhide h107).mono ?_
  rintro e W ⟨rfl,half,used,nO,cO,nS,cS,aO,aS,fS,HT⟩
  clear h107 d8 u0 c
  obtain ⟨c1,c2,c6,c7,⟨b1,b2,b3,b4⟩,happ,hno,hyes⟩:=unhide HT
  have u1:IntKind.i64.wrap ((used:Int)+(Z:Int))=(used:Int)+(Z:Int):=wrap_small _ (by omega) (by omega)
  by_cases cc:half<used+(1+r+s)
  ·have d9:decide ((half:Int)<(used:Int)+(Z:Int))=true:=decide_eq_true (by omega)
   have HNO:=hide (hno cc)
   clear happ hno hyes HT c6 c7
   go_wp2_with fail
   go_region_held3 (fun W=>W.cell? ⟨pd,1,none⟩=some (.int .i64 (half:Nat))∧W.cell? ⟨pd,2,none⟩=some (.int .i64 (used:Nat))) (go_keep) (fail)
   all_goals go_wp2_with fail
   all_goals go_ret2
   all_goals exact ⟨0,31,by simp,unhide HNO _ ((Still.refl _).drew _)⟩
  ·have d9:decide ((half:Int)<(used:Int)+(Z:Int))=false:=decide_eq_false (by omega)
   have HYES:=hide (hyes (by omega))
   have HAPP:=hide happ
   clear happ hno hyes HT
   go_wp2_with fail
   go_region_held3 (fun W=>W.cell? ⟨pd,1,none⟩=some (.int .i64 (half:Nat))∧W.cell? ⟨pd,2,none⟩=some (.int .i64 (used:Nat))) (go_keep) (fail)
   go_wp2_with fail
   have hS:(fun w'=>w'.cell? ⟨pd,7,none⟩=some (.slice aS nS cS)∧w'.cell? ⟨pd,6,none⟩=some (.slice aO nO cO)) (W.drew.drew):=⟨c7,c6⟩
   refine till_begin (fun w'=>w'.cell? ⟨pd,7,none⟩=some (.slice aS nS cS)∧w'.cell? ⟨pd,6,none⟩=some (.slice aO nO cO)) 14 (by kernel_rfl) ?_
   refine AnyTill.take 0 (v:=?_) rfl (by kernel_rfl) (by kernel_rfl) (by kernel_rfl) (by kernel_rfl) (fun _ _ _ h=>h) ?_ rfl hS ?_
   rotate_left
   ·intro w hSw
    obtain ⟨s1,s2⟩:=hSw
    go_simp
    all_goals with_reducible rfl
   try simp only[Act.put,List.getElem_toArray,List.getElem_cons_succ,List.getElem_cons_zero,List.setIfInBounds_toArray,List.set_cons_zero,List.set_cons_succ]
   refine AnyTill.take 1 (v:=?_) rfl (by kernel_rfl) (by kernel_rfl) (by kernel_rfl) (by kernel_rfl) (fun _ _ _ h=>h) ?_ rfl hS ?_
   rotate_left
   ·intro w hSw
    obtain ⟨s1,s2⟩:=hSw
    go_simp
    all_goals with_reducible rfl
   try simp only[Act.put,List.getElem_toArray,List.getElem_cons_succ,List.getElem_cons_zero,List.setIfInBounds_toArray,List.set_cons_zero,List.set_cons_succ]
   refine AnyTill.take 2 (v:=?_) rfl (by kernel_rfl) (by kernel_rfl) (by kernel_rfl) (by kernel_rfl) (fun _ _ _ h=>h) ?_ rfl hS ?_
   rotate_left
   ·intro w hSw
    obtain ⟨s1,s2⟩:=hSw
    go_simp
    all_goals with_reducible rfl
   try simp only[Act.put,List.getElem_toArray,List.getElem_cons_succ,List.getElem_cons_zero,List.setIfInBounds_toArray,List.set_cons_zero,List.set_cons_succ]
   refine AnyTill.take 3 (v:=?_) rfl (by kernel_rfl) (by kernel_rfl) (by kernel_rfl) (by kernel_rfl) (fun _ _ _ h=>h) ?_ rfl hS ?_
   rotate_left
   ·intro w hSw
    obtain ⟨s1,s2⟩:=hSw
    go_simp
    all_goals with_reducible rfl
   try simp only[Act.put,List.getElem_toArray,List.getElem_cons_succ,List.getElem_cons_zero,List.setIfInBounds_toArray,List.set_cons_zero,List.set_cons_succ]
   refine AnyTill.take 4 (v:=?_) rfl (by kernel_rfl) (by kernel_rfl) (by kernel_rfl) (by kernel_rfl) (fun _ _ _ h=>h) ?_ rfl hS ?_
   rotate_left
   ·intro w hSw
    obtain ⟨s1,s2⟩:=hSw
    go_simp
    all_goals with_reducible rfl
   try simp only[Act.put,List.getElem_toArray,List.getElem_cons_succ,List.getElem_cons_zero,List.setIfInBounds_toArray,List.set_cons_zero,List.set_cons_succ]
   refine AnyTill.take 5 (v:=?_) rfl (by kernel_rfl) (by kernel_rfl) (by kernel_rfl) (by kernel_rfl) (fun _ _ _ h=>h) ?_ rfl hS ?_
   rotate_left
   ·intro w hSw
    obtain ⟨s1,s2⟩:=hSw
    go_simp
    all_goals with_reducible rfl
   try simp only[Act.put,List.getElem_toArray,List.getElem_cons_succ,List.getElem_cons_zero,List.setIfInBounds_toArray,List.set_cons_zero,List.set_cons_succ]
   refine AnyTill.take 6 (v:=?_) rfl (by kernel_rfl) (by kernel_rfl) (by kernel_rfl) (by kernel_rfl) (fun _ _ _ h=>h) ?_ rfl hS ?_
   rotate_left
   ·intro w hSw
    obtain ⟨s1,s2⟩:=hSw
    go_simp
    all_goals with_reducible rfl
   try simp only[Act.put,List.getElem_toArray,List.getElem_cons_succ,List.getElem_cons_zero,List.setIfInBounds_toArray,List.set_cons_zero,List.set_cons_succ]
   refine AnyTill.take 7 (v:=?_) rfl (by kernel_rfl) (by kernel_rfl) (by kernel_rfl) (by kernel_rfl) (fun _ _ _ h=>h) ?_ rfl hS ?_
   rotate_left
   ·intro w hSw
    obtain ⟨s1,s2⟩:=hSw
    go_simp
    all_goals with_reducible rfl
   try simp only[Act.put,List.getElem_toArray,List.getElem_cons_succ,List.getElem_cons_zero,List.setIfInBounds_toArray,List.set_cons_zero,List.set_cons_succ]
   refine AnyTill.take 8 (v:=?_) rfl (by kernel_rfl) (by kernel_rfl) (by kernel_rfl) (by kernel_rfl) (fun _ _ _ h=>h) ?_ rfl hS ?_
   rotate_left
   ·intro w hSw
    obtain ⟨s1,s2⟩:=hSw
    go_simp
    all_goals with_reducible rfl
   try simp only[Act.put,List.getElem_toArray,List.getElem_cons_succ,List.getElem_cons_zero,List.setIfInBounds_toArray,List.set_cons_zero,List.set_cons_succ]
   refine AnyTill.take 9 (v:=?_) rfl (by kernel_rfl) (by kernel_rfl) (by kernel_rfl) (by kernel_rfl) (fun _ _ _ h=>h) ?_ rfl hS ?_
   rotate_left
   ·intro w hSw
    obtain ⟨s1,s2⟩:=hSw
    go_simp
    all_goals with_reducible rfl
   try simp only[Act.put,List.getElem_toArray,List.getElem_cons_succ,List.getElem_cons_zero,List.setIfInBounds_toArray,List.set_cons_zero,List.set_cons_succ]
   obtain ⟨x1,x2,x3,x4⟩:=unhide HAPP (W.drew.drew) ⟨rfl,rfl,rfl,rfl⟩
   have x6:(W.drew.drew.alloc (.cells #[.int .i64 (nO:Nat)] 3)).cell? ⟨pd,6,none⟩=some (.slice aO nO cO):=by
    rw[← c6]
    simp only[World.cell?,heap_alloc_old W.drew.drew _ (show pd<W.drew.drew.heap.size from block_lt_of_cell c6)]
    rfl
   refine AnyTill.one (i:=10) (by kernel_rfl) (AnyTill.op rfl rfl fun K hK=>?_)
   go_simp
   refine hK _ _ (fun _=>⟨x2,x6⟩) ?_
   clear hK K
   try simp only[Act.put,List.getElem_toArray,List.getElem_cons_succ,List.getElem_cons_zero,List.setIfInBounds_toArray,List.set_cons_zero,List.set_cons_succ]
   refine AnyTill.one (i:=11) (by kernel_rfl) (AnyTill.law rfl rfl fun K hK=>?_)
   refine step_append_line rfl (.tmp 77) (.tmp 83) 65 rfl 3 i0 (.int .i64 0) 8 Tryz.underlying65 hi hy0 hy1 hy2 rfl (.slice aS nS cS) nS fS (by simp [Act.eval]) x1 W.heap.size (by simp [Act.eval]) (.int .i64 (nO:Nat)) x3 rfl (by omega) (by omega) ?_
   intro v9 w9 hl9 hg9
   obtain ⟨k1,k2,⟨a9,cp9,rfl,k3⟩,ko,kp,hst⟩:=x4 _ _ hl9 hg9
   have k6:w9.cell? ⟨pd,6,none⟩=some (.slice aO nO cO):=(cell_like kp _).trans c6
   have HST:=hide hst
   clear hl9 hg9 hst ko kp
   refine hK _ _ (fun _=>⟨k1,k6⟩) ?_
   clear hK K
   try simp only[Act.put,List.getElem_toArray,List.getElem_cons_succ,List.getElem_cons_zero,List.setIfInBounds_toArray,List.set_cons_zero,List.set_cons_succ]
   refine AnyTill.one (i:=12) (by kernel_rfl) (AnyTill.op rfl rfl fun K hK=>?_)
   go_simp
   refine hK _ _ (fun _=>⟨k1,k6⟩) ?_
   clear hK K
   try simp only[Act.put,List.getElem_toArray,List.getElem_cons_succ,List.getElem_cons_zero,List.setIfInBounds_toArray,List.set_cons_zero,List.set_cons_succ]
   refine AnyTill.one (i:=13) (by kernel_rfl) (AnyTill.op rfl rfl fun K hK=>?_)
   go_simp
   refine hK _ _ (fun _=>⟨k1,k6⟩) ?_
   clear hK K
   try simp only[Act.put,List.getElem_toArray,List.getElem_cons_succ,List.getElem_cons_zero,List.setIfInBounds_toArray,List.set_cons_zero,List.set_cons_succ]
   refine AnyTill.one (i:=14) (by kernel_rfl) (AnyTill.op rfl rfl fun K hK=>?_)
   go_simp
   refine hK _ _ (fun h=>absurd rfl h) ?_
   clear hK K
   try simp only[Act.put,List.getElem_toArray,List.getElem_cons_succ,List.getElem_cons_zero,List.setIfInBounds_toArray,List.set_cons_zero,List.set_cons_succ]
   refine AnyTill.done (by kernel_rfl) ?_
   obtain ⟨y2,h108⟩:=unhide HYES _ _ (unhide HST _ rfl rfl rfl rfl)
   have H108:=hide h108
   clear h108 HST HYES HAPP x1 x2 x3 x4 x6 k1 k2 k3 k6 hS c1 c2 c6 c7
   go_wp2_with fail
   refine (unhide H108).mono ?_
   rintro e w5 ⟨rfl,e2,z2,hfin⟩
   clear H108
   go_wp2_with fail
   all_goals go_ret2
   all_goals exact ⟨used,0,by simp,unhide hfin _ (by rw[show ((used+(1+r+s):Nat):Int)=(used:Int)+(Z:Int) by omega];exact Still.refl _)⟩
end Go.Proofs.YtidfllgaeiopjabGreat
